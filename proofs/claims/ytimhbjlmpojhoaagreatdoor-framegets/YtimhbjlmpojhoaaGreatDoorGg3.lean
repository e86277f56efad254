/-
  Out of FrSpine, FrGetD, FrGetP, FrRev, FrAckR, FrPutA, FrFields, RgPlain, RgCheck, FrIsSet, FrMayP, RgGuard, FrMay.
-/
import Derived.Test.YtimhbjlmpojhoaaGreatDoorGg2
import Derived.Test.YtimhbjlmpojhoaaGreatDoorGg1

/-! A region that draws its order, with a spine: operations that turn the world, one behind the other, each of which hands its value to the next; all else reads. No program in sight. -/
namespace Go.Proofs.YtimhbjlmpojhoaaGreatDoor
open Go Go.RowKit

section
variable {F : Fence} {n : Nat} {P : Program} {ops : Array Oper} {Q : Exit → Act → World → Prop} {md : Region.Mode}
theorem puts_size : ∀ (ds : List Nat) (a : Act) (k : Nat) (x : Nat → Value), (putsV a ds k x).tmps.size = a.tmps.size
  | [], _, _, _ => rfl
  | d :: ds, a, k, x => by
    rw [putsV, puts_size ds]
    simp [Act.put]
theorem put_far (a : Act) (d : Nat) (v : Value) (h : a.tmps.size ≤ d) : a.put (some d) v = a := by
  simp only [Act.put]
  congr 1
  exact Array.setIfInBounds_eq_of_size_le h
theorem anyIn_spine {a0 : Act} {W0 : World} (V : Nat → Value) (R : Nat → World → Value → Prop) (v0 : Value) (ch ds : List Nat) (dep dcl : Nat → List Nat) (hd : edgesB md ops dep = true) (hcl0 : ((List.range ops.size).all fun j => (dcl j).all fun i => (dep j).contains i || (dep j).any fun q => (dcl q).contains i) = true) (hlen : ds.length = ops.size) (hnd : ds.Nodup) (hchn : ch.Nodup)
    (hord : ∀ k i j, ch[k]? = some j → ch[k + 1]? = some i → j ∈ dep i)
    (hin : ∀ j ∈ ch, j < ops.size)
    (h0 : R 0 W0 v0)
    (hfix : ∀ (x : Nat → Value) (W : World) (m i d : Nat) (u : Value), R m W u → ds[i]? = some d → i ∉ ch → (∀ j ∈ dep i, j ∉ ch → x j = V j) → (∀ k j, ch[k]? = some j → j ∈ dep i → k < m) → (∀ k j, ch[k]? = some j → i ∈ dcl j → m ≤ k) → wpOpIn F n P ops Q i (fun a' W' => a' = (putsV a0 ds 0 x).put (some d) (V i) ∧ W' = W) (putsV a0 ds 0 x) W)
    (hcal : ∀ (x : Nat → Value) (W : World) (k i d : Nat) (u : Value), R k W u → ch[k]? = some i → ds[i]? = some d → (∀ j ∈ dep i, j ∉ ch → x j = V j) → (k = 0 → u = v0) → (∀ p j, k = p + 1 → ch[p]? = some j → x j = u) → wpOpIn F n P ops Q i (fun a' W' => ∃ v', a' = (putsV a0 ds 0 x).put (some d) v' ∧ R (k + 1) W' v') (putsV a0 ds 0 x) W)
    (hdone : ∀ (x : Nat → Value) (W : World) (u : Value), R ch.length W u → (∀ j, j < ops.size → j ∉ ch → x j = V j) → (∀ p j, ch.length = p + 1 → ch[p]? = some j → x j = u) → Q .normal (putsV a0 ds 0 x) W) : wpAnyIn F n P md ops Q ops.size (Array.replicate ops.size false) a0 W0 := by
  refine anyIn_inv2 (Inv := fun l a W => ∃ (x : Nat → Value) (m : Nat) (u : Value), a = putsV a0 ds 0 x ∧ R m W u ∧ (∀ j, On l j → j ∉ ch → x j = V j) ∧ (∀ j, On l j → ∀ i ∈ dep j, On l i) ∧ (∀ k j, ch[k]? = some j → (On l j ↔ k < m)) ∧ m ≤ ch.length ∧ (m = 0 → u = v0) ∧ (∀ p j, m = p + 1 → ch[p]? = some j → x j = u)) dep ops.size rfl hd ?_ ?_ _ _ _ _ (by simp) (by simp) ?_
  · rintro l a W i hl ⟨x, m, u, rfl, h1, h2, h4, h5, h6, h8, h9⟩ hi hno hdep
    have hi' : i < ds.length := by omega
    have hdi : ds[i]? = some ds[i] := List.getElem?_eq_getElem hi'
    have hfx : ∀ j ∈ dep i, j ∉ ch → x j = V j := fun j hj hc => h2 j (hdep j hj) hc
    have hlt : ∀ j, On l j → j < ops.size := by
      intro j hj
      unfold On at hj
      rcases Nat.lt_or_ge j l.size with h | h
      · omega
      · rw [Array.getD_eq_getD_getElem?, Array.getElem?_eq_none h] at hj
        cases hj
    have hback : ∀ j q, j < ops.size → q ∈ dep j → q < j := by
      intro j q hj hq
      have hall2 := List.all_eq_true.1 hd j (by rw [List.mem_range]; exact hj)
      rw [Array.getElem?_eq_getElem hj] at hall2
      simp only [Bool.and_eq_true] at hall2
      obtain ⟨e, he, he2⟩ := List.any_eq_true.1 (List.all_eq_true.1 hall2.1 q hq)
      simp only [Bool.and_eq_true, decide_eq_true_eq] at he2
      have h7 := List.all_eq_true.1 hall2.2 e he
      rw [he2.2] at h7
      simp only [Bool.not_true, Bool.false_or, decide_eq_true_eq] at h7
      omega
    have hclo : ∀ j, On l j → ∀ q ∈ dcl j, On l q := by
      intro j
      induction j using Nat.strongRecOn with
      | _ j ih =>
        intro hj q hq
        have h0 := List.all_eq_true.1 (List.all_eq_true.1 hcl0 j (by rw [List.mem_range]; exact hlt j hj)) q hq
        rw [Bool.or_eq_true] at h0
        rcases h0 with h0 | h0
        · exact h4 j hj q (by simpa using h0)
        · obtain ⟨p, hp, hp2⟩ := List.any_eq_true.1 h0
          exact ih p (hback j p (hlt j hj) hp) (h4 j hj p hp) q (by simpa using hp2)
    have hon : ∀ j, On (l.setIfInBounds i true) j ↔ j = i ∨ On l j := by
      intro j
      constructor
      · intro h
        by_cases e : j = i
        · exact .inl e
        · exact .inr (h.of_set (Ne.symm e))
      · rintro (rfl | h)
        · exact On.self (by omega)
        · exact h.set
    have hcl : ∀ j, On (l.setIfInBounds i true) j → ∀ i' ∈ dep j, On (l.setIfInBounds i true) i' := by
      intro j hj q hq
      rcases (hon j).1 hj with rfl | hj
      · exact (hdep q hq).set
      · exact (h4 j hj q hq).set
    by_cases hc : i ∈ ch
    · obtain ⟨k, hk, hki⟩ := List.getElem_of_mem hc
      have hk' : ch[k]? = some i := by rw [List.getElem?_eq_getElem hk, hki]
      have hmk : m ≤ k := Nat.le_of_not_lt fun h => hno ((h5 k i hk').2 h)
      have hm : m = k := by
        cases k with
        | zero => omega
        | succ p =>
          have hp : ch[p]? = some ch[p] := List.getElem?_eq_getElem (by omega)
          have := (h5 p _ hp).1 (hdep _ (hord p i _ hp hk'))
          omega
      subst hm
      refine wpOpIn_mono ?_ (hcal x W m i ds[i] u h1 hk' hdi hfx h8 h9)
      rintro a' W' ⟨v', rfl, hR⟩
      refine ⟨updV x i v', m + 1, v', ?_, hR, ?_, hcl, ?_, by omega, fun e => by omega, ?_⟩
      · rw [puts_put ds a0 0 i _ x _ hnd hdi, Nat.zero_add]
      · intro j hj hjc
        have hne : j ≠ i := fun e => hjc (e ▸ hc)
        unfold updV
        rw [if_neg hne]
        exact h2 j (((hon j).1 hj).resolve_left hne) hjc
      · intro k j hkj
        rw [hon j, h5 k j hkj]
        constructor
        · rintro (rfl | h)
          · by_cases hkm : k < m
            · omega
            · by_cases hkm2 : m < k
              · obtain ⟨p1, p2⟩ := List.getElem?_eq_some_iff.1 hkj
                obtain ⟨q1, q2⟩ := List.getElem?_eq_some_iff.1 hk'
                exact absurd (q2.trans p2.symm) (List.pairwise_iff_getElem.1 hchn m k q1 p1 hkm2)
              · omega
          · omega
        · intro h
          by_cases hkm : k = m
          · subst hkm
            rw [hkj] at hk'
            exact .inl (Option.some.inj hk')
          · exact .inr (by omega)
      · intro p j hp hpj
        obtain rfl : m = p := by omega
        rw [hk'] at hpj
        obtain rfl := Option.some.inj hpj
        unfold updV
        rw [if_pos rfl]
    · refine wpOpIn_mono ?_ (hfix x W m i ds[i] u h1 hdi hc hfx (fun k j hkj hj => (h5 k j hkj).1 (hdep j hj)) (fun k j hkj hij => Nat.le_of_not_lt fun h => hno (hclo j ((h5 k j hkj).2 h) i hij)))
      rintro a' W' ⟨rfl, rfl⟩
      refine ⟨updV x i (V i), m, u, ?_, h1, ?_, hcl, ?_, h6, h8, ?_⟩
      · rw [puts_put ds a0 0 i _ x _ hnd hdi, Nat.zero_add]
      · intro j hj hjc
        unfold updV
        split
        · rename_i e; rw [e]
        · rename_i e; exact h2 j (((hon j).1 hj).resolve_left e) hjc
      · intro k j hkj
        have hne : j ≠ i := fun e => hc (e ▸ List.mem_of_getElem? hkj)
        rw [hon j, ← h5 k j hkj]
        exact ⟨fun h => h.resolve_left hne, .inr⟩
      · intro p j hp hpj
        have hne : j ≠ i := fun e => hc (e ▸ List.mem_of_getElem? hpj)
        unfold updV
        rw [if_neg hne]
        exact h9 p j hp hpj
  · rintro l a W ⟨x, m, u, rfl, h1, h2, h4, h5, h6, h8, h9⟩ hon
    have hm : m = ch.length := by
      rcases Nat.eq_or_lt_of_le h6 with e | e
      · exact e
      · have hp : ch[m]? = some ch[m] := List.getElem?_eq_getElem e
        have := (h5 m _ hp).1 (hon _ (hin _ (List.getElem_mem e)))
        omega
    subst hm
    exact hdone x W u h1 (fun j hj hjc => h2 j (hon j hj) hjc) h9
  · exact ⟨_, 0, v0, (puts_start a0 ds 0).symm, h0, fun j hj => absurd hj (On.none _ _), fun j hj => absurd hj (On.none _ _), fun k j _ => ⟨fun h => absurd h (On.none _ _), fun h => absurd h (Nat.not_lt_zero _)⟩, Nat.zero_le _, fun _ => rfl, fun p j h => by omega⟩
end
end Go.Proofs.YtimhbjlmpojhoaaGreatDoor

/-! frame's reader: crypto, maxStreams, close (written by mkgetd.py). -/
namespace Go.Proofs.YtimhbjlmpojhoaaGreatDoor
open Go Go.RowKit

theorem Rd.same {w w' : World} {g tb : Nat} {s : SL} (H : Rd w g s tb) (hg : w'.heap[g]? = w.heap[g]?) (hs : 0 < s.len → w'.heap[s.g]? = w.heap[s.g]?) (hl : w'.heap[1]? = w.heap[1]?) (hz : w.heap.size ≤ w'.heap.size) : Rd w' g s tb :=
  ⟨hg.trans H.row, H.ok.same hs hz, H.told, H.ne, H.lens.same hl, H.gne, H.len⟩
theorem Rd.setc {w : World} {g tb q j : Nat} {s : SL} (H : Rd w g s tb) (hne : q ≠ g) (hs : 0 < s.len → s.g ≠ q) (hl : 1 ≠ q) (v : Value) : Rd (w.setCell ⟨q, j, none⟩ v) g s tb :=
  H.same (Below.heap_setCell _ _ _ _ (fun e => hne (Eq.symm e))) (fun p => Below.heap_setCell _ _ _ _ (fun e => hs p e)) (Below.heap_setCell _ _ _ _ (fun e => hl e)) (by simp [World.setCell])
theorem grown_setc {w w' : World} {g q j : Nat} (hg : w.grownBy w' (some g)) (hq : w.heap.size ≤ q) (v : Value) : w.grownBy (w'.setCell ⟨q, j, none⟩ v) (some g) :=
  ⟨hg.os, hg.tape, hg.output, by simp [World.setCell]; exact hg.size, fun k hk hn => (Below.heap_setCell _ _ _ _ (fun e => by have e : k = q := e; omega)).trans (hg.block k hk hn)⟩
theorem own_setc {w : World} {base n q j : Nat} {e : TypeId} {z : Nat} {v u : Value} {xs : List Value} (h : w.ownsRow base e z v n xs) (hq : q < base) : (w.setCell ⟨q, j, none⟩ u).ownsRow base e z v n xs :=
  own_grown h (grown_set (grown_refl w (some q))) hq
theorem own_setr {w : World} {base n q : Nat} {e : TypeId} {z : Nat} {v : Value} {xs : List Value} (h : w.ownsRow base e z v n xs) (hq : q < base) (cs : Array Value) : (w.setRow q cs).ownsRow base e z v n xs :=
  own_grown (g := q) h ⟨rfl, rfl, rfl, by rw [size_setRow]; exact Nat.le_refl _, fun k _ hn => setRow_other w q k cs (fun e => hn (by rw [e]))⟩ hq
theorem SL.of_ownF {w : World} {base n cap : Nat} {a : Option Addr} {b : List By} (h : w.ownsRow base 5 1 (.slice a n cap) n (vb b)) : ∃ s : SL, s.a = a ∧ s.len = n ∧ s.cap = cap ∧ s.b = b ∧ s.Ok w := by
  obtain ⟨s, hv, hl, hb, hok, _⟩ := SL.of_own h
  unfold SL.v at hv
  injection hv with h1 h2 h3
  exact ⟨s, h1, h2, h3, hb, hok⟩
/-- A frame with bytes. -/
theorem new_data (base : Nat) (w : World) (k st of li co : Nat) (fi : Bool) (s : SL) (hr : RowK base s.b w (.slice s.a s.len s.cap)) (hs : s.Ok w) (h0 : k < 256) (h1 : st ≤ 4611686018427387903) (h2 : of ≤ 4611686018427387903) (h3 : li ≤ 4611686018427387903) (h4 : co ≤ 4611686018427387903) : FrNew base w ⟨k, st, of, li, co, fi, s, noRg⟩ :=
  ⟨hr, hs, World.ownsRow_nil _ _ _ _, noRg_ok w, h0, h1, h2, h3, h4⟩
theorem and_1 : ∀ k : Fin 32, (bits .and .u64 (k.val : Int) 1 != 0) = decide (k.val % 2 = 1) := by decide +kernel
theorem and_2 : ∀ k : Fin 32, (bits .and .u64 (k.val : Int) 2 != 0) = decide (k.val / 2 % 2 = 1) := by decide +kernel
theorem and_4 : ∀ k : Fin 32, (bits .and .u64 (k.val : Int) 4 != 0) = decide (k.val / 4 % 2 = 1) := by decide +kernel

theorem close_eq (b : List By) : Fr.bodyP 28 b = Fr.thenR Fr.numR (fun co => Fr.thenR (uptoR 0) fun _ => Fr.thenR (Fr.placedR 0) fun d => Fr.okR { Fr.f0 with kind := 13, code := co, data := d }) b := by
  show Fr.thenR Fr.numR _ b = _
  unfold Fr.thenR
  cases Fr.numR b with
  | error e => rfl
  | ok x =>
    obtain ⟨a, b'⟩ := x
    simp only
    show Fr.thenR Fr.numR _ b' = _
    unfold uptoR Fr.thenR
    cases Fr.numR b' with
    | error e => rfl
    | ok y =>
      obtain ⟨z, b''⟩ := y
      cases z with
      | zero => rfl
      | succ z => rfl

set_option maxRecDepth 20000 in
set_option maxHeartbeats 1000000 in
theorem rd_maxStreams (g : Nat) (s : SL) (tb : Nat) (w : World) (h : Rd w g s tb) (ht : tb = 18 ∨ tb = 19) :
    Calls Tryz.prog 137 #[.pointer (some ⟨g, 0, none⟩)] w (RdPost w g s tb (Fr.bodyP tb) (frV w.heap.size)) := by
  have hgw := h.row.lt
  have hLl := h.lens.lt
  have H := veil h
  have b0 := veil ((Below.refl _ w).alloc (Nat.le_refl _) (.cells zF 37))
  have R0 := veil (Row.new w 37 zF)
  have E0 := veil (show Fr.bodyP tb s.b = Fr.thenR (uptoR 1152921504606846976) (fun lim => Fr.okR { Fr.f0 with kind := 10, limit := lim, fin := decide (tb % 2 = 1) }) s.b by
    rcases ht with rfl | rfl
    · show Fr.thenR Fr.numR _ s.b = Fr.thenR (uptoR _) _ s.b
      unfold uptoR Fr.thenR
      cases Fr.numR s.b with
      | error e => rfl
      | ok x =>
        obtain ⟨a, b'⟩ := x
        simp only
        split <;> rfl
    · show Fr.thenR Fr.numR _ s.b = Fr.thenR (uptoR _) _ s.b
      unfold uptoR Fr.thenR
      cases Fr.numR s.b with
      | error e => rfl
      | ok x =>
        obtain ⟨a, b'⟩ := x
        simp only
        split <;> rfl)
  have A1 := veil (show (bits .and .u64 (tb : Int) ((1 : Nat) : Int) != 0) = decide (tb % 2 = 1) from and_1 ⟨tb, by omega⟩)
  clear h ht
  go_enter Tryz.func137, Tryz.ntmps137
  go_wp2_with fail
  refine (rd_upto g s tb 1152921504606846976 (w.alloc (.cells zF 37)) (H.out.below b0.out)).mono ?_
  rintro x1 w1 (⟨e, he, rfl, hg⟩ | ⟨n1, r1, v1, s1, he1, rfl, ⟨⟨rfl, hv1⟩, _⟩, hR1, hb1, hsg1, hsl1, hg1⟩)
  · exact ⟨rfl, .inl ⟨e, ch_err E0.out rfl he, rfl, grown_trans (grown_alloc (.cells zF 37) (some g)) hg⟩⟩
  have E1 := veil (ch_ok E0.out rfl he1)
  have G1 := veil (grown_trans (grown_alloc (.cells zF 37) (some g)) hg1)
  have Q1 := veil (Row.grown R0.out hg1 (show w.heap.size ≠ g by omega))
  have B1 := veil hb1
  have D1 := veil hR1
  have M1 := veil (show s1.g = s.g ∧ s1.len ≤ s.len from ⟨hsg1, hsl1⟩)
  have V1 := veil hv1
  clear he1 hg1 hb1 hR1 hsg1 hsl1 hv1
  go_wp2_with fail
  refine (rd_has g s1 tb 1 w1 D1.out).mono ?_
  rintro x2 w2 ⟨rfl, hw2⟩
  obtain rfl := hw2.symm
  rw [A1.out]
  go_wp2_with (with_reducible (show wpList _ _ _ (⟨_, Op.store 37 _ _, _, _, _, _⟩ :: _) _ _)
               refine store_row rfl 37 _ _ rfl w.heap.size #[.int .u8 10, .int .u64 0, .int .u64 0, .int .u64 (n1 : Int), .int .u64 0, .bool (decide (tb % 2 = 1)), .slice none 0 0, .slice none 0 0] rfl rfl _ _ Q1.out 8 (by kernel_rfl) rfl rfl (by kernel_rfl) ?_)
  refine bodyPost_ret (results_cell_row rfl _ _ w.heap.size _ #[.int .u8 10, .int .u64 0, .int .u64 0, .int .u64 (n1 : Int), .int .u64 0, .bool (decide (tb % 2 = 1)), .slice none 0 0, .slice none 0 0] (0, 0) _ rfl (Q1.out.put _) Tryz.underlying37 rfl (by kernel_rfl)) rfl ?_
  refine .inr ⟨_, _, _, s1, E1.out, rfl, ⟨⟨10, 0, 0, n1, 0, decide (tb % 2 = 1), noD, noRg⟩, rfl, new_plain _ _ _ _ _ _ _ _ (by decide) (Nat.zero_le _) (Nat.zero_le _) V1.out (Nat.zero_le _), rfl⟩, D1.out.put (by omega) (fun p => by have := H.out.ok.lt (Nat.lt_of_lt_of_le p M1.out.2); rw [M1.out.1]; omega) (by omega) _, B1.out, M1.out.1, M1.out.2, grown_put G1.out (Nat.le_refl _) _⟩

set_option maxRecDepth 20000 in
set_option maxHeartbeats 2000000 in
theorem rd_crypto (g : Nat) (s : SL) (tb : Nat) (w : World) (h : Rd w g s tb) :
    Calls Tryz.prog 134 #[.pointer (some ⟨g, 0, none⟩)] w (RdPost w g s tb (Fr.bodyP 6) (frV w.heap.size)) := by
  have hgw := h.row.lt
  have hLl := h.lens.lt
  have H := veil h
  have b0 := veil ((Below.refl _ w).alloc (Nat.le_refl _) (.cells zF 37))
  have R0 := veil (Row.new w 37 zF)
  have E0 := veil (show Fr.bodyP 6 s.b = Fr.thenR Fr.numR (fun off => Fr.thenR (Fr.placedR off) fun d => Fr.okR { Fr.f0 with kind := 6, offset := off, data := d }) s.b from rfl)
  clear h
  go_enter Tryz.func134, Tryz.ntmps134
  go_wp2_with fail
  refine (rd_num g s tb (w.alloc (.cells zF 37)) (H.out.below b0.out)).mono ?_
  rintro x1 w1 (⟨e, he, rfl, hg⟩ | ⟨n1, r1, v1, s1, he1, rfl, ⟨rfl, hv1⟩, hR1, hb1, hsg1, hsl1, hg1⟩)
  · exact ⟨rfl, .inl ⟨e, ch_err E0.out rfl he, rfl, grown_trans (grown_alloc (.cells zF 37) (some g)) hg⟩⟩
  have E1 := veil (ch_ok E0.out rfl he1)
  have G1 := veil (grown_trans (grown_alloc (.cells zF 37) (some g)) hg1)
  have Q1 := veil (Row.grown R0.out hg1 (show w.heap.size ≠ g by omega))
  have B1 := veil hb1
  have D1 := veil hR1
  have M1 := veil (show s1.g = s.g ∧ s1.len ≤ s.len from ⟨hsg1, hsl1⟩)
  have V1 := veil hv1
  clear he1 hg1 hb1 hR1 hsg1 hsl1 hv1
  go_wp2_with fail
  refine (rd_sized g s1 tb n1 (w1.alloc (.cells #[.int .u8 6, .int .u64 0, .int .u64 (n1 : Int), .int .u64 0, .int .u64 0, .bool false, .slice none 0 0, .slice none 0 0] 37)) (D1.out.below ((Below.refl _ w1).alloc (Nat.le_refl _) _)) V1.out).mono ?_
  rintro x2 w2 (⟨e, he, rfl, hg⟩ | ⟨d2, r2, v2, s2, he2, rfl, hV2, hR2, hb2, hsg2, hsl2, hg2⟩)
  · exact ⟨rfl, .inl ⟨e, ch_err E1.out B1.out he, rfl, grown_trans (grown_trans G1.out (grown_alloc (.cells #[.int .u8 6, .int .u64 0, .int .u64 (n1 : Int), .int .u64 0, .int .u64 0, .bool false, .slice none 0 0, .slice none 0 0] 37) (some g))) hg⟩⟩
  obtain ⟨aV, cV, rfl⟩ := own_shapeF hV2
  have hq1 : w.heap.size + 1 ≤ w1.heap.size := by have := G1.out.size; have := Q1.out.lt; omega
  have E2 := veil (ch_ok E1.out B1.out he2)
  have RQ := veil (Row.grown (Row.new w1 37 #[.int .u8 6, .int .u64 0, .int .u64 (n1 : Int), .int .u64 0, .int .u64 0, .bool false, .slice none 0 0, .slice none 0 0]) hg2 (show w1.heap.size ≠ g by omega))
  have RH := veil (Row.grown (Q1.out.alloc (.cells #[.int .u8 6, .int .u64 0, .int .u64 (n1 : Int), .int .u64 0, .int .u64 0, .bool false, .slice none 0 0, .slice none 0 0] 37)) hg2 (show w.heap.size ≠ g by omega))
  have G2 := veil (grown_trans (grown_trans G1.out (grown_alloc (.cells #[.int .u8 6, .int .u64 0, .int .u64 (n1 : Int), .int .u64 0, .int .u64 0, .bool false, .slice none 0 0, .slice none 0 0] 37) (some g))) hg2)
  have B2 := veil hb2
  have D2 := veil hR2
  have M2 := veil (show s2.g = s.g ∧ s2.len ≤ s.len from ⟨hsg2.trans M1.out.1, Nat.le_trans hsl2 M1.out.2⟩)
  have W2 := veil (show w2.ownsRow (w1.heap.size + 1) 5 1 (.slice aV d2.length cV) d2.length (vb d2) by
    have := hV2
    unfold RowK at this
    rwa [show (w1.alloc (.cells #[.int .u8 6, .int .u64 0, .int .u64 (n1 : Int), .int .u64 0, .int .u64 0, .bool false, .slice none 0 0, .slice none 0 0] 37)).heap.size = w1.heap.size + 1 by simp] at this)
  have cq6 : w2.cell? ⟨w1.heap.size, 6, none⟩ = some (.slice none 0 0) := RQ.out.cell 6
  have zq6 := RQ.out.frozen 6
  have RQ2 := veil (show Row (w2.setCell ⟨w1.heap.size, 6, none⟩ (.slice aV d2.length cV)) w1.heap.size 37 #[.int .u8 6, .int .u64 0, .int .u64 (n1 : Int), .int .u64 0, .int .u64 0, .bool false, .slice aV d2.length cV, .slice none 0 0] from RQ.out.set 6 _)
  have RH2 := veil (RH.out.other (a := ⟨w1.heap.size, 6, none⟩) (show w.heap.size ≠ w1.heap.size by omega) (.slice aV d2.length cV))
  clear he2 hV2 hR2 hb2 hsg2 hsl2 hg2
  go_wp2_with (first
    | (with_reducible (show wpList _ _ _ (⟨_, Op.load 37 _, _, _, _, _⟩ :: _) _ _)
       refine value_wp rfl _ (run_midF 37 _ w1.heap.size 0 #[.int .u8 6, .int .u64 0, .int .u64 (n1 : Int), .int .u64 0, .int .u64 0, .bool false, .slice aV d2.length cV, .slice none 0 0] _ rfl rfl Tryz.underlying37 rfl (by kernel_rfl) _ (range_row RQ2.out)) ?_)
    | (with_reducible (show wpList _ _ _ (⟨_, Op.store 37 _ _, _, _, _, _⟩ :: _) _ _)
       refine store_row rfl 37 _ _ rfl w.heap.size #[.int .u8 6, .int .u64 0, .int .u64 (n1 : Int), .int .u64 0, .int .u64 0, .bool false, .slice aV d2.length cV, .slice none 0 0] rfl rfl _ _ RH2.out 8 (by kernel_rfl) rfl rfl (by kernel_rfl) ?_))
  refine bodyPost_ret (results_cell_row rfl _ _ w.heap.size _ #[.int .u8 6, .int .u64 0, .int .u64 (n1 : Int), .int .u64 0, .int .u64 0, .bool false, .slice aV d2.length cV, .slice none 0 0] (0, 0) _ rfl (RH2.out.put _) Tryz.underlying37 rfl (by kernel_rfl)) rfl ?_
  have OWN : World.ownsRow ((w2.setCell ⟨w1.heap.size, 6, none⟩ (.slice aV d2.length cV)).setRow w.heap.size #[.int .u8 6, .int .u64 0, .int .u64 (n1 : Int), .int .u64 0, .int .u64 0, .bool false, .slice aV d2.length cV, .slice none 0 0]) (w1.heap.size + 1) 5 1 (.slice aV d2.length cV) d2.length (vb d2) := own_setr (own_setc W2.out (by omega)) (by omega) _
  obtain ⟨sD, q1, q2, q3, q4, q5⟩ := SL.of_ownF OWN
  refine .inr ⟨_, _, _, s2, E2.out, rfl, ⟨⟨6, 0, n1, 0, 0, false, sD, noRg⟩, by unfold FrM.cells; rw [q1, q2, q3]; rfl, new_data _ _ _ _ _ _ _ _ sD ?_ q5 (by decide) (Nat.zero_le _) V1.out (Nat.zero_le _) (Nat.zero_le _), by show Fr.Frame.mk _ _ _ _ _ _ sD.b _ = _; rw [q4]; rfl⟩, (D2.out.setc (by omega) (fun p => by have := H.out.ok.lt (Nat.lt_of_lt_of_le p M2.out.2); rw [M2.out.1]; omega) (by omega) _).put (by omega) (fun p => by have := H.out.ok.lt (Nat.lt_of_lt_of_le p M2.out.2); rw [M2.out.1]; omega) (by omega) _, B2.out, M2.out.1, M2.out.2, grown_put (grown_setc G2.out (by omega) _) (Nat.le_refl _) _⟩
  unfold RowK
  rw [q1, q2, q3, q4]
  exact own_low OWN (by omega)

set_option maxRecDepth 20000 in
set_option maxHeartbeats 2000000 in
theorem rd_close_29 (g : Nat) (s : SL) (w : World) (h : Rd w g s 29) :
    Calls Tryz.prog 140 #[.pointer (some ⟨g, 0, none⟩)] w (RdPost w g s 29 (Fr.bodyP 29) (frV w.heap.size)) := by
  have hgw := h.row.lt
  have hLl := h.lens.lt
  have H := veil h
  have b0 := veil ((Below.refl _ w).alloc (Nat.le_refl _) (.cells zF 37))
  have R0 := veil (Row.new w 37 zF)
  have E0 := veil (show Fr.bodyP 29 s.b = Fr.thenR Fr.numR (fun co => Fr.thenR (Fr.placedR 0) fun d => Fr.okR { Fr.f0 with kind := 13, code := co, data := d, fin := true }) s.b from rfl)
  have A1 := veil (show (bits .and .u64 ((29 : Nat) : Int) ((1 : Nat) : Int) != 0) = true by decide +kernel)
  clear h
  go_enter Tryz.func140, Tryz.ntmps140
  go_wp2_with fail
  refine (rd_num g s 29 (w.alloc (.cells zF 37)) (H.out.below b0.out)).mono ?_
  rintro x1 w1 (⟨e, he, rfl, hg⟩ | ⟨n1, r1, v1, s1, he1, rfl, ⟨rfl, hv1⟩, hR1, hb1, hsg1, hsl1, hg1⟩)
  · exact ⟨rfl, .inl ⟨e, ch_err E0.out rfl he, rfl, grown_trans (grown_alloc (.cells zF 37) (some g)) hg⟩⟩
  have E1 := veil (ch_ok E0.out rfl he1)
  have G1 := veil (grown_trans (grown_alloc (.cells zF 37) (some g)) hg1)
  have Q1 := veil (Row.grown R0.out hg1 (show w.heap.size ≠ g by omega))
  have B1 := veil hb1
  have D1 := veil hR1
  have M1 := veil (show s1.g = s.g ∧ s1.len ≤ s.len from ⟨hsg1, hsl1⟩)
  have V1 := veil hv1
  clear he1 hg1 hb1 hR1 hsg1 hsl1 hv1
  go_wp2_with fail
  refine (rd_has g s1 29 1 w1 D1.out).mono ?_
  rintro x9 w9 ⟨rfl, hw9⟩
  obtain rfl := hw9.symm
  rw [A1.out]
  clear A1
  go_wp2_with fail
  refine (rd_sized g s1 29 0 (w1.alloc (.cells #[.int .u8 13, .int .u64 0, .int .u64 0, .int .u64 0, .int .u64 (n1 : Int), .bool true, .slice none 0 0, .slice none 0 0] 37)) (D1.out.below ((Below.refl _ w1).alloc (Nat.le_refl _) _)) (Nat.zero_le _)).mono ?_
  rintro x2 w2 (⟨e, he, rfl, hg⟩ | ⟨d2, r2, v2, s2, he2, rfl, hV2, hR2, hb2, hsg2, hsl2, hg2⟩)
  · exact ⟨rfl, .inl ⟨e, ch_err E1.out B1.out he, rfl, grown_trans (grown_trans G1.out (grown_alloc (.cells #[.int .u8 13, .int .u64 0, .int .u64 0, .int .u64 0, .int .u64 (n1 : Int), .bool true, .slice none 0 0, .slice none 0 0] 37) (some g))) hg⟩⟩
  obtain ⟨aV, cV, rfl⟩ := own_shapeF hV2
  have hq1 : w.heap.size + 1 ≤ w1.heap.size := by have := G1.out.size; have := Q1.out.lt; omega
  have E2 := veil (ch_ok E1.out B1.out he2)
  have RQ := veil (Row.grown (Row.new w1 37 #[.int .u8 13, .int .u64 0, .int .u64 0, .int .u64 0, .int .u64 (n1 : Int), .bool true, .slice none 0 0, .slice none 0 0]) hg2 (show w1.heap.size ≠ g by omega))
  have RH := veil (Row.grown (Q1.out.alloc (.cells #[.int .u8 13, .int .u64 0, .int .u64 0, .int .u64 0, .int .u64 (n1 : Int), .bool true, .slice none 0 0, .slice none 0 0] 37)) hg2 (show w.heap.size ≠ g by omega))
  have G2 := veil (grown_trans (grown_trans G1.out (grown_alloc (.cells #[.int .u8 13, .int .u64 0, .int .u64 0, .int .u64 0, .int .u64 (n1 : Int), .bool true, .slice none 0 0, .slice none 0 0] 37) (some g))) hg2)
  have B2 := veil hb2
  have D2 := veil hR2
  have M2 := veil (show s2.g = s.g ∧ s2.len ≤ s.len from ⟨hsg2.trans M1.out.1, Nat.le_trans hsl2 M1.out.2⟩)
  have W2 := veil (show w2.ownsRow (w1.heap.size + 1) 5 1 (.slice aV d2.length cV) d2.length (vb d2) by
    have := hV2
    unfold RowK at this
    rwa [show (w1.alloc (.cells #[.int .u8 13, .int .u64 0, .int .u64 0, .int .u64 0, .int .u64 (n1 : Int), .bool true, .slice none 0 0, .slice none 0 0] 37)).heap.size = w1.heap.size + 1 by simp] at this)
  have cq6 : w2.cell? ⟨w1.heap.size, 6, none⟩ = some (.slice none 0 0) := RQ.out.cell 6
  have zq6 := RQ.out.frozen 6
  have RQ2 := veil (show Row (w2.setCell ⟨w1.heap.size, 6, none⟩ (.slice aV d2.length cV)) w1.heap.size 37 #[.int .u8 13, .int .u64 0, .int .u64 0, .int .u64 0, .int .u64 (n1 : Int), .bool true, .slice aV d2.length cV, .slice none 0 0] from RQ.out.set 6 _)
  have RH2 := veil (RH.out.other (a := ⟨w1.heap.size, 6, none⟩) (show w.heap.size ≠ w1.heap.size by omega) (.slice aV d2.length cV))
  clear he2 hV2 hR2 hb2 hsg2 hsl2 hg2
  go_wp2_with (first
    | (with_reducible (show wpList _ _ _ (⟨_, Op.load 37 _, _, _, _, _⟩ :: _) _ _)
       refine value_wp rfl _ (run_midF 37 _ w1.heap.size 0 #[.int .u8 13, .int .u64 0, .int .u64 0, .int .u64 0, .int .u64 (n1 : Int), .bool true, .slice aV d2.length cV, .slice none 0 0] _ rfl rfl Tryz.underlying37 rfl (by kernel_rfl) _ (range_row RQ2.out)) ?_)
    | (with_reducible (show wpList _ _ _ (⟨_, Op.store 37 _ _, _, _, _, _⟩ :: _) _ _)
       refine store_row rfl 37 _ _ rfl w.heap.size #[.int .u8 13, .int .u64 0, .int .u64 0, .int .u64 0, .int .u64 (n1 : Int), .bool true, .slice aV d2.length cV, .slice none 0 0] rfl rfl _ _ RH2.out 8 (by kernel_rfl) rfl rfl (by kernel_rfl) ?_))
  refine bodyPost_ret (results_cell_row rfl _ _ w.heap.size _ #[.int .u8 13, .int .u64 0, .int .u64 0, .int .u64 0, .int .u64 (n1 : Int), .bool true, .slice aV d2.length cV, .slice none 0 0] (0, 0) _ rfl (RH2.out.put _) Tryz.underlying37 rfl (by kernel_rfl)) rfl ?_
  have OWN : World.ownsRow ((w2.setCell ⟨w1.heap.size, 6, none⟩ (.slice aV d2.length cV)).setRow w.heap.size #[.int .u8 13, .int .u64 0, .int .u64 0, .int .u64 0, .int .u64 (n1 : Int), .bool true, .slice aV d2.length cV, .slice none 0 0]) (w1.heap.size + 1) 5 1 (.slice aV d2.length cV) d2.length (vb d2) := own_setr (own_setc W2.out (by omega)) (by omega) _
  obtain ⟨sD, q1, q2, q3, q4, q5⟩ := SL.of_ownF OWN
  refine .inr ⟨_, _, _, s2, E2.out, rfl, ⟨⟨13, 0, 0, 0, n1, true, sD, noRg⟩, by unfold FrM.cells; rw [q1, q2, q3]; rfl, new_data _ _ _ _ _ _ _ _ sD ?_ q5 (by decide) (Nat.zero_le _) (Nat.zero_le _) (Nat.zero_le _) V1.out, by show Fr.Frame.mk _ _ _ _ _ _ sD.b _ = _; rw [q4]; rfl⟩, (D2.out.setc (by omega) (fun p => by have := H.out.ok.lt (Nat.lt_of_lt_of_le p M2.out.2); rw [M2.out.1]; omega) (by omega) _).put (by omega) (fun p => by have := H.out.ok.lt (Nat.lt_of_lt_of_le p M2.out.2); rw [M2.out.1]; omega) (by omega) _, B2.out, M2.out.1, M2.out.2, grown_put (grown_setc G2.out (by omega) _) (Nat.le_refl _) _⟩
  unfold RowK
  rw [q1, q2, q3, q4]
  exact own_low OWN (by omega)

set_option maxRecDepth 20000 in
set_option maxHeartbeats 2000000 in
theorem rd_close_28 (g : Nat) (s : SL) (w : World) (h : Rd w g s 28) :
    Calls Tryz.prog 140 #[.pointer (some ⟨g, 0, none⟩)] w (RdPost w g s 28 (Fr.bodyP 28) (frV w.heap.size)) := by
  have hgw := h.row.lt
  have hLl := h.lens.lt
  have H := veil h
  have b0 := veil ((Below.refl _ w).alloc (Nat.le_refl _) (.cells zF 37))
  have R0 := veil (Row.new w 37 zF)
  have E0 := veil (show Fr.bodyP 28 s.b = Fr.thenR Fr.numR (fun co => Fr.thenR (uptoR 0) fun _ => Fr.thenR (Fr.placedR 0) fun d => Fr.okR { Fr.f0 with kind := 13, code := co, data := d }) s.b from close_eq s.b)
  have A1 := veil (show (bits .and .u64 ((28 : Nat) : Int) ((1 : Nat) : Int) != 0) = false by decide +kernel)
  clear h
  go_enter Tryz.func140, Tryz.ntmps140
  go_wp2_with fail
  refine (rd_num g s 28 (w.alloc (.cells zF 37)) (H.out.below b0.out)).mono ?_
  rintro x1 w1 (⟨e, he, rfl, hg⟩ | ⟨n1, r1, v1, s1, he1, rfl, ⟨rfl, hv1⟩, hR1, hb1, hsg1, hsl1, hg1⟩)
  · exact ⟨rfl, .inl ⟨e, ch_err E0.out rfl he, rfl, grown_trans (grown_alloc (.cells zF 37) (some g)) hg⟩⟩
  have E1 := veil (ch_ok E0.out rfl he1)
  have G1 := veil (grown_trans (grown_alloc (.cells zF 37) (some g)) hg1)
  have Q1 := veil (Row.grown R0.out hg1 (show w.heap.size ≠ g by omega))
  have B1 := veil hb1
  have D1 := veil hR1
  have M1 := veil (show s1.g = s.g ∧ s1.len ≤ s.len from ⟨hsg1, hsl1⟩)
  have V1 := veil hv1
  clear he1 hg1 hb1 hR1 hsg1 hsl1 hv1
  go_wp2_with fail
  refine (rd_has g s1 28 1 w1 D1.out).mono ?_
  rintro x9 w9 ⟨rfl, hw9⟩
  obtain rfl := hw9.symm
  rw [A1.out]
  clear A1
  go_wp2_with fail
  refine (rd_upto g s1 28 0 (w1.alloc (.cells #[.int .u8 13, .int .u64 0, .int .u64 0, .int .u64 0, .int .u64 (n1 : Int), .bool false, .slice none 0 0, .slice none 0 0] 37)) (D1.out.below ((Below.refl _ w1).alloc (Nat.le_refl _) _))).mono ?_
  rintro x3 w3 (⟨e, he, rfl, hg⟩ | ⟨n3, r3, v3, s3, he3, rfl, ⟨⟨rfl, _⟩, _⟩, hR3, hb3, hsg3, hsl3, hg3⟩)
  · exact ⟨rfl, .inl ⟨e, ch_err E1.out B1.out he, rfl, grown_trans (grown_trans G1.out (grown_alloc (.cells #[.int .u8 13, .int .u64 0, .int .u64 0, .int .u64 0, .int .u64 (n1 : Int), .bool false, .slice none 0 0, .slice none 0 0] 37) (some g))) hg⟩⟩
  have hq0 : w.heap.size + 1 ≤ w1.heap.size := by have := G1.out.size; have := Q1.out.lt; omega
  have E3 := veil (ch_ok E1.out B1.out he3)
  have RQ3 := veil (Row.grown (Row.new w1 37 #[.int .u8 13, .int .u64 0, .int .u64 0, .int .u64 0, .int .u64 (n1 : Int), .bool false, .slice none 0 0, .slice none 0 0]) hg3 (show w1.heap.size ≠ g by omega))
  have RH3 := veil (Row.grown (Q1.out.alloc (.cells #[.int .u8 13, .int .u64 0, .int .u64 0, .int .u64 0, .int .u64 (n1 : Int), .bool false, .slice none 0 0, .slice none 0 0] 37)) hg3 (show w.heap.size ≠ g by omega))
  have G3 := veil (grown_trans (grown_trans G1.out (grown_alloc (.cells #[.int .u8 13, .int .u64 0, .int .u64 0, .int .u64 0, .int .u64 (n1 : Int), .bool false, .slice none 0 0, .slice none 0 0] 37) (some g))) hg3)
  have B3 := veil hb3
  have D3 := veil hR3
  have M3 := veil (show s3.g = s.g ∧ s3.len ≤ s.len from ⟨hsg3.trans M1.out.1, Nat.le_trans hsl3 M1.out.2⟩)
  have hz3 : w1.heap.size + 1 ≤ w3.heap.size := by have := hg3.size; simp at this; exact this
  clear he3 hR3 hb3 hsg3 hsl3 hg3
  go_wp2_with fail
  refine (rd_sized g s3 28 0 w3 D3.out (Nat.zero_le _)).mono ?_
  rintro x2 w2 (⟨e, he, rfl, hg⟩ | ⟨d2, r2, v2, s2, he2, rfl, hV2, hR2, hb2, hsg2, hsl2, hg2⟩)
  · exact ⟨rfl, .inl ⟨e, ch_err E3.out B3.out he, rfl, grown_trans G3.out hg⟩⟩
  obtain ⟨aV, cV, rfl⟩ := own_shapeF hV2
  have hq1 : w.heap.size + 1 ≤ w1.heap.size := by have := G1.out.size; have := Q1.out.lt; omega
  have E2 := veil (ch_ok E3.out B3.out he2)
  have RQ := veil (Row.grown RQ3.out hg2 (show w1.heap.size ≠ g by omega))
  have RH := veil (Row.grown RH3.out hg2 (show w.heap.size ≠ g by omega))
  have G2 := veil (grown_trans G3.out hg2)
  have B2 := veil hb2
  have D2 := veil hR2
  have M2 := veil (show s2.g = s.g ∧ s2.len ≤ s.len from ⟨hsg2.trans M3.out.1, Nat.le_trans hsl2 M3.out.2⟩)
  have W2 := veil (show w2.ownsRow (w1.heap.size + 1) 5 1 (.slice aV d2.length cV) d2.length (vb d2) from own_low hV2 hz3)
  have cq6 : w2.cell? ⟨w1.heap.size, 6, none⟩ = some (.slice none 0 0) := RQ.out.cell 6
  have zq6 := RQ.out.frozen 6
  have RQ2 := veil (show Row (w2.setCell ⟨w1.heap.size, 6, none⟩ (.slice aV d2.length cV)) w1.heap.size 37 #[.int .u8 13, .int .u64 0, .int .u64 0, .int .u64 0, .int .u64 (n1 : Int), .bool false, .slice aV d2.length cV, .slice none 0 0] from RQ.out.set 6 _)
  have RH2 := veil (RH.out.other (a := ⟨w1.heap.size, 6, none⟩) (show w.heap.size ≠ w1.heap.size by omega) (.slice aV d2.length cV))
  clear he2 hV2 hR2 hb2 hsg2 hsl2 hg2
  go_wp2_with (first
    | (with_reducible (show wpList _ _ _ (⟨_, Op.load 37 _, _, _, _, _⟩ :: _) _ _)
       refine value_wp rfl _ (run_midF 37 _ w1.heap.size 0 #[.int .u8 13, .int .u64 0, .int .u64 0, .int .u64 0, .int .u64 (n1 : Int), .bool false, .slice aV d2.length cV, .slice none 0 0] _ rfl rfl Tryz.underlying37 rfl (by kernel_rfl) _ (range_row RQ2.out)) ?_)
    | (with_reducible (show wpList _ _ _ (⟨_, Op.store 37 _ _, _, _, _, _⟩ :: _) _ _)
       refine store_row rfl 37 _ _ rfl w.heap.size #[.int .u8 13, .int .u64 0, .int .u64 0, .int .u64 0, .int .u64 (n1 : Int), .bool false, .slice aV d2.length cV, .slice none 0 0] rfl rfl _ _ RH2.out 8 (by kernel_rfl) rfl rfl (by kernel_rfl) ?_))
  refine bodyPost_ret (results_cell_row rfl _ _ w.heap.size _ #[.int .u8 13, .int .u64 0, .int .u64 0, .int .u64 0, .int .u64 (n1 : Int), .bool false, .slice aV d2.length cV, .slice none 0 0] (0, 0) _ rfl (RH2.out.put _) Tryz.underlying37 rfl (by kernel_rfl)) rfl ?_
  have OWN : World.ownsRow ((w2.setCell ⟨w1.heap.size, 6, none⟩ (.slice aV d2.length cV)).setRow w.heap.size #[.int .u8 13, .int .u64 0, .int .u64 0, .int .u64 0, .int .u64 (n1 : Int), .bool false, .slice aV d2.length cV, .slice none 0 0]) (w1.heap.size + 1) 5 1 (.slice aV d2.length cV) d2.length (vb d2) := own_setr (own_setc W2.out (by omega)) (by omega) _
  obtain ⟨sD, q1, q2, q3, q4, q5⟩ := SL.of_ownF OWN
  refine .inr ⟨_, _, _, s2, E2.out, rfl, ⟨⟨13, 0, 0, 0, n1, false, sD, noRg⟩, by unfold FrM.cells; rw [q1, q2, q3]; rfl, new_data _ _ _ _ _ _ _ _ sD ?_ q5 (by decide) (Nat.zero_le _) (Nat.zero_le _) (Nat.zero_le _) V1.out, by show Fr.Frame.mk _ _ _ _ _ _ sD.b _ = _; rw [q4]; rfl⟩, (D2.out.setc (by omega) (fun p => by have := H.out.ok.lt (Nat.lt_of_lt_of_le p M2.out.2); rw [M2.out.1]; omega) (by omega) _).put (by omega) (fun p => by have := H.out.ok.lt (Nat.lt_of_lt_of_le p M2.out.2); rw [M2.out.1]; omega) (by omega) _, B2.out, M2.out.1, M2.out.2, grown_put (grown_setc G2.out (by omega) _) (Nat.le_refl _) _⟩
  unfold RowK
  rw [q1, q2, q3, q4]
  exact own_low OWN (by omega)
end Go.Proofs.YtimhbjlmpojhoaaGreatDoor

/-! frame's reader: padding, rangeUpTo. -/
namespace Go.Proofs.YtimhbjlmpojhoaaGreatDoor
open Go Go.RowKit

def frC (k st of li co : Nat) (fi : Bool) : Array Value := #[.int .u8 (k : Int), .int .u64 (st : Int), .int .u64 (of : Int), .int .u64 (li : Int), .int .u64 (co : Int), .bool fi, .slice none 0 0, .slice none 0 0]
set_option maxRecDepth 20000 in
set_option maxHeartbeats 2000000 in
theorem rd_padding (g : Nat) (s : SL) (tb : Nat) (w : World) (h : Rd w g s tb) :
    Calls Tryz.prog 129 #[.pointer (some ⟨g, 0, none⟩)] w (RdPost w g s tb (Fr.bodyP 0) (frV w.heap.size)) := by
  have hgw := h.row.lt
  have hLl := h.lens.lt
  have H := veil h
  have b0 := veil ((Below.refl _ w).alloc (Nat.le_refl _) (.cells zF 37))
  have R0 := veil (Row.new w 37 zF)
  have E0 := veil (show Fr.bodyP 0 s.b = Fr.padR 1 s.b from rfl)
  clear h
  go_enter Tryz.func129, Tryz.ntmps129
  go_wp2_with fail
  go_loopw [3] (fun v wr => ∃ (m : Nat) (s1 : SL), v = .int .u64 (m : Int) ∧ (1 ≤ m ∧ m ≤ 65536) ∧ Rd wr g s1 tb ∧ Fr.bodyP 0 s.b = Fr.padR m s1.b ∧ (s1.g = s.g ∧ s1.len ≤ s.len) ∧ Row wr w.heap.size 37 zF ∧ w.grownBy wr (some g))
    (fun v _ => 65537 - (intOf v).toNat)
  case atStart => exact ⟨1, s, rfl, ⟨Nat.le_refl _, by decide⟩, H.out.below b0.out, E0.out, ⟨rfl, Nat.le_refl _⟩, R0.out, grown_alloc _ _⟩
  case round =>
    obtain ⟨m, s1, rfl, ⟨hm1, hm2⟩, hR, hE, hM, hQ, hG⟩ := hrel
    have c0 : wr.cell? ⟨g, 0, none⟩ = some (.slice s1.a s1.len s1.cap) := hR.row.cell 0
    have z0 := hR.row.frozen 0
    have D := veil hR
    have E := veil hE
    have M := veil hM
    have Q := veil hQ
    have G := veil hG
    clear hR hE hM hQ hG b0 R0 E0
    have leave : ∀ (r : List By), s1.b = r → Fr.padR m r = .ok (Fr.padF m, r) → RdPost w g s tb (Fr.bodyP 0) (frV w.heap.size) (.returned (.agg (frC 1 0 0 m 0 false))) (wr.setRow w.heap.size (frC 1 0 0 m 0 false)) := by
      intro r hr hp
      refine .inr ⟨_, _, _, s1, E.out.trans (by rw [hr]; exact hp), rfl, ⟨⟨1, 0, 0, m, 0, false, noD, noRg⟩, rfl, new_plain _ _ _ _ _ _ _ _ (by decide) (Nat.zero_le _) (Nat.zero_le _) (by omega) (Nat.zero_le _), rfl⟩, D.out.put (by omega) (fun p => by have := H.out.ok.lt (Nat.lt_of_lt_of_le p M.out.2); rw [M.out.1]; omega) (by omega) _, hr, M.out.1, M.out.2, grown_put G.out (Nat.le_refl _) _⟩
    have LV := veil leave
    clear leave
    cases hb : s1.b with
    | nil =>
      have h0 : s1.len = 0 := by rw [← D.out.ok.hb, hb]; rfl
      have f1 : decide ((0 : Int) < (s1.len : Int)) = false := by simp; omega
      have f1n : decide (0 < s1.len) = false := by simp; omega
      have L2 := veil (LV.out [] hb rfl)
      clear hb h0
      go_wp2_with (with_reducible (show wpList _ _ _ (⟨_, Op.store 37 _ _, _, _, _, _⟩ :: _) _ _)
                   refine store_row rfl 37 _ _ rfl w.heap.size (frC 1 0 0 m 0 false) rfl rfl _ _ Q.out 8 (by kernel_rfl) rfl rfl (by kernel_rfl) ?_)
      exact bodyPost_ret (results_cell_row rfl _ _ w.heap.size _ (frC 1 0 0 m 0 false) (0, 0) _ rfl (Q.out.put _) Tryz.underlying37 rfl (by kernel_rfl)) rfl L2.out
    | cons c r =>
      have hl : 0 < s1.len := by rw [← D.out.ok.hb, hb]; simp
      have f1 : decide ((0 : Int) < (s1.len : Int)) = true := by simp; omega
      have f1n : decide (0 < s1.len) = true := by simp; omega
      have ea := D.out.ok.at_ hl
      have ec := D.out.ok.cell 0 hl
      rw [hb] at ec
      simp only [Nat.add_zero] at ec
      have ec2 : wr.cell? ⟨s1.g, s1.off, none⟩ = some (.int .u8 (v8 c)) := ec
      have HEA := veil ea
      have HHB := veil hb
      have hl1 : 1 ≤ s1.len := hl
      have HT := veil D.out.told
      have HNIL := veil D.out.ok.nil
      rw [ea] at c0
      clear ea ec
      by_cases hc : c = 0
      · have f2 : (v8 c == 0) = true := by rw [hc]; rfl
        by_cases hm : m = 65536
        · have f3 : ((m : Int) == 65536) = true := by simp; omega
          have L2 := veil (show Fr.bodyP 0 s.b = .error 3 by rw [E.out, HHB.out]; show (if c = 0 then _ else _) = _; rw [if_pos hc, if_pos hm])
          clear hb hc hm
          generalize v8 c = vc at *
          go_wp2_with fail
          exact ⟨rfl, .inl ⟨3, L2.out, rfl, G.out⟩⟩
        · have f3 : ((m : Int) == 65536) = false := by simp; omega
          have L2 := veil (show Fr.bodyP 0 s.b = Fr.padR (m + 1) r by rw [E.out, HHB.out]; show (if c = 0 then _ else _) = _; rw [if_pos hc, if_neg hm])
          have hw : IntKind.u64.wrap ((m : Int) + 1) = ((m + 1 : Nat) : Int) := by rw [IntKind.wrap_u64]; omega
          obtain ⟨o1, o2, o3, o4, o5⟩ := cutF_ok D.out.ok D.out.told 1 hl1
          have O := veil (show (cutF s1 1).Ok wr ∧ (cutF s1 1).Told ∧ (cutF s1 1).len = s1.len - 1 ∧ (cutF s1 1).b = r ∧ (cutF s1 1).g = s1.g from ⟨o1, o2, o3, by rw [o4, HHB.out]; rfl, o5⟩)
          have HM := veil (show m < 65536 by omega)
          clear hb hc hm o1 o2 o3 o4 o5
          generalize v8 c = vc at *
          go_wp2_with (with_reducible (show wpList _ _ _ (⟨some 29, Op.slice _ _ _ _ _, _, _, _, _⟩ :: _) _ _)
                       refine value_wp rfl _ (run_cutF 26 5 _ _ s1 1 HT.out HNIL.out rfl (by rw [HEA.out]; rfl) rfl Tryz.underlying26 (by kernel_rfl) hl1 _) ?_)
          go_roundw
          case rel =>
            have hg2 : wr.grownBy (wr.setCell ⟨g, 0, none⟩ (.slice (cutF s1 1).a (cutF s1 1).len (cutF s1 1).cap)) (some g) := grown_set (grown_refl _ _)
            have hOl := O.out.2.2.1
            exact ⟨m + 1, cutF s1 1, by go_num, ⟨by omega, HM.out⟩, ⟨D.out.row.set 0 _, O.out.1.apart hg2 (fun p => by rw [O.out.2.2.2.2]; exact D.out.ne (by omega)), O.out.2.1, fun p => by rw [O.out.2.2.2.2]; exact D.out.ne (by omega), D.out.lens.grown hg2 D.out.gne, D.out.gne, by have := D.out.len; omega⟩, by rw [O.out.2.2.2.1]; exact L2.out, ⟨O.out.2.2.2.2.trans M.out.1, by have := M.out.2; omega⟩, Row.grown Q.out hg2 (by omega), grown_trans G.out hg2⟩
          case measure => have := HM.out; simp [intOf]; omega
      · have f2 : (v8 c == 0) = false := by
          have : c.toNat ≠ 0 := fun h => hc (BitVec.eq_of_toNat_eq h)
          simp only [beq_eq_false_iff_ne, ne_eq]
          unfold v8
          omega
        have L2 := veil (LV.out (c :: r) hb (by show (if c = 0 then _ else _) = _; rw [if_neg hc]))
        clear hb hc
        generalize v8 c = vc at *
        go_wp2_with (with_reducible (show wpList _ _ _ (⟨_, Op.store 37 _ _, _, _, _, _⟩ :: _) _ _)
                     refine store_row rfl 37 _ _ rfl w.heap.size (frC 1 0 0 m 0 false) rfl rfl _ _ Q.out 8 (by kernel_rfl) rfl rfl (by kernel_rfl) ?_)
        exact bodyPost_ret (results_cell_row rfl _ _ w.heap.size _ (frC 1 0 0 m 0 false) (0, 0) _ rfl (Q.out.put _) Tryz.underlying37 rfl (by kernel_rfl)) rfl L2.out

/-- A range that ends at a number. -/
def rngR (to : Nat) : Fr.R (Nat × Nat) := Fr.thenR (uptoR to) fun k => Fr.okR (to - k, to)
set_option maxRecDepth 20000 in
set_option maxHeartbeats 2000000 in
theorem rd_range (g : Nat) (s : SL) (tb to : Nat) (w : World) (h : Rd w g s tb) (hto : to ≤ 4611686018427387903) :
    Calls Tryz.prog 149 #[.pointer (some ⟨g, 0, none⟩), .int .u64 (to : Int)] w (RdPost w g s tb (rngR to) (fun r _ v => v = .agg (rC2 r) ∧ r.1 ≤ r.2 ∧ r.2 = to)) := by
  have hgw := h.row.lt
  have hLl := h.lens.lt
  have H := veil h
  have b0 := veil ((Below.refl _ w).alloc (Nat.le_refl _) (.cells (rC2 (0, 0)) 114))
  have R0 := veil (Row.new w 114 (rC2 (0, 0)))
  have E0 := veil (show rngR to s.b = Fr.thenR (uptoR to) (fun k => Fr.okR (to - k, to)) s.b from rfl)
  clear h
  go_enter Tryz.func149, Tryz.ntmps149
  go_wp2_with fail
  refine (rd_upto g s tb to (w.alloc (.cells (rC2 (0, 0)) 114)) (H.out.below b0.out)).mono ?_
  rintro x1 w1 (⟨e, he, rfl, hg⟩ | ⟨n1, r1, v1, s1, he1, rfl, ⟨⟨rfl, hv1⟩, hle⟩, hR1, hb1, hsg1, hsl1, hg1⟩)
  · exact ⟨rfl, .inl ⟨e, ch_err E0.out rfl he, rfl, grown_trans (grown_alloc (.cells (rC2 (0, 0)) 114) (some g)) hg⟩⟩
  have E1 := veil (ch_ok E0.out rfl he1)
  have G1 := veil (grown_trans (grown_alloc (.cells (rC2 (0, 0)) 114) (some g)) hg1)
  have Q1 := veil (Row.grown R0.out hg1 (show w.heap.size ≠ g by omega))
  have B1 := veil hb1
  have D1 := veil hR1
  have M1 := veil (show s1.g = s.g ∧ s1.len ≤ s.len from ⟨hsg1, hsl1⟩)
  have hw : IntKind.u64.wrap ((to : Int) - (n1 : Int)) = ((to - n1 : Nat) : Int) := by rw [IntKind.wrap_u64]; omega
  clear he1 hg1 hb1 hR1 hsg1 hsl1 hv1
  go_wp2_with (with_reducible (show wpList _ _ _ (⟨_, Op.store 114 _ _, _, _, _, _⟩ :: _) _ _)
               refine store_row rfl 114 _ _ rfl w.heap.size (rC2 (to - n1, to)) rfl rfl _ _ Q1.out 2 (by kernel_rfl) rfl rfl (by kernel_rfl) ?_)
  refine bodyPost_ret (results_cell_row rfl _ _ w.heap.size _ (rC2 (to - n1, to)) (0, 0) _ rfl (Q1.out.put _) Tryz.underlying114 rfl (by kernel_rfl)) rfl ?_
  refine .inr ⟨_, _, _, s1, E1.out, rfl, ⟨rfl, Nat.sub_le _ _, rfl⟩, D1.out.put (by omega) (fun p => by have := H.out.ok.lt (Nat.lt_of_lt_of_le p M1.out.2); rw [M1.out.1]; omega) (by omega) _, B1.out, M1.out.1, M1.out.2, grown_put G1.out (Nat.le_refl _) _⟩
end Go.Proofs.YtimhbjlmpojhoaaGreatDoor

/-! slices.Reverse, over ranges of the call's own (written by mkrev.py). -/
namespace Go.Proofs.YtimhbjlmpojhoaaGreatDoor
open Go Go.RowKit

theorem grown_cells {w w' : World} {g o : Nat} {r : Nat × Nat} (h : w.grownBy w' (some g)) : w.grownBy (w'.setCells g o (rC2 r).toList) (some g) := grown_set (grown_set h)
theorem run_storeMid {P : Program} {a : Act} {o : Oper} (ty : TypeId) (x y : Operand) (b off : Nat) (cells : Array Value) (ho : o.op = .store ty x y) (hx : a.eval x = .pointer (some ⟨b, off, none⟩)) (hy : a.eval y = .agg cells) (w : World) (ht : w.there b off cells.size) (hi : (P.info? ty).map (·.size) = some cells.size) (h1 : cells.all (·.oneCell') = true) : (execOp a.eval o).run P w = .ok .skip (w.setCells b off cells.toList) := by
  unfold execOp
  simp only [ho, hx, hy, run_storeAt_mid w b off ty cells ht hi h1, Sem.run_bind, Sem.run_pure, Result.andThen_ok]

theorem grown_drew {w w' : World} {r : Option Nat} (h : w.grownBy w' r) : w.grownBy w'.drew r := ⟨h.os, h.tape, h.output, h.size, h.block⟩
/-- The first k and the last k are swapped. -/
def revTo (l : List (Nat × Nat)) : Nat → List (Nat × Nat)
  | 0 => l
  | k + 1 => ((revTo l k).set k (gr (revTo l k) (l.length - 1 - k))).set (l.length - 1 - k) (gr (revTo l k) k)
theorem revTo_len (l : List (Nat × Nat)) : ∀ k, (revTo l k).length = l.length
  | 0 => rfl
  | k + 1 => by rw [revTo, List.length_set, List.length_set, revTo_len l k]
theorem gr_set (l : List (Nat × Nat)) (i j : Nat) (r : Nat × Nat) (hi : i < l.length) : gr (l.set i r) j = if i = j then r else gr l j := by
  unfold gr
  rw [List.getElem?_set]
  by_cases e : i = j
  · rw [if_pos e, if_pos e, if_pos (by omega)]
    rfl
  · rw [if_neg e, if_neg e]
theorem revTo_at (l : List (Nat × Nat)) : ∀ k, 2 * k ≤ l.length → ∀ i, i < l.length → gr (revTo l k) i = if i < k ∨ l.length - 1 - k < i then gr l (l.length - 1 - i) else gr l i
  | 0, _, i, hi => by rw [revTo, if_neg (by omega)]
  | k + 1, hk, i, hi => by
    have ih := revTo_at l k (by omega)
    have hl := revTo_len l k
    rw [revTo, gr_set _ _ _ _ (by rw [List.length_set, hl]; omega), gr_set _ _ _ _ (by rw [hl]; omega)]
    by_cases e1 : l.length - 1 - k = i
    · rw [if_pos e1, if_pos (by omega), ih k (by omega), if_neg (by omega)]
      congr 1
      omega
    · rw [if_neg e1]
      by_cases e2 : k = i
      · rw [if_pos e2, if_pos (by omega), ih _ (by omega), if_neg (by omega)]
        congr 1
        omega
      · rw [if_neg e2, ih i hi]
        by_cases e3 : i < k ∨ l.length - 1 - k < i
        · rw [if_pos e3, if_pos (by omega)]
        · rw [if_neg e3, if_neg (by omega)]
theorem gr_ext {a b : List (Nat × Nat)} (hl : a.length = b.length) (h : ∀ i, i < a.length → gr a i = gr b i) : a = b := by
  apply List.ext_getElem hl
  intro i h1 h2
  have := h i h1
  unfold gr at this
  rwa [List.getElem?_eq_getElem h1, List.getElem?_eq_getElem h2] at this
theorem gr_rev (l : List (Nat × Nat)) (j : Nat) (h : j < l.length) : gr l.reverse j = gr l (l.length - 1 - j) := by
  unfold gr
  rw [List.getElem?_reverse h]
theorem revTo_end (l : List (Nat × Nat)) (k : Nat) (hk : 2 * k ≤ l.length) (he : l.length ≤ 2 * k + 1) : revTo l k = l.reverse := by
  refine gr_ext (by rw [revTo_len, List.length_reverse]) fun i hi => ?_
  rw [revTo_len] at hi
  rw [revTo_at l k hk i hi, gr_rev l i hi]
  by_cases e : i < k ∨ l.length - 1 - k < i
  · rw [if_pos e]
  · rw [if_neg e]
    congr 1
    omega
def depRV : Nat → List Nat
  | 6 => [4, 5]
  | 7 => [6]
  | 10 => [8, 9]
  | 11 => [10]
  | 12 => [0, 1]
  | 13 => [12, 7, 11]
  | 14 => [2, 3]
  | 15 => [14, 11, 13]
  | _ => []
def valRV (v : Value) (gB i j : Nat) (L : List (Nat × Nat)) : Nat → Value
  | 0 => v
  | 1 => .int .i64 (i : Int)
  | 2 => v
  | 3 => .int .i64 (j : Int)
  | 4 => v
  | 5 => .int .i64 (j : Int)
  | 6 => .pointer (some ⟨gB, 0 + j * 2, none⟩)
  | 7 => .agg (rC2 (gr L j))
  | 8 => v
  | 9 => .int .i64 (i : Int)
  | 10 => .pointer (some ⟨gB, 0 + i * 2, none⟩)
  | 11 => .agg (rC2 (gr L i))
  | 12 => .pointer (some ⟨gB, 0 + i * 2, none⟩)
  | 14 => .pointer (some ⟨gB, 0 + j * 2, none⟩)
  | _ => undef

set_option maxRecDepth 20000 in
set_option maxHeartbeats 4000000 in
theorem fr_reverse (base n gB cap : Nat) (l : List (Nat × Nat)) (w : World) (hl : l.length = n) (hn : n ≤ 64) (hown : w.ownsRow base 114 2 (.slice (some ⟨gB, 0, none⟩) n cap) n (vr l)) :
    Calls Tryz.prog 150 #[.slice (some ⟨gB, 0, none⟩) n cap] w fun e w' => (∃ u, e = .returned u) ∧ w'.ownsRow base 114 2 (.slice (some ⟨gB, 0, none⟩) n cap) n (vr l.reverse) ∧ w.grownBy w' (some gB) := by
  have HO := veil hown
  have HL := veil hl
  have hw : IntKind.i64.wrap ((n : Int) - 1) = (n : Int) - 1 - ((0 : Nat) : Int) := by rw [IntKind.wrap_i64]; omega
  clear hown hl
  refine (callsIn_wide (n := 4)).1 ?_
  refine callsIn_of_wp Tryz.func150 rfl trivial ?_ rfl
  simp only [Tryz.ntmps150, List.size_toArray, List.length_cons, List.length_nil, Nat.reduceAdd, Nat.reduceSub, Array.replicate_succ, Array.replicate_zero, List.push_toArray, List.append_toArray, List.nil_append, List.cons_append]
  gi_wp2_with fail
  gi_loopw [2, 3] (fun i j wr => ∃ k : Nat, 2 * k ≤ n ∧ i = .int .i64 (k : Int) ∧ j = .int .i64 ((n : Int) - 1 - (k : Int)) ∧ wr.ownsRow base 114 2 (.slice (some ⟨gB, 0, none⟩) n cap) n (vr (revTo l k)) ∧ w.grownBy wr (some gB))
    (fun i _ _ => n - (intOf i).toNat)
  case atStart => exact ⟨0, Nat.zero_le _, rfl, by simp, HO.out, grown_refl _ _⟩
  case round =>
    obtain ⟨k, hk, rfl, rfl, hown, hg⟩ := hrel
    by_cases hlt : 2 * k + 1 < n
    · obtain ⟨j, hj⟩ : ∃ j : Nat, j + k + 1 = n := ⟨n - 1 - k, by omega⟩
      have hjI : (n : Int) - 1 - (k : Int) = (j : Int) := by omega
      rw [hjI]
      have hd : decide ((k : Int) < (j : Int)) = true := by simp; omega
      have hdn : decide (k < j) = true := by simp; omega
      have HW := veil hown
      have HG := veil hg
      have hjn : j < n := by omega
      have hkn : k < n := by omega
      have HLR := veil ((revTo_len l k).trans HL.out)
      clear hown hg hjI
      gi_wp2_with fail
      refine wpIn_region_any (by kernel_rfl) ?_
      refine anyIn_spine (valRV (.slice (some ⟨gB, 0, none⟩) n cap) gB k j (revTo l k)) (fun q W _ => match q with
          | 0 => W.ownsRow base 114 2 (.slice (some ⟨gB, 0, none⟩) n cap) n (vr (revTo l k)) ∧ w.grownBy W (some gB)
          | 1 => W.ownsRow base 114 2 (.slice (some ⟨gB, 0, none⟩) n cap) n (vr ((revTo l k).set k (gr (revTo l k) j))) ∧ w.grownBy W (some gB)
          | _ => W.ownsRow base 114 2 (.slice (some ⟨gB, 0, none⟩) n cap) n (vr (((revTo l k).set k (gr (revTo l k) j)).set j (gr (revTo l k) k))) ∧ w.grownBy W (some gB)) undef [13, 15] [14, 15, 16, 17, 18, 19, 20, 21, 22, 23, 24, 25, 26, 100000, 27, 100001] depRV depRV (by kernel_rfl) (by decide) rfl (by decide) (by decide) ?hord (by decide) ⟨HW.out, grown_drew HG.out⟩ ?hfix ?hcal ?hdone
      case hord =>
        intro k i j hk hk1
        match k, hk, hk1 with
        | 0, hk, hk1 =>
          obtain rfl := Option.some.inj hk
          obtain rfl := Option.some.inj hk1
          decide
        | 1, _, hk1 => simp at hk1
        | _ + 2, hk, _ => simp at hk
      case hfix =>
        intro x W m ii d u hR hdi hni hdep hlo hhi
        have own0 : (ii = 7 ∨ ii = 11) → W.ownsRow base 114 2 (.slice (some ⟨gB, 0, none⟩) n cap) n (vr (revTo l k)) := by
          intro h
          have hm : m ≤ 0 := by
            rcases h with rfl | rfl
            · exact hhi 0 13 rfl (by decide)
            · exact hhi 0 13 rfl (by decide)
          obtain rfl : m = 0 := by omega
          exact hR.1
        match ii, hdi, hdep with
        | 0, hdi, hdep =>
          obtain rfl := Option.some.inj hdi
          exact OI_value rfl rfl (about_none (by intro c h; cases h)) (by intro c h; cases h) (.slice (some ⟨gB, 0, none⟩) n cap) W (by kernel_rfl) ⟨rfl, rfl⟩
        | 1, hdi, hdep =>
          obtain rfl := Option.some.inj hdi
          exact OI_value rfl rfl (about_none (by intro c h; cases h)) (by intro c h; cases h) (.int .i64 (k : Int)) W (by kernel_rfl) ⟨rfl, rfl⟩
        | 2, hdi, hdep =>
          obtain rfl := Option.some.inj hdi
          exact OI_value rfl rfl (about_none (by intro c h; cases h)) (by intro c h; cases h) (.slice (some ⟨gB, 0, none⟩) n cap) W (by kernel_rfl) ⟨rfl, rfl⟩
        | 3, hdi, hdep =>
          obtain rfl := Option.some.inj hdi
          exact OI_value rfl rfl (about_none (by intro c h; cases h)) (by intro c h; cases h) (.int .i64 (j : Int)) W (by kernel_rfl) ⟨rfl, rfl⟩
        | 4, hdi, hdep =>
          obtain rfl := Option.some.inj hdi
          exact OI_value rfl rfl (about_none (by intro c h; cases h)) (by intro c h; cases h) (.slice (some ⟨gB, 0, none⟩) n cap) W (by kernel_rfl) ⟨rfl, rfl⟩
        | 5, hdi, hdep =>
          obtain rfl := Option.some.inj hdi
          exact OI_value rfl rfl (about_none (by intro c h; cases h)) (by intro c h; cases h) (.int .i64 (j : Int)) W (by kernel_rfl) ⟨rfl, rfl⟩
        | 6, hdi, hdep =>
          obtain rfl := Option.some.inj hdi
          rw [updV_self (show x 4 = _ from hdep 4 (by simp [depRV]) (by decide)), updV_self (show updV x 4 _ 5 = _ from hdep 5 (by simp [depRV]) (by decide))]
          exact OI_value rfl rfl (about_none (by intro c h; cases h)) (by intro c h; cases h) _ W (run_atF 35 114 2 _ _ gB 0 n cap j rfl (by kernel_rfl) (by kernel_rfl) Tryz.underlying35 (by kernel_rfl) (by omega) W) ⟨rfl, rfl⟩
        | 7, hdi, hdep =>
          obtain rfl := Option.some.inj hdi
          rw [updV_self (show x 6 = _ from hdep 6 (by simp [depRV]) (by decide))]
          exact OI_value rfl rfl (about_none (by intro c h; cases h)) (by intro c h; cases h) _ W (run_midF 114 _ gB (0 + j * 2) (rC2 (gr (revTo l k) j)) _ rfl (by kernel_rfl) Tryz.underlying114 rfl (by kernel_rfl) W (own_range (own0 (.inl rfl)) HLR.out j hjn)) ⟨rfl, rfl⟩
        | 8, hdi, hdep =>
          obtain rfl := Option.some.inj hdi
          exact OI_value rfl rfl (about_none (by intro c h; cases h)) (by intro c h; cases h) (.slice (some ⟨gB, 0, none⟩) n cap) W (by kernel_rfl) ⟨rfl, rfl⟩
        | 9, hdi, hdep =>
          obtain rfl := Option.some.inj hdi
          exact OI_value rfl rfl (about_none (by intro c h; cases h)) (by intro c h; cases h) (.int .i64 (k : Int)) W (by kernel_rfl) ⟨rfl, rfl⟩
        | 10, hdi, hdep =>
          obtain rfl := Option.some.inj hdi
          rw [updV_self (show x 8 = _ from hdep 8 (by simp [depRV]) (by decide)), updV_self (show updV x 8 _ 9 = _ from hdep 9 (by simp [depRV]) (by decide))]
          exact OI_value rfl rfl (about_none (by intro c h; cases h)) (by intro c h; cases h) _ W (run_atF 35 114 2 _ _ gB 0 n cap k rfl (by kernel_rfl) (by kernel_rfl) Tryz.underlying35 (by kernel_rfl) (by omega) W) ⟨rfl, rfl⟩
        | 11, hdi, hdep =>
          obtain rfl := Option.some.inj hdi
          rw [updV_self (show x 10 = _ from hdep 10 (by simp [depRV]) (by decide))]
          exact OI_value rfl rfl (about_none (by intro c h; cases h)) (by intro c h; cases h) _ W (run_midF 114 _ gB (0 + k * 2) (rC2 (gr (revTo l k) k)) _ rfl (by kernel_rfl) Tryz.underlying114 rfl (by kernel_rfl) W (own_range (own0 (.inr rfl)) HLR.out k hkn)) ⟨rfl, rfl⟩
        | 12, hdi, hdep =>
          obtain rfl := Option.some.inj hdi
          rw [updV_self (show x 0 = _ from hdep 0 (by simp [depRV]) (by decide)), updV_self (show updV x 0 _ 1 = _ from hdep 1 (by simp [depRV]) (by decide))]
          exact OI_value rfl rfl (about_none (by intro c h; cases h)) (by intro c h; cases h) _ W (run_atF 35 114 2 _ _ gB 0 n cap k rfl (by kernel_rfl) (by kernel_rfl) Tryz.underlying35 (by kernel_rfl) (by omega) W) ⟨rfl, rfl⟩
        | 13, _, _ => exact absurd (by decide) hni
        | 14, hdi, hdep =>
          obtain rfl := Option.some.inj hdi
          rw [updV_self (show x 2 = _ from hdep 2 (by simp [depRV]) (by decide)), updV_self (show updV x 2 _ 3 = _ from hdep 3 (by simp [depRV]) (by decide))]
          exact OI_value rfl rfl (about_none (by intro c h; cases h)) (by intro c h; cases h) _ W (run_atF 35 114 2 _ _ gB 0 n cap j rfl (by kernel_rfl) (by kernel_rfl) Tryz.underlying35 (by kernel_rfl) (by omega) W) ⟨rfl, rfl⟩
        | 15, _, _ => exact absurd (by decide) hni
        | _ + 16, hdi, _ => simp at hdi
      case hcal =>
        intro x W q ii d u hR hk hdi hdep hu0 hup
        match q, hk, hR with
        | 0, hk, hR =>
          obtain rfl := Option.some.inj hk
          obtain rfl := Option.some.inj hdi
          rw [updV_self (show x 12 = _ from hdep 12 (by simp [depRV]) (by decide)), updV_self (show updV x 12 _ 7 = _ from hdep 7 (by simp [depRV]) (by decide))]
          refine OI_skip rfl rfl (about_none (by intro c h; cases h)) (by intro c h; cases h) (W.setCells gB (0 + k * 2) (rC2 (gr (revTo l k) j)).toList) ?_ ?_
          · exact run_storeMid 114 _ _ gB (0 + k * 2) (rC2 (gr (revTo l k) j)) rfl (by kernel_rfl) (by kernel_rfl) W (own_there hR.1 HLR.out k hkn) (by kernel_rfl) (by kernel_rfl)
          · refine ⟨undef, (put_none _ _).trans (put_far _ _ _ (by rw [puts_size]; exact Nat.le_of_ble_eq_true rfl)).symm, ?_, grown_cells hR.2⟩
            rw [Nat.zero_add]
            exact own_pair hR.1 _ hkn HLR.out
        | 1, hk, hR =>
          obtain rfl := Option.some.inj hk
          obtain rfl := Option.some.inj hdi
          rw [updV_self (show x 14 = _ from hdep 14 (by simp [depRV]) (by decide)), updV_self (show updV x 14 _ 11 = _ from hdep 11 (by simp [depRV]) (by decide))]
          have hl2 : ((revTo l k).set k (gr (revTo l k) j)).length = n := by rw [List.length_set]; exact HLR.out
          refine OI_skip rfl rfl (about_none (by intro c h; cases h)) (by intro c h; cases h) (W.setCells gB (0 + j * 2) (rC2 (gr (revTo l k) k)).toList) ?_ ?_
          · exact run_storeMid 114 _ _ gB (0 + j * 2) (rC2 (gr (revTo l k) k)) rfl (by kernel_rfl) (by kernel_rfl) W (own_there hR.1 hl2 j hjn) (by kernel_rfl) (by kernel_rfl)
          · refine ⟨undef, (put_none _ _).trans (put_far _ _ _ (by rw [puts_size]; exact Nat.le_of_ble_eq_true rfl)).symm, ?_, grown_cells hR.2⟩
            rw [Nat.zero_add]
            exact own_pair hR.1 _ hjn hl2
        | _ + 2, hk, _ => simp at hk
      case hdone =>
        intro x W u hR hx _
        have HRS := veil (show W.ownsRow base 114 2 (.slice (some ⟨gB, 0, none⟩) n cap) n (vr (revTo l (k + 1))) ∧ w.grownBy W (some gB) by
          refine ⟨?_, hR.2⟩
          rw [revTo, HL.out, show n - 1 - k = j by omega]
          exact hR.1)
        have z0 := hx 0 (by decide) (by decide)
        have z1 := hx 1 (by decide) (by decide)
        have z2 := hx 2 (by decide) (by decide)
        have z3 := hx 3 (by decide) (by decide)
        have z4 := hx 4 (by decide) (by decide)
        have z5 := hx 5 (by decide) (by decide)
        have z6 := hx 6 (by decide) (by decide)
        have z7 := hx 7 (by decide) (by decide)
        have z8 := hx 8 (by decide) (by decide)
        have z9 := hx 9 (by decide) (by decide)
        have z10 := hx 10 (by decide) (by decide)
        have z11 := hx 11 (by decide) (by decide)
        have z12 := hx 12 (by decide) (by decide)
        have z14 := hx 14 (by decide) (by decide)
        simp only [putsV, z0, z1, z2, z3, z4, z5, z6, z7, z8, z9, z10, z11, z12, z14, valRV, Act.put, List.setIfInBounds_toArray, List.set_cons_succ, List.set_cons_zero, Nat.reduceAdd]
        clear z0 z1 z2 z3 z4 z5 z6 z7 z8 z9 z10 z11 z12 z14 hx hR
        gi_wp2_with fail
        go_roundw
        case rel => exact ⟨k + 1, by omega, by go_num, by rw [show (n : Int) - 1 - ((k + 1 : Nat) : Int) = (j : Int) - 1 by omega], HRS.out.1, HRS.out.2⟩
        case measure => simp [intOf]; omega
    · have hd : decide ((k : Int) < (n : Int) - 1 - (k : Int)) = false := by simp; omega
      have HR := veil (show wr.ownsRow base 114 2 (.slice (some ⟨gB, 0, none⟩) n cap) n (vr l.reverse) by rw [← revTo_end l k (by rw [HL.out]; exact hk) (by rw [HL.out]; omega)]; exact hown)
      have HG := veil hg
      clear hown hg
      gi_wp2_with fail
      go_end0
      exact ⟨⟨_, rfl⟩, HR.out, HG.out⟩
end Go.Proofs.YtimhbjlmpojhoaaGreatDoor

/-! How an answer's ranges are read, on lists; an answer in memory while it is read. -/
namespace Go.Proofs.YtimhbjlmpojhoaaGreatDoor
open Go Go.RowKit

/-- The ranges behind one that begins at a number. -/
def ackTail : Nat → Nat → Fr.R (List (Nat × Nat))
  | 0, _ => Fr.okR []
  | m + 1, below => Fr.thenR Fr.numR fun gap => if below < gap + 2 then Fr.noR 5 else Fr.thenR (rngR (below - gap - 2)) fun r => Fr.thenR (ackTail m r.1) fun l => Fr.okR (r :: l)
theorem rng_err {to e : Nat} {b : List By} (h : Fr.numR b = .error e) : rngR to b = .error e := by
  unfold rngR uptoR
  exact Fr.thenR_err (Fr.thenR_err h)
theorem rng_ok {to k : Nat} {b b' : List By} (h : Fr.numR b = .ok (k, b')) : rngR to b = if to < k then .error 5 else .ok ((to - k, to), b') := by
  unfold rngR uptoR Fr.thenR
  rw [h]
  simp only
  by_cases hk : to < k
  · rw [if_pos hk, if_pos hk]; rfl
  · rw [if_neg hk, if_neg hk]; rfl
theorem ackLoop_eq : ∀ (m to : Nat) (b : List By), Fr.ackLoop m to b = Fr.thenR (rngR to) (fun r => Fr.thenR (ackTail m r.1) fun l => Fr.okR (r :: l)) b
  | 0, to, b => by
    cases h : Fr.numR b with
    | error e =>
      rw [Fr.thenR_err (rng_err h)]
      exact Fr.thenR_err h
    | ok x =>
      obtain ⟨k, b'⟩ := x
      have hr := rng_ok (to := to) h
      by_cases hk : to < k
      · rw [if_pos hk] at hr
        rw [Fr.thenR_err hr, Fr.ackLoop, thenR_ok h, if_pos hk]
        rfl
      · rw [if_neg hk] at hr
        rw [thenR_ok hr, Fr.ackLoop, thenR_ok h, if_neg hk]
        rfl
  | m + 1, to, b => by
    cases h : Fr.numR b with
    | error e =>
      rw [Fr.thenR_err (rng_err h)]
      exact Fr.thenR_err h
    | ok x =>
      obtain ⟨k, b'⟩ := x
      have hr := rng_ok (to := to) h
      by_cases hk : to < k
      · rw [if_pos hk] at hr
        rw [Fr.thenR_err hr, Fr.ackLoop, thenR_ok h, if_pos hk]
        rfl
      · rw [if_neg hk] at hr
        rw [thenR_ok hr, Fr.ackLoop, thenR_ok h, if_neg hk]
        cases h2 : Fr.numR b' with
        | error e =>
          rw [Fr.thenR_err h2, Fr.thenR_err (show ackTail (m + 1) (to - k) b' = .error e from Fr.thenR_err h2)]
        | ok y =>
          obtain ⟨gap, b2⟩ := y
          rw [thenR_ok h2]
          have ht : ackTail (m + 1) (to - k) b' = (if to - k < gap + 2 then Fr.noR 5 else Fr.thenR (rngR (to - k - gap - 2)) fun r => Fr.thenR (ackTail m r.1) fun l => Fr.okR (r :: l)) b2 := thenR_ok h2
          by_cases hg : to - k < gap + 2
          · rw [if_pos hg] at ht ⊢
            rw [Fr.thenR_err (show ackTail (m + 1) (to - k) b' = .error 5 from ht)]
            rfl
          · rw [if_neg hg] at ht ⊢
            rw [← ackLoop_eq m (to - k - gap - 2) b2] at ht
            unfold Fr.thenR
            rw [ht]
section
variable {f : List (Nat × Nat) → Fr.R Fr.Frame}
theorem loop_err {m to e : Nat} {b : List By} (h : rngR to b = .error e) : Fr.thenR (Fr.ackLoop m to) f b = .error e :=
  Fr.thenR_err ((ackLoop_eq m to b).trans (Fr.thenR_err h))
theorem loop_ok {m to : Nat} {b b' : List By} {r : Nat × Nat} (h : rngR to b = .ok (r, b')) : Fr.thenR (Fr.ackLoop m to) f b = Fr.thenR (ackTail m r.1) (fun l => f (r :: l)) b' := by
  have e1 : Fr.ackLoop m to b = Fr.thenR (ackTail m r.1) (fun l => Fr.okR (r :: l)) b' := (ackLoop_eq m to b).trans (thenR_ok h)
  unfold Fr.thenR at e1 ⊢
  rw [e1]
  cases ackTail m r.1 b' with
  | error e => rfl
  | ok x => rfl
theorem tail_err {m below e : Nat} {b : List By} (h : Fr.numR b = .error e) : Fr.thenR (ackTail (m + 1) below) f b = .error e :=
  Fr.thenR_err (show ackTail (m + 1) below b = .error e from Fr.thenR_err h)
theorem tail_no {m below gap : Nat} {b b' : List By} (h : Fr.numR b = .ok (gap, b')) (hg : below < gap + 2) : Fr.thenR (ackTail (m + 1) below) f b = .error 5 := by
  refine Fr.thenR_err ?_
  have ht : ackTail (m + 1) below b = (if below < gap + 2 then Fr.noR 5 else Fr.thenR (rngR (below - gap - 2)) fun r => Fr.thenR (ackTail m r.1) fun l => Fr.okR (r :: l)) b' := thenR_ok h
  rw [if_pos hg] at ht
  exact ht
theorem tail_go {m below gap : Nat} {b b' : List By} (h : Fr.numR b = .ok (gap, b')) (hg : ¬ below < gap + 2) : Fr.thenR (ackTail (m + 1) below) f b = Fr.thenR (Fr.ackLoop m (below - gap - 2)) f b' := by
  have ht : ackTail (m + 1) below b = (if below < gap + 2 then Fr.noR 5 else Fr.thenR (rngR (below - gap - 2)) fun r => Fr.thenR (ackTail m r.1) fun l => Fr.okR (r :: l)) b' := thenR_ok h
  rw [if_neg hg, ← ackLoop_eq m (below - gap - 2) b'] at ht
  unfold Fr.thenR
  rw [ht]
end

def akC (lim : Nat) (rv : Value) : Array Value := #[.int .u8 3, .int .u64 0, .int .u64 0, .int .u64 (lim : Int), .int .u64 0, .bool false, .slice none 0 0, rv]
/-- An answer while it is read: the reader, the answer's own variable, and the one that is handed back. -/
structure Ack (w : World) (g q lim tb : Nat) (s s' : SL) (rv : Value) (Y : World) : Prop where
  rd : Rd Y g s' tb
  sg : s'.g = s.g
  sl : s'.len ≤ s.len
  rh : Row Y w.heap.size 37 zF
  rq : Row Y q 37 (akC lim rv)
  gro : w.grownBy Y (some g)
  ord : g < w.heap.size ∧ w.heap.size < q ∧ 1 < w.heap.size ∧ (0 < s.len → s.g < w.heap.size)
theorem Ack.low {w Y : World} {g q lim tb : Nat} {s s' : SL} {rv : Value} (h : Ack w g q lim tb s s' rv Y) : 0 < s'.len → s'.g < w.heap.size := fun p => by rw [h.sg]; exact h.ord.2.2.2 (Nat.lt_of_lt_of_le p h.sl)
theorem Ack.keep {w Y Y' : World} {g q lim tb : Nat} {s s' : SL} {rv : Value} (h : Ack w g q lim tb s s' rv Y) (hb : Below (q + 1) Y Y') : Ack w g q lim tb s s' rv Y' := by
  obtain ⟨o1, o2, o3, o4⟩ := h.ord
  refine ⟨h.rd.same (hb.block g (by omega)) (fun p => hb.block _ (by have := h.low p; omega)) (hb.block _ (by omega)) hb.size, h.sg, h.sl, h.rh.below hb (by omega), h.rq.below hb (by omega), ?_, h.ord⟩
  exact ⟨hb.os.trans h.gro.os, hb.tape.trans h.gro.tape, hb.output.trans h.gro.output, Nat.le_trans h.gro.size hb.size, fun k hk hn => (hb.block k (by omega)).trans (h.gro.block k hk hn)⟩
theorem Ack.call {w Y Y' : World} {g q lim tb : Nat} {s s' s2 : SL} {rv : Value} (h : Ack w g q lim tb s s' rv Y) (hr : Rd Y' g s2 tb) (hsg : s2.g = s'.g) (hsl : s2.len ≤ s'.len) (hg : Y.grownBy Y' (some g)) : Ack w g q lim tb s s2 rv Y' := by
  obtain ⟨o1, o2, o3, o4⟩ := h.ord
  exact ⟨hr, hsg.trans h.sg, Nat.le_trans hsl h.sl, h.rh.grown hg (by omega), h.rq.grown hg (by omega), grown_trans h.gro hg, h.ord⟩
theorem Ack.store {w Y : World} {g q lim tb : Nat} {s s' : SL} {rv : Value} (h : Ack w g q lim tb s s' rv Y) (v : Value) : Ack w g q lim tb s s' v (Y.setCell ⟨q, 7, none⟩ v) := by
  obtain ⟨o1, o2, o3, o4⟩ := h.ord
  exact ⟨h.rd.setc (by omega) (fun p => by have := h.low p; omega) (by omega) _, h.sg, h.sl, h.rh.other (a := ⟨q, 7, none⟩) (show w.heap.size ≠ q by omega) _, h.rq.set 7 _, grown_setc h.gro (by omega) _, h.ord⟩
theorem rC2_lit (W : World) (r : Nat × Nat) : ∀ j u, (vr [r])[j]? = some u → (W.alloc (.cells (rC2 r) 114)).cell? ((⟨W.heap.size, 0, none⟩ : Addr).add j) = some u := by
  intro j u hj
  have rr : Row (W.alloc (.cells (rC2 r) 114)) W.heap.size 114 (rC2 r) := Row.new _ _ _
  rw [add_at, Nat.zero_add, rr.cell j, ← hj]
  show (vr [r]).toArray[j]? = _
  rw [List.getElem?_toArray]
end Go.Proofs.YtimhbjlmpojhoaaGreatDoor

/-! frame.isKind, frame.finBit, frame.Eliciting. -/
namespace Go.Proofs.YtimhbjlmpojhoaaGreatDoor
open Go Go.RowKit

end Go.Proofs.YtimhbjlmpojhoaaGreatDoor

/-! frame.fieldsOf: the fields of a frame that are not zero, a bit each. -/
namespace Go.Proofs.YtimhbjlmpojhoaaGreatDoor
open Go Go.RowKit

/-- The first k of seven bits, as a number. -/
def bitN (b : Bool) (n : Nat) : Nat := if b then n else 0
def bsum (b : Nat → Bool) : Nat → Nat
  | 0 => 0
  | k + 1 => bsum b k + bitN (b k) (2 ^ k)
/-- Has a frame a field? -/
def hasF (f : Fr.Frame) : Nat → Bool
  | 0 => decide (f.stream ≠ 0)
  | 1 => decide (f.offset ≠ 0)
  | 2 => decide (f.limit ≠ 0)
  | 3 => decide (f.code ≠ 0)
  | 4 => f.fin
  | 5 => decide (0 < f.data.length)
  | _ => decide (0 < f.ranges.length)
def fieldsN (f : Fr.Frame) : Nat := bsum (hasF f) 7
end Go.Proofs.YtimhbjlmpojhoaaGreatDoor

/-! Sets of numbers by the numbers at which they turn, on lists. No program in sight. -/
namespace Go.Proofs.YtimhbjlmpojhoaaGreatDoor.Rg
open Go Fr

/-- Does a number stand behind an odd number of turns? -/
def par : List Nat → Nat → Bool
  | [], _ => false
  | x :: r, n => (decide (x ≤ n)) ^^ par r n
def Up (t : List Nat) : Prop := t.Pairwise (· < ·)
def oddB (n : Nat) : Bool := decide (n % 2 = 1)

/-! ### Two sets, turn by turn -/
/-- So far two lists of turns are gone through, and the answer's turns are these. -/
structure St (rule : Bool → Bool → Bool) (a b : List Nat) (i j : Nat) (t : List Nat) : Prop where
  hi : i ≤ a.length
  hj : j ≤ b.length
  up : Up t
  mem : ∀ x ∈ t, x ≤ 4611686018427387904
  lowA : ∀ x ∈ t, ∀ y ∈ a.drop i, x < y
  lowB : ∀ x ∈ t, ∀ y ∈ b.drop j, x < y
  lowAB : ∀ x ∈ a.take i, ∀ y ∈ b.drop j, x < y
  lowBA : ∀ x ∈ b.take j, ∀ y ∈ a.drop i, x < y
  par : ∀ n, (∀ y ∈ a.drop i, n < y) → (∀ y ∈ b.drop j, n < y) → par t n = rule (par a n) (par b n)
  ins : oddB t.length = rule (oddB i) (oddB j)
  len : t.length ≤ i + j
/-! ### What is answered -/
end Go.Proofs.YtimhbjlmpojhoaaGreatDoor.Rg

/-! What ranges.Check answers. -/
namespace Go.Proofs.YtimhbjlmpojhoaaGreatDoor
open Go Go.RowKit

end Go.Proofs.YtimhbjlmpojhoaaGreatDoor

/-! Ranges that an answer may have: a set with something in it. -/
namespace Go.Proofs.YtimhbjlmpojhoaaGreatDoor
open Go Go.RowKit

end Go.Proofs.YtimhbjlmpojhoaaGreatDoor

/-! When a frame may be, by its fields' bits. No program in sight. -/
namespace Go.Proofs.YtimhbjlmpojhoaaGreatDoor
open Go Go.RowKit

/-- The fields that the row of each kind names. -/
def namedN : Nat → Nat
  | 1 => 4 | 3 => 68 | 4 => 13 | 5 => 9 | 6 => 34 | 7 => 51 | 8 => 4 | 9 => 5 | 10 => 20 | 11 => 4 | 12 => 5 | 13 => 56 | _ => 0
def tb (k j : Nat) : Bool := (namedN k).testBit j
theorem bits_ok : ∀ (k : Fin 15) (b0 b1 b2 b3 b4 b5 b6 : Bool), ((tb k.val 0 || !b0) && (tb k.val 1 || !b1) && (tb k.val 2 || !b2) && (tb k.val 3 || !b3) && (tb k.val 4 || !b4) && (tb k.val 5 || !b5) && (tb k.val 6 || !b6)) = decide ((0 + bitN b0 1 + bitN b1 2 + bitN b2 4 + bitN b3 8 + bitN b4 16 + bitN b5 32 + bitN b6 64) &&& (127 - namedN k.val) = 0) := by decide +kernel
theorem bare_bits (f : Fr.Frame) (s o l c fi d r : Bool) : Fr.bareF f s o l c fi d r ↔ ((s || !hasF f 0) && (o || !hasF f 1) && (l || !hasF f 2) && (c || !hasF f 3) && (fi || !hasF f 4) && (d || !hasF f 5) && (r || !hasF f 6)) = true := by
  have hd : decide (0 < f.data.length) = false ↔ f.data = [] := by
    rw [decide_eq_false_iff_not]
    constructor
    · intro h; exact List.eq_nil_of_length_eq_zero (by omega)
    · intro h; rw [h]; simp
  have hr : decide (0 < f.ranges.length) = false ↔ f.ranges = [] := by
    rw [decide_eq_false_iff_not]
    constructor
    · intro h; exact List.eq_nil_of_length_eq_zero (by omega)
    · intro h; rw [h]; simp
  unfold Fr.bareF
  simp only [Bool.and_eq_true, Bool.or_eq_true, Bool.not_eq_true', hasF, hd, hr, decide_eq_false_iff_not, ne_eq, Decidable.not_not, and_assoc]
theorem fields_bits (f : Fr.Frame) : fieldsN f = 0 + bitN (hasF f 0) 1 + bitN (hasF f 1) 2 + bitN (hasF f 2) 4 + bitN (hasF f 3) 8 + bitN (hasF f 4) 16 + bitN (hasF f 5) 32 + bitN (hasF f 6) 64 := rfl
/-- Has a frame nothing but what its row names? -/
def bareK (f : Fr.Frame) : Prop := fieldsN f &&& (127 - namedN f.kind) = 0
theorem bare_k (f : Fr.Frame) (k : Nat) (hk : f.kind = k) (h : k < 15) : bareK f ↔ Fr.bareF f (tb k 0) (tb k 1) (tb k 2) (tb k 3) (tb k 4) (tb k 5) (tb k 6) := by
  rw [bare_bits, bits_ok ⟨k, h⟩]
  unfold bareK
  rw [hk, fields_bits, decide_eq_true_iff]
end Go.Proofs.YtimhbjlmpojhoaaGreatDoor

/-! Single operations, guarded ones among them. No program in sight. -/
namespace Go.Proofs.YtimhbjlmpojhoaaGreatDoor
open Go Go.RowKit

section
variable {F : Fence} {n : Nat} {P : Program} {ops : Array Oper} {Q : Exit → Act → World → Prop} {a : Act} {w : World}
theorem OI_off2 {i : Nat} {K : Act → World → Prop} (h1 : i < ops.size) (hw : Region.wanted ops[i] (yielded ops a.tmps) = false) (hab : ∀ f, ops[i].about P w a.eval = some f → F.fn f) (h : K (a.put ops[i].dst undef) w) : wpOpIn F n P ops Q i K a w := by
  unfold wpOpIn
  simp only [Array.getElem?_eq_getElem h1, hw]
  exact ⟨hab, h⟩
theorem OI_value2 {i : Nat} {K : Act → World → Prop} (h1 : i < ops.size) (hw : Region.wanted ops[i] (yielded ops a.tmps) = true) (hab : ops[i].about P w a.eval = none) (hd : ∀ c, ops[i].op ≠ .defer c) (v : Value) (w' : World)
    (he : (execOp a.eval ops[i]).run P w = .ok (.value v) w') (h : K (a.put ops[i].dst v) w') : wpOpIn F n P ops Q i K a w :=
  OI_value (Array.getElem?_eq_getElem h1) hw hab hd v w' he h
theorem OI_call2 {i : Nat} {K : Act → World → Prop} (h1 : i < ops.size) (hw : Region.wanted ops[i] (yielded ops a.tmps) = true) (hd : ∀ c, ops[i].op ≠ .defer c) (f : Nat) (args : Array Value) (hab : ∀ g, ops[i].about P w a.eval = some g → F.fn g)
    (he : (execOp a.eval ops[i]).run P w = .ok (.enter f args) w) (hn : 1 ≤ n) (hc : CallsIn F (n - 1) P f args w fun e w' => ∃ v, e = .returned v ∧ K (a.put ops[i].dst v) w') : wpOpIn F n P ops Q i K a w :=
  OI_call (Array.getElem?_eq_getElem h1) hw hd f args hab he hn hc
end
section
variable {P : Program} {a : Act} {o : Oper}
theorem run_midR (ty : TypeId) (x : Operand) (g off : Nat) (cs : Array Value) (d : TypeDesc) (ho : o.op = .load ty x) (hx : a.eval x = .pointer (some ⟨g, off, none⟩)) (hu : P.underlying ty = some d) (hd : d.isRow = true) (hi : (P.info? ty).map (·.size) = some cs.size) (W : World) (hc : W.rangeAt g off cs.toList) :
    (execOp a.eval o).run P W = .ok (.value (.agg cs)) W := by
  have h := run_loadAt_mid (P := P) W g off ty cs.toList d hc hu hd (by simpa using hi)
  unfold execOp
  simp only [ho, hx, Sem.run_bind, h, Result.andThen_ok, Sem.run_pure]
theorem run_atR (t e : TypeId) (m : Nat) (x ix : Operand) (g off len cap j : Nat) (ho : o.op = .indexAddr t x ix) (hx : a.eval x = .slice (some ⟨g, off, none⟩) len cap) (hix : a.eval ix = .int .i64 (j : Int))
    (hu : P.underlying t = some (.slice e)) (hi : (P.info? e).map (·.size) = some m) (hj : j < len) (W : World) : (execOp a.eval o).run P W = .ok (.value (.pointer (some ⟨g, off + j * m, none⟩))) W := by
  have hsz : (sizeOf e).run P W = .ok m W := by
    cases hq : P.info? e with
    | none => simp [hq] at hi
    | some i =>
      have : i.size = m := by simpa [hq] using hi
      simp [sizeOf, typeInfo, hq, this]
  unfold execOp
  simp [ho, hx, hix, Instr.indexAt, asIntOf, run_underlying hu, hj, hsz, Addr.add_mid]
end
end Go.Proofs.YtimhbjlmpojhoaaGreatDoor

/-! frame.mayBe: may a frame be? -/
namespace Go.Proofs.YtimhbjlmpojhoaaGreatDoor
open Go Go.RowKit

section
variable {F : Fence} {n : Nat} {P : Program} {ops : Array Oper} {Q : Exit → Act → World → Prop} {a : Act} {w : World}
/-- A call that may leave by a panic. -/
theorem OI_callP {o : Oper} {i : Nat} {K : Act → World → Prop} (hi : ops[i]? = some o) (hw : Region.wanted o (yielded ops a.tmps) = true) (hd : ∀ c, o.op ≠ .defer c) (f : Nat) (args : Array Value) (hab : ∀ g, o.about P w a.eval = some g → F.fn g)
    (he : (execOp a.eval o).run P w = .ok (.enter f args) w) (hn : 1 ≤ n) (hc : CallsIn F (n - 1) P f args w fun e w' => (∃ v, e = .returned v ∧ K (a.put o.dst v) w') ∨ ∃ c, e = .panicked c ∧ Q (.panic c) a w') : wpOpIn F n P ops Q i K a w := by
  unfold wpOpIn
  simp only [hi, hw, if_true]
  unfold Oper.wpIn
  refine ⟨hab, ?_⟩
  rw [Oper.semAt_eq _ _ _ hd, he]
  exact ⟨fun _ => hn, hc.mono (by rintro e w' (⟨v, rfl, h⟩ | ⟨c, rfl, h⟩) <;> exact h)⟩
end
/-- The table of the fields that each kind names. -/
def Named (w : World) : Prop := ∀ j, j < 15 → w.cell? ⟨0, j, none⟩ = some (.int .i64 (namedN j : Int))
theorem Named.step {w w' : World} (h : Named w) (hb : Below w.heap.size w w') : Named w' := by
  have hp : 0 < w.heap.size := by
    rcases Nat.lt_or_ge 0 w.heap.size with h0 | h0
    · exact h0
    · have := h 0 (by decide)
      simp [World.cell?, Array.getElem?_eq_none h0] at this
  exact fun j hj => (hb.cell (p := ⟨0, j, none⟩) hp).trans (h j hj)

end Go.Proofs.YtimhbjlmpojhoaaGreatDoor
