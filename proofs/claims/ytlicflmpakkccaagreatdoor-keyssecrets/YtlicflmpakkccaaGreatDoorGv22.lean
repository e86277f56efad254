/-
  Out of HkRefExp, HkRefLab.
-/
import Derived.Test.YtlicflmpakkccaaGreatDoorGv21
import Derived.Test.YtlicflmpakkccaaGreatDoorGv19
import Derived.Test.YtlicflmpakkccaaGreatDoorGvHkExpand
import Derived.Maps.AppendAt
import Derived.Test.YtlicflmpakkccaaGreatDoorGv24

/-! What the document's Expand answers. -/
namespace Go.Proofs.YtlicflmpakkccaaGreatDoor
open Go Go.RowKit

section
variable {P : Program} {ops : Array Oper} {rest : List Oper} {o : Oper} {a : Act} {w : World} {Q : Exit → Act → World → Prop}
/-- What came in is appended to a row of the call's own: where the new one lies. -/
theorem append_sl_at (hgd : o.guard = none) (s x : Operand) (t : TypeId) (ho : o.op = .call { callee := .builtin .append, args := #[s, x], argTypes := #[t, t] })
    (base : Nat) (i : TypeInfo) (ht : P.underlying t = some (.slice 5)) (hi : P.info? 5 = some i) (hz : i.zero = some (.int .u8 0)) (hsize : i.size = 1) (hby : i.bytes = 1)
    (v : Value) (n : Nat) (xs : List By) (hs : a.eval s = v) (hown : w.ownsRow base 5 1 v n (vb xs)) (q : SL) (hq : q.Ok w) (hx : a.eval x = .slice q.a q.len q.cap) (hl : n + q.len ≤ 8388608) (hbase : base ≤ w.heap.size)
    (h : ∀ v' w', w'.ownsRow base 5 1 v' (n + q.len) (vb (xs ++ q.b)) → w.grownBy w' v.ownBlock → (v'.ownBlock = v.ownBlock ∨ v'.ownBlock = some w.heap.size) → wpList P ops Q rest (a.put o.dst v') w') : wpList P ops Q (o :: rest) a w := by
  obtain ⟨ad, len, cap, g, off, b⟩ := q
  cases ad with
  | none =>
    obtain ⟨h1, h2⟩ := hq.nil rfl
    simp only at h1 h2
    subst h1 h2
    have hb0 : b = [] := List.eq_nil_of_length_eq_zero hq.hb
    subst hb0
    refine wpList_append_own_none hgd s x t ho base 5 i 1 ht hi v n (vb xs) hs hown hx (h _ _ ?_ ⟨rfl, rfl, rfl, Nat.le_refl _, fun _ _ _ => rfl⟩ (.inl rfl))
    simpa using hown
  | some ad =>
    have hb : b.length = len := hq.hb
    obtain ⟨v', w', hr, h1, h2, _, h4⟩ := run_append_own_at (P := P) w base t o.type 5 i (.int .u8 0) 1 1 ht hi hz hsize hby rfl (by decide) v n (vb xs) hown ad len cap (vb b) (by rw [vb_length, hb, Nat.mul_one])
      (fun j u hj => by
        obtain ⟨h1, rfl⟩ := vb_get' b j u hj
        have e := hq.at_ (show 0 < len by omega)
        simp only at e
        injection e with e
        subst e
        rw [add_at]
        exact hq.cell j (show j < len by omega)) (vb_one b) (by unfold maxLen; simp only at hl; omega) (by simp only at hl; omega) hbase
    rw [← vb_append] at h1
    refine wpList_plain hgd fun _ hK => ?_
    unfold Oper.wp
    rw [exec_append s x t t ho v _ hs hx v' w' hr]
    exact hK _ _ (h v' w' h1 h2 h4)
end

theorem partTo_split' (k info : List By) (m d : Nat) : ∃ l : List Prt, partTo k info (m + d) = partTo k info m ++ l := by
  induction d with
  | zero => exact ⟨[], by simp⟩
  | succ d ih =>
    obtain ⟨l, hl⟩ := ih
    exact ⟨l ++ [partAt k info (m + d)], by rw [← Nat.add_assoc, partTo_succ, hl, List.append_assoc]⟩
theorem joined_append' (a b : List Prt) : joined (a ++ b) = joined a ++ joined b := by simp [joined]
theorem expandL_many (k info : List By) (n m : Nat) (h : n ≤ 32 * m) : (joined (partTo k info m)).take n = expandL k info n := by
  unfold expandL toldL
  have hd : m = nparts n + (m - nparts n) := by unfold nparts; omega
  obtain ⟨l, hl⟩ := partTo_split' k info (nparts n) (m - nparts n)
  rw [← hd] at hl
  rw [hl, joined_append', List.take_append_of_le_length (by rw [joined_length, partTo_length]; unfold nparts; omega)]
theorem own_shape2 {w : World} {base n : Nat} {e : TypeId} {v : Value} {xs : List Value} (h : w.ownsRow base e 1 v n xs) : ∃ a c, v = .slice a n c := by
  rcases h.2 with ⟨rfl, rfl⟩ | ⟨g, c, cur, rfl, _⟩
  · exact ⟨_, _, rfl⟩
  · exact ⟨_, _, rfl⟩

theorem kept_sep {w w' : World} {row : Option Nat} {base n : Nat} {v : Value} {xs : List Value} (h : w.ownsRow base 5 1 v n xs) (hg : w.grownBy w' row) (hs : ∀ g, v.ownBlock = some g → row ≠ some g) : w'.ownsRow base 5 1 v n xs := by
  refine h.kept hg ?_
  cases e : v.ownBlock with
  | none => exact .inl rfl
  | some g => exact .inr (fun e2 => hs g e e2.symm)

set_option maxRecDepth 20000 in
set_option maxHeartbeats 1000000 in
theorem refExpand_bad (k q : SL) (N : Int) (w : World) (hN : ¬ (0 ≤ N ∧ N ≤ 8160)) :
    Calls Tryz.prog 89 #[.slice k.a k.len k.cap, .slice q.a q.len q.cap, .int .i64 N] w fun e w' => e = .returned (.tuple #[.slice none 0 0, .int .i64 1]) ∧ Below w.heap.size w w' := by
  have HN := veil hN
  clear hN
  go_enter Tryz.func89, Tryz.ntmps89
  by_cases h1 : N < 0
  · go_wp2_with fail
    go_ret2
    exact ⟨rfl, Below.refl _ _⟩
  · have h2 : (8160 : Int) < N := by have := HN.out; omega
    go_wp2_with fail
    go_ret2
    exact ⟨rfl, Below.refl _ _⟩

set_option maxRecDepth 20000 in
set_option maxHeartbeats 1000000 in
theorem refExpand_limit (k q : SL) (N : Int) (w : World) (hN : 0 ≤ N ∧ N ≤ 8160) (hl : 1048576 < k.len ∨ 1048479 < q.len) :
    Calls Tryz.prog 89 #[.slice k.a k.len k.cap, .slice q.a q.len q.cap, .int .i64 N] w fun e w' => e = .returned (.tuple #[.slice none 0 0, .int .i64 3]) ∧ Below w.heap.size w w' := by
  obtain ⟨h1, h2⟩ := hN
  have g1 : ¬ N < 0 := by omega
  have g2 : ¬ (8160 : Int) < N := by omega
  clear h1 h2
  go_enter Tryz.func89, Tryz.ntmps89
  by_cases h1 : (1048576 : Int) < (k.len : Int)
  · go_wp2_with fail
    go_ret2
    exact ⟨rfl, Below.refl _ _⟩
  · have h2 : (1048479 : Int) < (q.len : Int) := by omega
    go_wp2_with fail
    go_ret2
    exact ⟨rfl, Below.refl _ _⟩

set_option maxRecDepth 20000 in
set_option maxHeartbeats 2000000 in
theorem refExpand_ok (k q : SL) (N : Nat) (w : World) (hk : k.Ok w) (hq : q.Ok w) (hN : N ≤ 8160) (hkl : k.len ≤ 1048576) (hql : q.len ≤ 1048479) :
    Calls Tryz.prog 89 #[.slice k.a k.len k.cap, .slice q.a q.len q.cap, .int .i64 (N : Int)] w fun e w' => ∃ s : SL, e = .returned (.tuple #[.slice s.a s.len s.cap, .int .i64 0]) ∧ s.Ok w' ∧ s.b = expandL (keyL k.b) q.b N ∧ Below w.heap.size w w' := by
  obtain ⟨i0, hi, hz0, hz1, hz2⟩ := info_parts (P := Tryz.prog) (e := 5) (z := .int .u8 0) (size := 1) (bytes := 1) (by kernel_rfl)
  have HK := veil hk
  have HQ := veil hq
  have hqb := hq.hb
  clear hk hq
  have g1 : ¬ (N : Int) < 0 := by omega
  have g2 : ¬ (8160 : Int) < (N : Int) := by omega
  have g3 : ¬ (1048576 : Int) < (k.len : Int) := by omega
  have g4 : ¬ (1048479 : Int) < (q.len : Int) := by omega
  go_enter Tryz.func89, Tryz.ntmps89
  go_wp2_with fail
  go_loopw [8, 9, 10] (fun v t iv wr => ∃ (i n : Nat) (a : Option Addr) (L c : Nat), L = 32 * i ∧ 32 * i < N + 32 ∧ iv = .int .i64 ((i : Int) + 1) ∧ v = .slice a L c ∧ wr.ownsRow w.heap.size 5 1 (.slice a L c) L (vb (joined (partTo (keyL k.b) q.b i))) ∧ n = (partL (keyL k.b) q.b i).length ∧ wr.ownsRow w.heap.size 5 1 t n (vb (partL (keyL k.b) q.b i)) ∧ (∀ g, (Value.slice a L c).ownBlock = some g → t.ownBlock ≠ some g) ∧ Below w.heap.size w wr)
    (fun v _ _ _ => N - slen v)
  case atStart => exact ⟨0, 0, none, 0, 0, rfl, by omega, rfl, rfl, World.ownsRow_nil _ _ _ _, rfl, World.ownsRow_nil _ _ _ _, (fun g e => by cases e), Below.refl _ _⟩
  case round =>
    obtain ⟨i, n, a, L, c, hL, hiN, rfl, rfl, hout, hn, ht, hsep, hbel⟩ := hrel
    have hn32 : n ≤ 32 := by rw [hn]; exact partL_le _ _ _
    have HL := veil hL
    have HOUT := veil hout
    have HTT := veil ht
    have HSEP := veil hsep
    have HBL := veil hbel
    have hsz := hbel.size
    clear hL hout ht hsep hbel hn
    by_cases hlt : L < N
    · have hi255 : i < 255 := by have := HL.out; omega
      have hcv : IntKind.u8.wrap ((i : Int) + 1) = (i : Int) + 1 := by rw [IntKind.wrap_u8]; omega
      have HPB := veil (part_byte i hi255)
      have HQr := veil (HQ.out.below HBL.out)
      go_wp2_with (first
        | (with_reducible (show wpList _ _ _ (⟨some 34, Op.call _, _, _, _, _⟩ :: _) _ _)
           refine append_sl_at rfl _ _ 22 rfl w.heap.size i0 Tryz.underlying22 hi hz0 hz1 hz2 _ n _ rfl HTT.out q HQr.out rfl (by omega) hsz ?_
           intro v1 w1 hown1 hgrow1 hat1
           have hs1 := hgrow1.size)
        | (with_reducible (show wpList _ _ _ (⟨some 39, Op.call _, _, _, _, _⟩ :: _) _ _)
           refine append_sl_at rfl _ _ 22 rfl w.heap.size i0 Tryz.underlying22 hi hz0 hz1 hz2 _ (n + q.len) _ rfl (hown1.alloc _) (rowN w1.heap.size 1 [BitVec.ofNat 8 (i + 1)]) (by
             have e : (#[.int .u8 ((i : Int) + 1)] : Array Value) = bs [BitVec.ofNat 8 (i + 1)] := by
               unfold bs
               rw [List.map_cons, HPB.out]
               rfl
             rw [e]
             exact rowN_ok (Row.new _ _ _) rfl) rfl (by show n + q.len + 1 ≤ 8388608; omega) (by simp; omega) ?_
           intro v2 w2 hown2 hgrow2 hat2))
      have O1 := kept_sep HOUT.out hgrow1 (fun g e => HSEP.out g e)
      have olt : ∀ g, (Value.slice a L c).ownBlock = some g → g < wr.heap.size := fun g e => (HOUT.out.lt g e).2
      have sep1 : ∀ g, (Value.slice a L c).ownBlock = some g → v1.ownBlock ≠ some g := fun g e e2 => by
        rcases hat1 with h | h
        · exact HSEP.out g e (h ▸ e2)
        · rw [h] at e2
          injection e2 with e2
          have := olt g e
          omega
      have O2 := kept_sep (O1.alloc (.cells #[.int .u8 ((i : Int) + 1)] 5)) hgrow2 (fun g e => sep1 g e)
      have b1 : Below w.heap.size w w1 := HBL.out.grown hgrow1 hsz (fun z e => (HTT.out.lt z e).1)
      have b2 : Below w.heap.size w w2 := (b1.alloc b1.size _).grown hgrow2 (by have := b1.size; simp; omega) (fun z e => ((hown1.alloc (.cells #[] 5)).lt z e).1)
      have hs2 := hgrow2.size
      rw [World.size_alloc] at hs2
      obtain ⟨s2, rfl, hsl2, hsb2, hok2, _⟩ := SL.of_own hown2
      have hpart : macK (keyL k.b) s2.b = partL (keyL k.b) q.b (i + 1) := by
        rw [hsb2]
        show macK (keyL k.b) ((partL (keyL k.b) q.b i ++ q.b) ++ [BitVec.ofNat 8 (i + 1)]) = _
        rw [List.append_assoc]
        rfl
      have HP := veil hpart
      have HO2 := veil O2
      have HB2 := veil b2
      have HS2 := veil hok2
      have hl2 : s2.len ≤ 1048512 := by
        have : s2.len = n + q.len + 1 := hsl2
        omega
      clear O1 O2 hown1 hgrow1 hown2 hgrow2 hat1 hat2 sep1 b1 b2 hpart hok2 hsb2 HTT HSEP HQr
      unfold SL.v
      refine (refMac_any k s2 w2 (HK.out.below HB2.out) HS2.out hkl hl2).mono ?_
      rintro e3 w3 ⟨rfl, hb3⟩
      rw [HP.out]
      have HO3 := veil (own_below HO2.out hb3)
      have HB3 := veil (HB2.out.trans (hb3.mono HB2.out.size))
      have hs3 := hb3.size
      clear hb3 HO2 HB2 HS2 HP hl2
      have hXl := partL_length (keyL k.b) q.b i
      have HJ : Hid (joined (partTo (keyL k.b) q.b (i + 1)) = joined (partTo (keyL k.b) q.b i) ++ partL (keyL k.b) q.b (i + 1)) := show _ = _ by rw [partTo_succ, joined_snoc]; rfl
      obtain ⟨X, hX⟩ : ∃ X, X = partL (keyL k.b) q.b (i + 1) := ⟨_, rfl⟩
      rw [← hX] at hXl HJ ⊢
      have HX := veil hX
      clear hX
      have hXs : (bs X).size = 32 := by rw [bs_size, hXl]
      have hws : w.heap.size ≤ w3.heap.size := HB3.out.size
      go_wp2_with (first
        | (with_reducible (show wpList _ _ _ (⟨_, Op.alloc 60, _, _, _, _⟩ :: _) _ _)
           refine alloc_row rfl 60 rfl (bs z32) (by kernel_rfl) ?_)
        | (with_reducible (show wpList _ _ _ (⟨_, Op.store 60 _ _, _, _, _, _⟩ :: _) _ _)
           refine store_new (w := w3) (by rfl) 60 _ _ (by rfl) w3.heap.size (bs X) (by rfl) (by rfl) 60 (bs z32) (by rfl) 32 (by kernel_rfl) (by rfl) hXs (bs_one _) ?_)
        | (with_reducible (show wpList _ _ _ (⟨some 45, Op.call _, _, _, _, _⟩ :: _) _ _)
           refine Hid.out ?_))
      refine show wpList _ _ _ _ _ _ from ?_
      have hmade : ((w3.alloc (.cells (bs X) 60)).alloc (.cells #[] 5)).ownsRow w.heap.size 5 1 (.slice (some ⟨w3.heap.size + 1, 0, none⟩) 0 0) 0 (vb []) := by
        have := World.ownsRow_made (base := w.heap.size) (e := 5) (size := 1) (w3.alloc (.cells (bs X) 60)) #[] 0 (by rw [World.size_alloc]; omega) (Nat.zero_le _) rfl
        rw [World.size_alloc] at this
        exact this
      refine append_sl_at rfl _ _ 22 rfl w.heap.size i0 Tryz.underlying22 hi hz0 hz1 hz2 _ 0 [] rfl hmade (rowN w3.heap.size 32 X) ((rowN_ok (Row.new w3 60 (bs X)) hXl).alloc _) rfl (by show 0 + 32 ≤ 8388608; omega) (by simp; omega) ?_
      intro v6 w6 hown6 hgrow6 hat6
      have hsn : (w3.alloc (.cells (bs X) 60)).heap.size = w3.heap.size + 1 := by simp
      have hr6 : Row w6 w3.heap.size 60 (bs X) := (hgrow6.block _ (by simp; omega) (fun e => by injection e with e; have e' : w3.heap.size = w3.heap.size + 1 := e; omega)).trans ((Row.new w3 60 (bs X)).alloc _)
      have hs6 := hgrow6.size
      rw [World.size_alloc, World.size_alloc] at hs6
      have ho6 := kept_sep ((HO3.out.alloc (.cells (bs X) 60)).alloc (.cells #[] 5)) hgrow6 (fun g e e2 => by
        have h1 := olt g e
        injection e2 with e2
        have e3 : w3.heap.size + 1 = g := e2
        omega)
      have sep6 : ∀ g, (Value.slice a L c).ownBlock = some g → v6.ownBlock ≠ some g := fun g e e2 => by
        have h1 := olt g e
        rcases hat6 with h | h
        · rw [h] at e2
          injection e2 with e2
          have e3 : w3.heap.size + 1 = g := e2
          omega
        · rw [h] at e2
          injection e2 with e2
          simp at e2
          omega
      have b6 : Below w.heap.size w w6 := ((HB3.out.alloc hws _).alloc (by simp; omega) _).grown hgrow6 (by simp; omega) (fun z e => by
        injection e with e
        have e3 : w3.heap.size + 1 = z := e
        omega)
      have HO6 := veil ho6
      have HR6 := veil hr6
      have HT6 := veil hown6
      have HS6 := veil sep6
      have HB6 := veil b6
      clear ho6 hr6 hown6 sep6 b6 hgrow6 hat6 HO3 HB3
      go_wp2_with (with_reducible (show wpList _ _ _ (⟨some 48, Op.call _, _, _, _, _⟩ :: _) _ _)
                   refine append_sl_at rfl _ _ 22 rfl w.heap.size i0 Tryz.underlying22 hi hz0 hz1 hz2 _ L _ rfl HO6.out (rowN w3.heap.size 32 X) (rowN_ok HR6.out hXl) rfl (by show L + 32 ≤ 8388608; omega) HB6.out.size ?_
                   intro v7 w7 hown7 hgrow7 hat7
                   obtain ⟨a7, c7, rfl⟩ := own_shape2 hown7)
      go_wp2_with fail
      go_roundw
      case rel =>
        have ht7 := kept_sep HT6.out hgrow7 (fun g e e2 => HS6.out g e2 e)
        refine ⟨i + 1, 32, a7, L + 32, c7, by have := HL.out; omega, by have := HL.out; omega, by go_num, rfl, ?_, (partL_length _ _ _).symm, ?_, fun g e e2 => ?_, HB6.out.grown hgrow7 HB6.out.size (fun z e => (HO6.out.lt z e).1)⟩
        · rw [HJ.out]
          exact hown7
        · rw [← HX.out]
          exact ht7
        · rcases hat7 with h | h
          · exact HS6.out g (h ▸ e) e2
          · have h1 : (Value.slice a7 (L + 32) c7).ownBlock = some w6.heap.size := h
            rw [h1] at e
            injection e with e
            have := (HT6.out.lt g e2).2
            omega
      case measure =>
        show N - (L + 32) < N - L
        omega
    · have HEX := veil (expandL_many (keyL k.b) q.b N i (by have := HL.out; omega))
      have hjl : (joined (partTo (keyL k.b) q.b i)).length = L := by rw [joined_length, partTo_length, HL.out]
      obtain ⟨s, hv, hsl, hsb, hok, _⟩ := SL.of_own HOUT.out
      rcases HOUT.out.2 with ⟨h0, h1⟩ | ⟨g, cap, cur, h0, _, _, hLc, hcm, _, _⟩
      · have hN0 : N = 0 := by omega
        injection h0 with e1 e2 e3
        subst e1 e2 e3
        subst hN0
        go_wp2_with fail
        go_ret2
        refine ⟨⟨none, 0, 0, 0, 0, []⟩, rfl, ⟨rfl, Nat.le_refl _, fun _ => ⟨rfl, rfl⟩, fun h => absurd h (Nat.lt_irrefl _), fun h => absurd h (Nat.lt_irrefl _), fun _ h => absurd h (Nat.not_lt_zero _)⟩, ?_, HBL.out⟩
        rw [← HEX.out, List.take_zero]
      · injection h0 with e1 e2 e3
        subst e1 e3
        have hLn : (N : Int) ≤ (c : Int) := by omega
        have hNL : N ≤ L := by omega
        unfold maxLen at hcm
        go_wp2_with fail
        go_ret2
        refine ⟨⟨some ⟨g, 0, none⟩, N, c, g, 0, expandL (keyL k.b) q.b N⟩, rfl, ⟨expandL_length _ _ _, by show N ≤ c; omega, (fun h => by cases h), fun _ => rfl, (fun _ => (HOUT.out.lt g rfl).2), fun j hj => ?_⟩, rfl, HBL.out⟩
        show wr.cell? ⟨g, 0 + j, none⟩ = some (.int .u8 (v8 (gb (expandL (keyL k.b) q.b N) j)))
        have hj' : j < N := hj
        have := HOUT.out.cells (g := g) rfl j _ (vb_get _ j (by rw [hjl]; omega))
        rw [add_off] at this
        rw [Nat.zero_add, this, ← HEX.out]
        unfold gb
        rw [List.getElem?_take_of_lt hj']
end Go.Proofs.YtlicflmpakkccaaGreatDoor

/-! What the document's Label answers. -/
namespace Go.Proofs.YtlicflmpakkccaaGreatDoor
open Go Go.RowKit

theorem own_row (w : World) (base : Nat) (b : List By) (n : Nat) (hn : b.length = n) (hm : n ≤ 4194304) (hb : base ≤ w.heap.size) : (w.alloc (.cells (bs b) 5)).ownsRow base 5 1 (.slice (some ⟨w.heap.size, 0, none⟩) n n) n (vb b) := by
  subst hn
  refine ⟨by rw [vb_length, Nat.mul_one], .inr ⟨w.heap.size, b.length, bs b, rfl, hb, heap_alloc_new w _, Nat.le_refl _, by unfold maxLen; omega, by rw [bs_size, Nat.mul_one], ?_⟩⟩
  show (vb b).take (b.length * 1) = vb b
  rw [List.take_of_length_le (by rw [vb_length]; omega)]

set_option maxRecDepth 20000 in
set_option maxHeartbeats 1000000 in
theorem refLabel_bad (k c : SL) (s : ByteArray) (N : Int) (w : World) (hf : ¬ labFits s.size c.len N) :
    Calls Tryz.prog 32 #[.slice k.a k.len k.cap, .string s, .slice c.a c.len c.cap, .int .i64 N] w fun e w' => e = .returned (.tuple #[.slice none 0 0, .int .i64 1]) ∧ Below w.heap.size w w' := by
  unfold labFits at hf
  have HF := veil hf
  clear hf
  go_enter Tryz.func32, Tryz.ntmps32
  by_cases h1 : (249 : Int) < (s.size : Int)
  · go_wp2_with fail
    go_ret2
    exact ⟨rfl, Below.refl _ _⟩
  by_cases h2 : (255 : Int) < (c.len : Int)
  · go_wp2_with fail
    go_ret2
    exact ⟨rfl, Below.refl _ _⟩
  by_cases h3 : N < 0
  · go_wp2_with fail
    go_ret2
    exact ⟨rfl, Below.refl _ _⟩
  have h4 : (8160 : Int) < N := by have := HF.out; omega
  go_wp2_with fail
  go_ret2
  exact ⟨rfl, Below.refl _ _⟩

set_option maxRecDepth 20000 in
set_option maxHeartbeats 2000000 in
theorem refLabel_any (k c : SL) (s : ByteArray) (N : Nat) (w : World) (hk : k.Ok w) (hc : c.Ok w) (h1 : s.size ≤ 249) (h2 : c.len ≤ 255) (h3 : N ≤ 8160) (R : Ending → World → Prop)
    (hR : ∀ (q : SL) (w1 : World), q.Ok w1 → k.Ok w1 → q.b = infoL (bOf s) c.b N → Below w.heap.size w w1 → Calls Tryz.prog 89 #[.slice k.a k.len k.cap, .slice q.a q.len q.cap, .int .i64 (N : Int)] w1 fun e w' => ∃ a n d E, e = .returned (.tuple #[.slice a n d, .int .i64 E]) ∧ R e w') :
    Calls Tryz.prog 32 #[.slice k.a k.len k.cap, .string s, .slice c.a c.len c.cap, .int .i64 (N : Int)] w R := by
  obtain ⟨i0, hi, hz0, hz1, hz2⟩ := info_parts (P := Tryz.prog) (e := 5) (z := .int .u8 0) (size := 1) (bytes := 1) (by kernel_rfl)
  have HK := veil hk
  have HC := veil hc
  have hcb := hc.hb
  have HR := veil hR
  clear hk hc hR
  have g1 : ¬ (249 : Int) < (s.size : Int) := by omega
  have g2 : ¬ (255 : Int) < (c.len : Int) := by omega
  have g3 : ¬ (N : Int) < 0 := by omega
  have g4 : ¬ (8160 : Int) < (N : Int) := by omega
  have hsz : (tls ++ s).size = s.size + 6 := by
    rw [ByteArray.size_append]
    show 6 + s.size = _
    omega
  have hrw := head_row N s.size h3 h1
  obtain ⟨W1, hW1⟩ : ∃ W1, W1 = w.alloc (.cells (bs [BitVec.ofNat 8 (N / 256), BitVec.ofNat 8 N, BitVec.ofNat 8 (s.size + 6)]) 5) := ⟨_, rfl⟩
  have hcv := Lib.run_convert_string_bytes (P := Tryz.prog) W1 9 22 5 (tls ++ s) Tryz.underlying9 Tryz.underlying22 Tryz.underlying5
  have HO1 : Hid (W1.ownsRow w.heap.size 5 1 (.slice (some ⟨w.heap.size, 0, none⟩) 3 3) 3 (vb [BitVec.ofNat 8 (N / 256), BitVec.ofNat 8 N, BitVec.ofNat 8 (s.size + 6)])) := show W1.ownsRow _ _ _ _ _ _ by rw [hW1]; exact own_row w w.heap.size _ 3 rfl (by decide) (Nat.le_refl _)
  have b1 : Below w.heap.size w W1 := by rw [hW1]; exact (Below.refl _ w).alloc (Nat.le_refl _) _
  have hs1 : W1.heap.size = w.heap.size + 1 := by rw [hW1]; simp
  obtain ⟨W2, hW2⟩ : ∃ W2, W2 = Lib.bytesWorld W1 5 (tls ++ s) := ⟨_, rfl⟩
  have c2 : ∀ j : Nat, j < (tls ++ s).size → W2.cell? ⟨W1.heap.size, 0 + j, none⟩ = some (.int .u8 (v8 (gb (bOf (tls ++ s)) j))) := fun j hj => by
    rw [hW2, Nat.zero_add, Lib.bytesWorld_cell W1 5 (tls ++ s) j hj, bOf_get (tls ++ s) j hj]
  have b2 : Below W1.heap.size W1 W2 := by
    rw [hW2]
    exact ⟨rfl, rfl, rfl, by rw [Lib.bytesWorld_size]; omega, fun j hj => Lib.bytesWorld_at_old W1 5 (tls ++ s) j hj⟩
  have hs2 : W2.heap.size = W1.heap.size + 1 := by rw [hW2, Lib.bytesWorld_size]
  have hcap : (tls ++ s).size ≤ grownCap W1 (tls ++ s).size 0 5 := grownCap_ge ..
  rw [← hW2] at hcv
  clear hW2
  generalize grownCap W1 (tls ++ s).size 0 5 = C at *
  have qB : (⟨some ⟨W1.heap.size, 0, none⟩, (tls ++ s).size, C, W1.heap.size, 0, bOf (tls ++ s)⟩ : SL).Ok W2 := ⟨bOf_length _, hcap, (fun h => by cases h), fun _ => rfl, (fun _ => by show W1.heap.size < W2.heap.size; omega), c2⟩
  have HO2 := veil (own_below HO1.out b2)
  have HBW := veil (b1.trans (b2.mono (by omega)))
  rw [hW1] at hcv
  have hcv' : (convert 9 22 (.string ({ data := #[116, 108, 115, 49, 51, 32] } ++ s))).run Tryz.prog (w.alloc (.cells (bs [BitVec.ofNat 8 (N / 256), BitVec.ofNat 8 N, BitVec.ofNat 8 (s.size + 6)]) 5)) = _ := hcv
  have hW1s : (w.alloc (.cells (bs [BitVec.ofNat 8 (N / 256), BitVec.ofNat 8 N, BitVec.ofNat 8 (s.size + 6)]) 5)).heap.size = w.heap.size + 1 := by simp
  rw [hW1s, hsz] at hcv'
  rw [hsz, hs1] at qB
  have HQB := veil qB
  have hone : vb [BitVec.ofNat 8 c.len] = [.int .u8 (c.len : Int)] := by
    have e : v8 (BitVec.ofNat 8 c.len) = (c.len : Int) := by unfold v8; rw [BitVec.toNat_ofNat]; omega
    unfold vb
    rw [List.map_cons, e]
    rfl
  have HONE := veil hone
  clear hcv qB b1 b2 c2 hcap hW1 hone HO1
  have hsW := HBW.out.size
  have hbC : IntKind.u8.wrap (c.len : Int) = (c.len : Int) := by rw [IntKind.wrap_u8]; omega
  go_enter Tryz.func32, Tryz.ntmps32
  go_wp2_with (first
    | (with_reducible (show wpList _ _ _ (⟨some 41, Op.call _, _, _, _, _⟩ :: _) _ _)
       refine append_sl rfl _ _ 22 rfl w.heap.size i0 Tryz.underlying22 hi hz0 hz1 hz2 _ 3 _ rfl HO2.out ⟨some ⟨w.heap.size + 1, 0, none⟩, s.size + 6, C, w.heap.size + 1, 0, bOf (tls ++ s)⟩ HQB.out rfl (by show 3 + (s.size + 6) ≤ 8388608; omega) hsW ?_
       intro v4 w4 hown4 hgrow4
       have hb4 := HBW.out.grown hgrow4 hsW (fun z e => (HO2.out.lt z e).1)
       have hs4 := hb4.size)
    | (with_reducible (show wpList _ _ _ (⟨some 47, Op.call _, _, _, _, _⟩ :: _) _ _)
       refine wpList_append_own _ rfl _ _ 22 rfl w.heap.size 5 i0 (.int .u8 0) 1 1 Tryz.underlying22 hi hz0 hz1 hz2 rfl (by decide) _ (3 + (s.size + 6)) _ rfl (hown4.alloc _) ⟨w4.heap.size, 0, none⟩ 1 1 [.int .u8 (c.len : Int)] rfl rfl (cell_one_new _ _ _) (by simp [Value.oneCell']) (by unfold maxLen; omega) (by omega) (by simp; omega) ?_
       intro v5 w5 hown5 hgrow5 _
       have hb5 := (hb4.alloc hb4.size (.cells #[.int .u8 (c.len : Int)] 5)).grown hgrow5 (by have := hb4.size; simp; omega) (fun z e => ((hown4.alloc (.cells #[] 5)).lt z e).1)
       have hs5 := hb5.size
       have hown5' : w5.ownsRow w.heap.size 5 1 v5 (3 + (s.size + 6) + 1) (vb (([BitVec.ofNat 8 (N / 256), BitVec.ofNat 8 N, BitVec.ofNat 8 (s.size + 6)] ++ bOf (tls ++ s)) ++ [BitVec.ofNat 8 c.len])) := (by rw [vb_append, HONE.out]; exact hown5))
    | (with_reducible (show wpList _ _ _ (⟨some 50, Op.call _, _, _, _, _⟩ :: _) _ _)
       refine append_sl rfl _ _ 22 rfl w.heap.size i0 Tryz.underlying22 hi hz0 hz1 hz2 _ (3 + (s.size + 6) + 1) _ rfl hown5' c (HC.out.below hb5) rfl (by omega) (by omega) ?_
       intro v6 w6 hown6 hgrow6
       have hb6 := hb5.grown hgrow6 hb5.size (fun z e => (hown5'.lt z e).1)))
  obtain ⟨s6, rfl, hsl6, hsb6, hok6, _⟩ := SL.of_own hown6
  have hinfo : s6.b = infoL (bOf s) c.b N := by
    rw [hsb6, bOf_tls]
    unfold infoL
    rw [bOf_length, hcb]
    simp only [List.append_assoc]
  unfold SL.v
  refine (HR.out s6 w6 hok6 (HK.out.below hb6) hinfo hb6).mono ?_
  rintro e7 w7 ⟨a7, n7, d7, E7, rfl, hR7⟩
  have HR7 := veil hR7
  clear hR7 hown6 hgrow6 hown5 hown5' hgrow5 hown4 hgrow4
  go_wp2_with fail
  exact HR7.out
end Go.Proofs.YtlicflmpakkccaaGreatDoor
