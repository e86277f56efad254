/-
  The law's alive: answers that the document fixes.
-/
import Derived.Test.YtffokggejbmadaaDoorGdAeOpen
import Derived.Test.YtffokggejbmadaaDoorGdAeVec
import Derived.Test.YtffokggejbmadaaDoorGdChaSame
import Derived.Test.YtffokggejbmadaaDoorGdPlAliveB
namespace Go.Proofs.YtffokggejbmadaaDoor
open Go Go.RowKit

theorem row_vNonce : (#[.int .u8 7, .int .u8 0, .int .u8 0, .int .u8 0, .int .u8 64, .int .u8 65, .int .u8 66, .int .u8 67, .int .u8 68, .int .u8 69, .int .u8 70, .int .u8 71] : Array Value) = bs vNonce := by rfl
theorem row_vBeside : (#[.int .u8 80, .int .u8 81, .int .u8 82, .int .u8 83, .int .u8 192, .int .u8 193, .int .u8 194, .int .u8 195, .int .u8 196, .int .u8 197, .int .u8 198, .int .u8 199] : Array Value) = bs vBeside := by rfl
def v4 : List By := [211, 26, 141, 52]
theorem row_v4 : (#[.int .u8 211, .int .u8 26, .int .u8 141, .int .u8 52] : Array Value) = bs v4 := by rfl
theorem row_vTag : (#[.int .u8 26, .int .u8 225, .int .u8 11, .int .u8 89, .int .u8 79, .int .u8 9, .int .u8 226, .int .u8 106, .int .u8 126, .int .u8 144, .int .u8 46, .int .u8 203, .int .u8 208, .int .u8 96, .int .u8 6, .int .u8 145] : Array Value) = bs vTag := by rfl
def keyTo (k : Nat) : List By := (List.range k).map fun i => BitVec.ofNat 8 (128 + i)
theorem keyTo_succ (k : Nat) : keyTo (k + 1) = keyTo k ++ [BitVec.ofNat 8 (128 + k)] := by
  unfold keyTo
  rw [List.range_succ, List.map_append, List.map_singleton]
theorem keyTo_length (k : Nat) : (keyTo k).length = k := by simp [keyTo]
theorem key_byte (k : Nat) (h : k < 32) : (128 : Int) + (k : Int) = v8 (BitVec.ofNat 8 (128 + k)) := by
  unfold v8
  rw [BitVec.toNat_ofNat]
  omega
theorem valueW {P : Program} {ops : Array Oper} {rest : List Oper} {o : Oper} {a : Act} {w : World} {Q : Exit → Act → World → Prop} (hgd : o.guard = none) (v : Value) (w' : World)
    (he : (execOp a.eval o).run P w = .ok (.value v) w') (h : wpList P ops Q rest (a.put o.dst v) w') : wpList P ops Q (o :: rest) a w :=
  wpList_plain hgd fun _ hK => by
    unfold Oper.wp
    rw [he]
    exact hK _ _ h
theorem made_vb (n : Nat) : (madeCells (Value.int .u8 0).cells (n * 1)).toList = vb (List.replicate n 0) := by
  unfold madeCells vb
  apply List.ext_getElem
  · simp [Value.cells]
  · intro i h1 h2
    simp [Value.cells, v8, Nat.mod_one]
theorem aliveE1 : sealE vKey vNonce vPlain vBeside = 0 ∧ sealO vKey vNonce vPlain vBeside = vHidden ++ vTag := by
  have := seal_fine (k := vKey) (n := vNonce) (p := vPlain) (b := vBeside) ⟨rfl, rfl⟩ ⟨by decide, by decide⟩
  rw [seal_vec] at this
  exact this
theorem aliveE2 : openE vKey vNonce (List.replicate 15 0) [] = 4 ∧ openO vKey vNonce (List.replicate 15 0) [] = [] := open_short ⟨rfl, rfl⟩ (by decide)
theorem aliveE3 : sealE (vKey.take 31) vNonce [] [] = 1 ∧ sealO (vKey.take 31) vNonce [] [] = [] := seal_arg (by decide)
theorem aliveE4 : openE vKey vNonce (List.replicate 20 0) [] = 11 ∧ openO vKey vNonce (List.replicate 20 0) [] = [] :=
  open_tag ⟨rfl, rfl⟩ (by decide) ⟨by decide, by decide⟩ (by
    rw [show hidO (List.replicate 20 0) = List.replicate 4 0 from rfl, none_mark, show tagO (List.replicate 20 0) = List.replicate 16 0 from rfl]
    exact fun e => none_ne e.symm)
def nilS6 : SL := ⟨none, 0, 0, 0, 0, []⟩
theorem nilS6_ok (w : World) : nilS6.Ok w := ⟨rfl, Nat.le_refl _, fun _ => ⟨rfl, rfl⟩, fun h => absurd h (Nat.lt_irrefl _), fun h => absurd h (Nat.lt_irrefl _), fun _ h => absurd h (Nat.not_lt_zero _)⟩
theorem own_some {w : World} {base : Nat} {a : Option Addr} {n c : Nat} {xs : List By} (h : w.ownsRow base 5 1 (.slice a n c) n (vb xs)) (h0 : 0 < n) : ∃ g, a = some ⟨g, 0, none⟩ := by
  rcases h.2 with ⟨_, rfl⟩ | ⟨g, cap, cur, e, _⟩
  · exact absurd h0 (Nat.lt_irrefl _)
  · injection e with e1
    exact ⟨g, e1⟩

set_option maxRecDepth 20000 in
set_option maxHeartbeats 4000000 in
theorem alive_any (w : World) (hg : Glob w) : Calls Tryd.prog 6 #[] w fun e w' => e = .returned (.bool true) ∧ Below w.heap.size w w' := by
  obtain ⟨i0, hi, hz0, hz1, hz2⟩ := info_parts (P := Tryd.prog) (e := 5) (z := .int .u8 0) (size := 1) (bytes := 1) (by kernel_rfl)
  have HG := veil hg
  clear hg
  go_enter Tryd.func6, Tryd.ntmps6
  go_wp2
  go_loopw [1, 2] (fun bv iv wr => ∃ (k : Nat) (a : Option Addr) (c : Nat), k ≤ 32 ∧ iv = .int .i64 k ∧ bv = .slice a k c ∧ wr.ownsRow w.heap.size 5 1 (.slice a k c) k (vb (keyTo k)) ∧ Below w.heap.size w wr)
    (fun _ iv _ => 32 - (intOf iv).toNat)
  case atStart => exact ⟨0, none, 0, by omega, rfl, rfl, World.ownsRow_nil _ _ _ _, Below.refl _ _⟩
  case round =>
    obtain ⟨k, a, c, hk, rfl, rfl, hown, hbel⟩ := hrel
    have HOWN := veil hown
    have HB := veil hbel
    have hsz := hbel.size
    clear hown hbel
    by_cases hlt : k < 32
    · have hdk : decide ((k : Int) < 32) = true := by simp; omega
      have HV := veil (key_byte k hlt)
      go_wp2_with (with_reducible (show wpList _ _ _ (⟨some 22, Op.call _, _, _, _, _⟩ :: _) _ _)
                   rw [HV.out]
                   refine append_sl rfl _ _ 22 rfl w.heap.size i0 Tryd.underlying22 hi hz0 hz1 hz2 _ k _ rfl (HOWN.out.alloc _) (rowN wr.heap.size 1 [BitVec.ofNat 8 (128 + k)]) (rowN_ok (Row.new _ _ _) rfl) rfl (by show k + 1 ≤ 8388608; omega) (by simp; omega) ?_
                   intro v4 w4 hown4 hgrow4)
      obtain ⟨a4, c4, rfl⟩ := own_shape hown4
      have HB4 := veil ((HB.out.alloc hsz (.cells #[.int .u8 (v8 (BitVec.ofNat 8 (128 + k)))] 5)).grown hgrow4 (by simp; omega) (fun k e => (HOWN.out.lt k e).1))
      have HO4 : Hid (w4.ownsRow w.heap.size 5 1 (.slice a4 (k + 1) c4) (k + 1) (vb (keyTo (k + 1)))) := by
        rw [keyTo_succ]
        exact hown4
      clear hown4 hgrow4
      go_wp2_with fail
      go_roundw
      case rel => exact ⟨k + 1, a4, c4, by omega, by go_num, rfl, HO4.out, HB4.out⟩
      case measure => simp [intOf]; omega
    · have hdk : decide ((k : Int) < 32) = false := by simp; omega
      obtain rfl : k = 32 := by omega
      have HK : Hid (wr.ownsRow w.heap.size 5 1 (.slice a 32 c) 32 (vb vKey)) := HOWN.out
      obtain ⟨gk, rfl⟩ := own_some HOWN.out (by omega)
      have rN := row_vNonce
      have rB := row_vBeside
      clear HOWN
      have hc1 := Lib.run_convert_bytes_const (P := Tryd.prog) ((wr.alloc (.cells (bs vNonce) 5)).alloc (.cells (bs vBeside) 5)) 22 5 (bs vPlain) 114 114 Tryd.underlying22 Tryd.underlying5
      obtain ⟨W2, hW2⟩ : ∃ W2, W2 = ((wr.alloc (.cells (bs vNonce) 5)).alloc (.cells (bs vBeside) 5)).alloc (.cells (bs vPlain) 5 ((bs vPlain).size, (bs vPlain).size + 1)) := ⟨_, rfl⟩
      rw [← hW2] at hc1
      simp only [World.size_alloc] at hc1
      have bW : Below wr.heap.size wr W2 := by rw [hW2]; exact (((Below.refl _ wr).alloc (Nat.le_refl _) _).alloc (by simp) _).alloc (by simp; omega) _
      have qN : (rowN wr.heap.size 12 vNonce).Ok W2 := by rw [hW2]; exact ((rowN_ok (Row.new wr 5 (bs vNonce)) rfl).alloc _).alloc _
      have qB : (rowN (wr.heap.size + 1) 12 vBeside).Ok W2 := by rw [hW2]; exact (rowN_ok (Row.new1 wr _ 5 (bs vBeside)) rfl).alloc _
      have qP : (rowN (wr.heap.size + 1 + 1) 114 vPlain).Ok W2 := rowF_ok (t := 5) (by
        rw [hW2]
        have := heap_alloc_new ((wr.alloc (.cells (bs vNonce) 5)).alloc (.cells (bs vBeside) 5)) (.cells (bs vPlain) 5 ((bs vPlain).size, (bs vPlain).size + 1))
        simp only [World.size_alloc] at this
        exact this) rfl
      have HQN := veil qN
      have HQB := veil qB
      have HQP := veil qP
      have HW := veil (HB.out.trans (bW.mono hsz))
      have HK2 := veil (own_below HK.out bW)
      clear hW2 qN qB qP bW
      go_wp2_with (first
        | (with_reducible (show wpList _ _ _ (⟨some 28, Op.buildSlice _ _ _, _, _, _, _⟩ :: _) _ _)
           refine valueW rfl (.slice (some ⟨((wr.alloc (.cells (bs vNonce) 5)).alloc (.cells (bs vBeside) 5)).heap.size, 0, none⟩) 114 114) (((wr.alloc (.cells (bs vNonce) 5)).alloc (.cells (bs vBeside) 5)).alloc (.cells (bs vPlain) 5)) (by kernel_rfl) ?_))
      have okK := own_ok6 HK2.out
      refine (seal_any ⟨some ⟨gk, 0, none⟩, 32, c, gk, 0, vKey⟩ (rowN wr.heap.size 12 vNonce) (rowN (wr.heap.size + 1 + 1) 114 vPlain) (rowN (wr.heap.size + 1) 12 vBeside) W2 (HG.out.below HW.out (Nat.le_refl _)) okK HQN.out HQP.out HQB.out).mono ?_
      rintro e3 w3 ⟨a3, c3, rfl, own3, hb3⟩
      simp only [rowN] at own3 ⊢
      rw [aliveE1.2, show (vHidden ++ vTag).length = 130 from rfl] at own3 ⊢
      rw [aliveE1.1]
      obtain ⟨g3, rfl⟩ := own_some own3 (by omega)
      have HO3 := veil own3
      have HW3 := veil (HW.out.trans (hb3.mono HW.out.size))
      have HK3 := veil (own_below HK2.out hb3)
      have HN3 := veil (HQN.out.below hb3)
      have hs2 := HW.out.size
      have hs3 := HW3.out.size
      have hlN : wr.heap.size < w3.heap.size := HN3.out.lt (by show 0 < 12; omega)
      clear own3 hb3 okK hc1 HQP HQB HQN HK2 HW rN rB
      go_wp2_with (first
        | (with_reducible (show wpList _ _ _ (⟨some 37, Op.makeSlice _ _ _, _, _, _, _⟩ :: _) _ _)
           refine wpList_make_full w3 rfl _ _ 22 rfl w3.heap.size 5 i0 (.int .u8 0) 1 Tryd.underlying22 hi hz0 hz1 .i64 .i64 15 15 15 rfl rfl rfl rfl (by rw [hz2]; decide) (by unfold maxLen; decide) (Nat.le_refl _) ?_
           intro w4 own4 grow4))
      rw [made_vb] at own4
      have hb4 : Below w3.heap.size w3 w4 := (Below.refl _ w3).grown grow4 (Nat.le_refl _) (fun q e => by cases e)
      have ok4 := own_ok6 own4
      have HW4 := veil (HW3.out.trans (hb4.mono hs3))
      have HK4 := veil (own_below HK3.out hb4)
      have HN4 := veil (HN3.out.below hb4)
      have HO4 := veil (own_below HO3.out hb4)
      have hs4 := HW4.out.size
      clear own4 grow4 hb4 HK3 HN3 HO3 HW3
      refine (open_any ⟨some ⟨gk, 0, none⟩, 32, c, gk, 0, vKey⟩ (rowN wr.heap.size 12 vNonce) ⟨some ⟨w3.heap.size, 0, none⟩, 15, 15, w3.heap.size, 0, List.replicate 15 0⟩ nilS6 w4 (HG.out.below HW4.out (Nat.le_refl _)) (own_ok6 HK4.out) HN4.out ok4 (nilS6_ok _) (by show 15 ≤ 140737488355328; omega)).mono ?_
      rintro e5 w5 ⟨a5, c5, rfl, own5, hb5⟩
      simp only [rowN, nilS6] at own5 ⊢
      rw [aliveE2.1, aliveE2.2, List.length_nil]
      have HW5 := veil (HW4.out.trans (hb5.mono hs4))
      have HK5 := veil (own_below HK4.out hb5)
      have HN5 := veil (HN4.out.below hb5)
      have HO5 := veil (own_below HO4.out hb5)
      have hs5 := HW5.out.size
      have hc31 : 31 ≤ c := by have := (own_ok6 HK5.out).hcap; have : 32 ≤ c := this; omega
      clear own5 hb5 HK4 HN4 HO4 HW4 ok4
      go_wp2_with fail
      have ok31 := (own_ok6 HK5.out).head 31 (by show 31 ≤ 32; omega)
      refine (seal_any _ (rowN wr.heap.size 12 vNonce) nilS6 nilS6 w5 (HG.out.below HW5.out (Nat.le_refl _)) ok31 HN5.out (nilS6_ok _) (nilS6_ok _)).mono ?_
      rintro e6 w6 ⟨a6, c6, rfl, own6, hb6⟩
      simp only [rowN, nilS6] at own6 ⊢
      rw [aliveE3.1, aliveE3.2, List.length_nil]
      have HW6 := veil (HW5.out.trans (hb6.mono hs5))
      have HK6 := veil (own_below HK5.out hb6)
      have HN6 := veil (HN5.out.below hb6)
      have HO6 := veil (own_below HO5.out hb6)
      have hs6 := HW6.out.size
      clear own6 hb6 HK5 HN5 HO5 HW5 ok31
      go_wp2_with (first
        | (with_reducible (show wpList _ _ _ (⟨some 51, Op.makeSlice _ _ _, _, _, _, _⟩ :: _) _ _)
           refine wpList_make_full w6 rfl _ _ 22 rfl w6.heap.size 5 i0 (.int .u8 0) 1 Tryd.underlying22 hi hz0 hz1 .i64 .i64 20 20 20 rfl rfl rfl rfl (by rw [hz2]; decide) (by unfold maxLen; decide) (Nat.le_refl _) ?_
           intro w7 own7 grow7))
      rw [made_vb] at own7
      have hb7 : Below w6.heap.size w6 w7 := (Below.refl _ w6).grown grow7 (Nat.le_refl _) (fun q e => by cases e)
      have ok7 := own_ok6 own7
      have HW7 := veil (HW6.out.trans (hb7.mono hs6))
      have HK7 := veil (own_below HK6.out hb7)
      have HN7 := veil (HN6.out.below hb7)
      have HO7 := veil (own_below HO6.out hb7)
      have hs7 := HW7.out.size
      clear own7 grow7 hb7 HK6 HN6 HO6 HW6
      refine (open_any ⟨some ⟨gk, 0, none⟩, 32, c, gk, 0, vKey⟩ (rowN wr.heap.size 12 vNonce) ⟨some ⟨w6.heap.size, 0, none⟩, 20, 20, w6.heap.size, 0, List.replicate 20 0⟩ nilS6 w7 (HG.out.below HW7.out (Nat.le_refl _)) (own_ok6 HK7.out) HN7.out ok7 (nilS6_ok _) (by show 20 ≤ 140737488355328; omega)).mono ?_
      rintro e8 w8 ⟨a8, c8, rfl, own8, hb8⟩
      simp only [rowN, nilS6] at own8 ⊢
      rw [aliveE4.1, aliveE4.2, List.length_nil]
      have HW8 := veil (HW7.out.trans (hb8.mono hs7))
      have HO8 := veil (own_below HO7.out hb8)
      have hs8 := HW8.out.size
      have hc130 : 130 ≤ c3 := (own_ok6 HO8.out).hcap
      have ok8 := veil (own_ok6 HO8.out)
      have r4 := row_v4
      have rT := row_vTag
      clear own8 hb8 HK7 HN7 HO7 HW7 ok7 HO8
      go_wp2_with fail
      have b9 := veil (HW8.out.alloc hs8 (.cells (bs v4) 5))
      refine (same_sl _ (rowN w8.heap.size 4 v4) _ ((ok8.out.head 4 (by show 4 ≤ 130; omega)).alloc _) (rowN_ok (Row.new w8 5 (bs v4)) rfl) rfl (by show 4 ≤ 8388608; omega)).mono ?_
      rintro e10 w10 ⟨rfl, hb10⟩
      have HW10 := veil (b9.out.trans (hb10.mono b9.out.size))
      have ok10 := veil ((ok8.out.alloc (.cells (bs v4) 5)).below hb10)
      have hs10 := HW10.out.size
      clear hb10 b9 ok8 HW8 r4
      go_wp2_with fail
      have b11 := veil (HW10.out.alloc hs10 (.cells (bs vTag) 5))
      refine (same_sl _ (rowN w10.heap.size 16 vTag) _ ((ok10.out.tail 114 (by show 114 ≤ 130; omega)).alloc _) (rowN_ok (Row.new w10 5 (bs vTag)) rfl) rfl (by show 130 - 114 ≤ 8388608; omega)).mono ?_
      rintro e12 w12 ⟨rfl, hb12⟩
      have b12 := b11.out.trans (hb12.mono b11.out.size)
      clear hb12
      go_wp2_with fail
      go_ret
      exact ⟨rfl, b12⟩
end Go.Proofs.YtffokggejbmadaaDoor
