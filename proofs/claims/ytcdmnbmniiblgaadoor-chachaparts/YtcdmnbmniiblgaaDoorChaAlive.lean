/-
  The law's alive: answers that the document fixes.
-/
import Derived.Test.YtcdmnbmniiblgaaDoorChaXorL
import Derived.Test.YtcdmnbmniiblgaaDoorChaVec
import Derived.Test.YtcdmnbmniiblgaaDoorChaSame
import Derived.Test.YtcdmnbmniiblgaaDoorShaUndPlain
namespace Go.Proofs.YtcdmnbmniiblgaaDoor
open Go Go.RowKit

/-- Some bytes of a row. -/
theorem row_sub {w : World} {g : Nat} {t : TypeId} {b : List By} (h : Row w g t (bs b)) (lo n cap : Nat) (hn : lo + n ≤ b.length) (hc : n ≤ cap) : (⟨some ⟨g, lo, none⟩, n, cap, g, lo, (b.drop lo).take n⟩ : SL).Ok w := by
  refine ⟨by simp; omega, hc, fun e => by simp at e, fun _ => rfl, fun _ => h.lt, fun j hj => ?_⟩
  have hj' : j < n := hj
  show w.cell? ⟨g, lo + j, none⟩ = some (.int .u8 (v8 (gb ((b.drop lo).take n) j)))
  rw [h.cellB (j := lo + j) (by omega)]
  unfold gb
  rw [List.getElem?_take, if_pos hj', List.getElem?_drop]
theorem block_lit (key : List By) (count : Wd) (z : Int) (hz : u count = z) (nonce : List By) (hk : key.length = 32) (hn : nonce.length = 12) (w : World) (hg : Glob w) :
    Calls Tryd.prog 7 #[.agg (bs key), .int .u32 z, .agg (bs nonce)] w fun e w' => e = .returned (.agg (bs (blockL key count nonce))) ∧ Below w.heap.size w w' := by
  subst hz
  exact block_any key count nonce hk hn w hg
theorem xor_lit (key : List By) (count : Wd) (z : Int) (hz : u count = z) (nonce : List By) (hk : key.length = 32) (hn : nonce.length = 12) (b : SL) (w : World) (hg : Glob w) (hb : b.Ok w) (hl : b.len ≤ 1048576) (hc : (((b.len + 63) / 64 : Nat) : Int) ≤ 4294967296 - u count) :
    Calls Tryd.prog 11 #[.agg (bs key), .int .u32 z, .agg (bs nonce), .slice b.a b.len b.cap] w fun e w' => ∃ g, e = .returned (.tuple #[.slice (some ⟨g, 0, none⟩) b.len b.len, .int .i64 0]) ∧ w'.ownsRow w.heap.size 5 1 (.slice (some ⟨g, 0, none⟩) b.len b.len) b.len (vb (xorL key count nonce b.b)) ∧ Below w.heap.size w w' := by
  subst hz
  exact xor_ok key count nonce hk hn b w hg hb hl hc
theorem xor_lim (key : List By) (count : Wd) (z : Int) (hz : u count = z) (nonce : List By) (b : SL) (w : World) (h : Great count b.len) :
    Calls Tryd.prog 11 #[.agg (bs key), .int .u32 z, .agg (bs nonce), .slice b.a b.len b.cap] w fun e w' => e = .returned (.tuple #[.slice none 0 0, .int .i64 3]) ∧ Below w.heap.size w w' := by
  subst hz
  exact xor_limit key count nonce b w h
theorem own_ok {w : World} {base g n cap : Nat} {xs : List By} (h : w.ownsRow base 5 1 (.slice (some ⟨g, 0, none⟩) n cap) n (vb xs)) : (⟨some ⟨g, 0, none⟩, n, cap, g, 0, xs⟩ : SL).Ok w := by
  obtain ⟨s, hv, hl, hb, hok, _⟩ := SL.of_own h
  obtain ⟨sa, sl, sc, sg, so, sb⟩ := s
  simp only [SL.v, Value.slice.injEq] at hv hl hb
  obtain ⟨rfl, _, rfl⟩ := hv
  subst hl hb
  refine ⟨hok.hb, hok.hcap, hok.nil, fun _ => rfl, fun p => ?_, fun j hj => ?_⟩
  · have := hok.at_ p
    simp at this
    have h2 := hok.lt p
    simp only at h2
    show g < _
    omega
  · have p : 0 < sl := by have hj' : j < sl := hj; omega
    have := hok.at_ p
    simp at this
    obtain ⟨e1, e2⟩ := this
    have h2 := hok.cell j hj
    simp only at h2
    rw [← e1, ← e2] at h2
    exact h2
theorem lo4 (x y : Wd) (s : List Wd) (h0 : gw s 0 = x) (h1 : gw s 1 = y) : (bytesL s).take 8 = [loOf x 0, loOf x 1, loOf x 2, loOf x 3, loOf y 0, loOf y 1, loOf y 2, loOf y 3] := by
  subst h0 h1
  rfl
theorem hi4 (x : Wd) (s : List Wd) (h : gw s 15 = x) : (bytesL s).drop 60 = [loOf x 0, loOf x 1, loOf x 2, loOf x 3] := by
  subst h
  rfl
def aV : List By := [118, 184, 224, 173, 160, 241, 61, 144]
def bV : List By := [162, 80, 60, 78]
theorem vec_a : (blockL kZ 0#32 nZ).take 8 = aV := by
  rw [blockL_S, lo4 _ _ _ endZ.1 endZ.2]
  decide +kernel
theorem vec_b : (blockL kU 1#32 nU).drop 60 = bV := by
  rw [blockL_S, hi4 _ _ endU]
  decide +kernel
theorem vec_c : xorL kZ 0#32 nZ [0, 0, 0, 0] = (blockL kZ 0#32 nZ).take 4 := by
  apply gb_ext
  · rw [xorL_length, List.length_take, blockL_length]; rfl
  · intro p hp
    rw [xorL_length] at hp
    have hp4 : p < 4 := hp
    rw [xorL_gb _ _ _ _ _ hp]
    have e0 : gb ([0, 0, 0, 0] : List By) p = 0 := by
      match p, hp4 with
      | 0, _ => rfl
      | 1, _ => rfl
      | 2, _ => rfl
      | 3, _ => rfl
    unfold sby
    rw [e0, show p / 64 = 0 by omega, show p % 64 = p by omega, cnt_zero]
    have : ∀ y : By, xb 0 y = y := fun y => by unfold xb; simp
    rw [this]
    unfold gb
    rw [List.getElem?_take_of_lt hp4]
theorem row_z4 : (#[.int .u8 0, .int .u8 0, .int .u8 0, .int .u8 0] : Array Value) = bs [0, 0, 0, 0] := by kernel_rfl
theorem row_aV : (#[.int .u8 118, .int .u8 184, .int .u8 224, .int .u8 173, .int .u8 160, .int .u8 241, .int .u8 61, .int .u8 144] : Array Value) = bs aV := by kernel_rfl
theorem row_bV : (#[.int .u8 162, .int .u8 80, .int .u8 60, .int .u8 78] : Array Value) = bs bV := by kernel_rfl
theorem made_vb (n : Nat) : (madeCells (Value.int .u8 0).cells (n * 1)).toList = vb (List.replicate n 0) := by
  apply List.ext_getElem
  · simp [madeCells, vb]
  · intro j h1 h2
    simp [madeCells, vb, Value.cells, Nat.mod_one]
    rfl
theorem kU_get (i : Nat) (h : i < 32) : kU[i]? = some (BitVec.ofNat 8 i) := by unfold kU; simp [h]
theorem kU_length : kU.length = 32 := by decide +kernel

set_option maxRecDepth 20000 in
set_option maxHeartbeats 2000000 in
theorem alive_any (w : World) (hg : Glob w) : Calls Tryd.prog 9 #[] w fun e w' => e = .returned (.bool true) ∧ Below w.heap.size w w' := by
  obtain ⟨i0, hi, hz0, hz1, hz2⟩ := info_parts (P := Tryd.prog) (e := 5) (z := .int .u8 0) (size := 1) (bytes := 1) (by kernel_rfl)
  have HG := veil hg
  clear hg
  have HA64 : Hid ((blockL kZ 0#32 nZ).length = 64) := show _ = _ from blockL_length _ _ _
  have HB64 : Hid ((blockL kU 1#32 nU).length = 64) := show _ = _ from blockL_length _ _ _
  have HVA := veil vec_a
  have HVB := veil vec_b
  have HVC := veil vec_c
  go_enter Tryd.func9, Tryd.ntmps9
  go_wp2_with (first
    | (with_reducible (show wpList _ _ _ (⟨_, Op.build 22 #[], _, _, _, _⟩ :: _) _ _)
       refine build_row rfl 22 _ rfl (bs kZ) (by kernel_rfl) ?_)
    | (with_reducible (show wpList _ _ _ (⟨_, Op.build 24 #[], _, _, _, _⟩ :: _) _ _)
       refine build_row rfl 24 _ rfl (bs nZ) (by kernel_rfl) ?_))
  refine (block_lit kZ 0#32 0 (by decide +kernel) nZ rfl rfl w HG.out).mono ?_
  rintro e1 w1 ⟨rfl, hb1⟩
  generalize blockL kZ 0#32 nZ = A at *
  have hA : (bs A).size = 64 := by rw [bs_size, HA64.out]
  go_wp2_with (first
    | (with_reducible (show wpList _ _ _ (⟨_, Op.alloc 27, _, _, _, _⟩ :: _) _ _)
       refine alloc_row rfl 27 rfl (bs (List.replicate 64 0)) (by kernel_rfl) ?_)
    | (with_reducible (show wpList _ _ _ (⟨_, Op.alloc 22, _, _, _, _⟩ :: _) _ _)
       refine alloc_row rfl 22 rfl (bs (List.replicate 32 0)) (by kernel_rfl) ?_)
    | (with_reducible (show wpList _ _ _ (⟨_, Op.store 27 _ _, _, _, _, _⟩ :: _) _ _)
       refine store_new (w := w1) (by rfl) 27 _ _ (by rfl) w1.heap.size (bs A) (by rfl) (by rfl) 27 _ (by rfl) 64 (by kernel_rfl) (by rfl) hA (bs_one _) ?_))
  go_loopw [3] (fun i wr => ∃ k : Nat, k ≤ 32 ∧ i = .int .i64 k ∧ Row wr w1.heap.size 27 (bs A) ∧ Row wr (w1.heap.size + 1) 22 (bs (kU.take k ++ List.replicate (32 - k) 0)) ∧ Below w.heap.size w wr)
    (fun i _ => 32 - (intOf i).toNat)
  case atStart => exact ⟨0, by omega, rfl, (Row.new _ _ _).alloc _, Row.new1 _ _ _ (bs (List.replicate 32 0)), (hb1.alloc hb1.size _).alloc (by have := hb1.size; simp; omega) _⟩
  case round =>
    have hs1 := hb1.size
    clear hb1
    obtain ⟨k, hk, rfl, rA, rK, hbel⟩ := hrel
    by_cases hlt : k < 32
    · have HE := (show Hid _ from fill_set kU 0 k 32 kU_length hlt _ (kU_get k hlt))
      obtain ⟨v, hv⟩ : ∃ v, wr.cell? ⟨w1.heap.size + 1, k, none⟩ = some v := ⟨_, rK.cellB (by simp [kU_length]; omega)⟩
      have fK := rK.frozen k
      have hp : (0 : Int) ≤ (k : Int) ∧ (k : Int) < 32 := by omega
      have HV : Hid (v8 (BitVec.ofNat 8 k) = (k : Int)) := show _ = _ by unfold v8; rw [BitVec.toNat_ofNat]; omega
      have hcv : IntKind.u8.wrap (k : Int) = (k : Int) := by rw [IntKind.wrap_u8]; omega
      go_wp2
      go_roundw
      case rel =>
        refine ⟨k + 1, by omega, by go_num, rA.other (by show w1.heap.size ≠ w1.heap.size + 1; omega) _, ?_, hbel.setCell (p := ⟨w1.heap.size + 1, k, none⟩) (by show w.heap.size ≤ w1.heap.size + 1; omega) _⟩
        rw [← HE.out, ← bs_set, HV.out]
        exact rK.set k _
      case measure => simp [intOf]; omega
    · have rK2 : Row wr (w1.heap.size + 1) 22 (bs kU) := by
        have := rK
        rw [show k = 32 by omega, List.take_of_length_le (by rw [kU_length]; omega)] at this
        simpa using this
      have hd : decide ((k : Int) < 32) = false := by simp; omega
      clear rK
      generalize wr = W2 at *
      go_wp2_with (first
        | (with_reducible (show wpList _ _ _ (⟨_, Op.load 22 _, _, _, _, _⟩ :: _) _ _)
           refine load_row rfl 22 _ rfl (w1.heap.size + 1) rfl _ _ rK2 32 5 Tryd.underlying22 (by kernel_rfl) (by rw [bs_size, kU_length]) ?_)
        | (with_reducible (show wpList _ _ _ (⟨_, Op.build 24 _, _, _, _, _⟩ :: _) _ _)
           refine build_row rfl 24 _ rfl (bs nU) (by kernel_rfl) ?_))
      refine (block_lit kU 1#32 1 (by decide +kernel) nU kU_length rfl W2 (HG.out.below hbel (Nat.le_refl _))).mono ?_
      rintro e3 w3 ⟨rfl, hb3⟩
      have rA3 := rA.below hb3 rA.lt
      have hbel3 := hbel.trans (hb3.mono hbel.size)
      clear hb3 rA rK2 hbel
      generalize blockL kU 1#32 nU = B at *
      have hB : (bs B).size = 64 := by rw [bs_size, HB64.out]
      have hs3 := hbel3.size
      have hA3 := rA3.lt
      go_wp2_with (first
        | (with_reducible (show wpList _ _ _ (⟨_, Op.alloc 27, _, _, _, _⟩ :: _) _ _)
           refine alloc_row rfl 27 rfl (bs (List.replicate 64 0)) (by kernel_rfl) ?_)
        | (with_reducible (show wpList _ _ _ (⟨_, Op.store 27 _ _, _, _, _, _⟩ :: _) _ _)
           refine store_new (w := w3) (by rfl) 27 _ _ (by rfl) w3.heap.size (bs B) (by rfl) (by rfl) 27 _ (by rfl) 64 (by kernel_rfl) (by rfl) hB (bs_one _) ?_)
        | (with_reducible (show wpList _ _ _ (⟨_, Op.build 22 #[], _, _, _, _⟩ :: _) _ _)
           refine build_row rfl 22 _ rfl (bs kZ) (by kernel_rfl) ?_)
        | (with_reducible (show wpList _ _ _ (⟨_, Op.build 24 #[], _, _, _, _⟩ :: _) _ _)
           refine build_row rfl 24 _ rfl (bs nZ) (by kernel_rfl) ?_))
      rw [row_z4]
      have q1 : Row ((w3.alloc (.cells (bs B) 27)).alloc (.cells (bs [0, 0, 0, 0]) 5)) (w3.heap.size + 1) 5 (bs [0, 0, 0, 0]) := Row.new1 _ _ _ _
      have rB4 : Row ((w3.alloc (.cells (bs B) 27)).alloc (.cells (bs [0, 0, 0, 0]) 5)) w3.heap.size 27 (bs B) := (Row.new _ _ _).alloc _
      have rA4 := (rA3.alloc (.cells (bs B) 27)).alloc (.cells (bs [0, 0, 0, 0]) 5)
      have hbel4 := (hbel3.alloc hbel3.size (.cells (bs B) 27)).alloc (by have := hbel3.size; simp; omega) (.cells (bs [0, 0, 0, 0]) 5)
      generalize (w3.alloc (.cells (bs B) 27)).alloc (.cells (bs [0, 0, 0, 0]) 5) = W4 at *
      refine (xor_lit kZ 0#32 0 (by decide +kernel) nZ rfl rfl ⟨some ⟨w3.heap.size + 1, 0, none⟩, 4, 4, w3.heap.size + 1, 0, [0, 0, 0, 0]⟩ W4 (HG.out.below hbel4 (Nat.le_refl _)) (rowN_ok q1 rfl) (by show 4 ≤ 1048576; omega) (by show (((4 + 63) / 64 : Nat) : Int) ≤ 4294967296 - u 0#32; decide +kernel)).mono ?_
      rintro e5 w5 ⟨g5, rfl, own5, hb5⟩
      have own6 : w5.ownsRow W4.heap.size 5 1 (.slice (some ⟨g5, 0, none⟩) 4 4) 4 (vb (A.take 4)) := by rw [← HVC.out]; exact own5
      have hc5 := veil (own_ok own6)
      have rA5 := rA4.below hb5 rA4.lt
      have rB5 := rB4.below hb5 rB4.lt
      have hbel5 := hbel4.trans (hb5.mono hbel4.size)
      clear own5 own6 hb5 rA4 rB4 hbel4 q1 HVC rA3 hbel3
      have hA5 := rA5.lt
      have hB5 := rB5.lt
      have HBel5 := veil hbel5
      have HRA5 := veil rA5
      have HRB5 := veil rB5
      clear hbel5 rA5 rB5
      go_wp2_with (first
        | (with_reducible (show wpList _ _ _ (⟨_, Op.build 22 #[], _, _, _, _⟩ :: _) _ _)
           refine build_row rfl 22 _ rfl (bs kZ) (by kernel_rfl) ?_)
        | (with_reducible (show wpList _ _ _ (⟨_, Op.build 24 #[], _, _, _, _⟩ :: _) _ _)
           refine build_row rfl 24 _ rfl (bs nZ) (by kernel_rfl) ?_)
        | (with_reducible (show wpList _ _ _ (⟨_, Op.makeSlice _ _ _, _, _, _, _⟩ :: _) _ _)
           refine wpList_make_full w5 rfl _ _ 30 rfl w5.heap.size 5 i0 (.int .u8 0) 1 Tryd.underlying30 hi hz0 hz1 .i64 .i64 64 64 64 rfl rfl rfl rfl (by rw [hz2]; decide) (by unfold maxLen; decide) (Nat.le_refl _) ?_
           intro w6 own6 grow6))
      rw [made_vb] at own6
      have hb6 : Below w5.heap.size w5 w6 := (Below.refl _ w5).grown grow6 (Nat.le_refl _) (fun j e => by cases e)
      have hbel6 := HBel5.out.trans (hb6.mono HBel5.out.size)
      refine (xor_lit kZ 4294967295#32 4294967295 (by decide +kernel) nZ rfl rfl ⟨some ⟨w5.heap.size, 0, none⟩, 64, 64, w5.heap.size, 0, List.replicate 64 0⟩ w6 (HG.out.below hbel6 (Nat.le_refl _)) (own_ok own6) (by show 64 ≤ 1048576; omega) (by show (((64 + 63) / 64 : Nat) : Int) ≤ 4294967296 - u 4294967295#32; decide +kernel)).mono ?_
      rintro e7 w7 ⟨g7, rfl, _, hb7⟩
      have hb57 : Below w5.heap.size w5 w7 := hb6.trans (hb7.mono hb6.size)
      clear own6 grow6 hb6 hbel6 hb7
      go_wp2_with (first
        | (with_reducible (show wpList _ _ _ (⟨_, Op.build 22 #[], _, _, _, _⟩ :: _) _ _)
           refine build_row rfl 22 _ rfl (bs kZ) (by kernel_rfl) ?_)
        | (with_reducible (show wpList _ _ _ (⟨_, Op.build 24 #[], _, _, _, _⟩ :: _) _ _)
           refine build_row rfl 24 _ rfl (bs nZ) (by kernel_rfl) ?_)
        | (with_reducible (show wpList _ _ _ (⟨_, Op.makeSlice _ _ _, _, _, _, _⟩ :: _) _ _)
           refine wpList_make_full w7 rfl _ _ 30 rfl w7.heap.size 5 i0 (.int .u8 0) 1 Tryd.underlying30 hi hz0 hz1 .i64 .i64 65 65 65 rfl rfl rfl rfl (by rw [hz2]; decide) (by unfold maxLen; decide) (Nat.le_refl _) ?_
           intro w8 own8 grow8))
      have hb8 : Below w7.heap.size w7 w8 := (Below.refl _ w7).grown grow8 (Nat.le_refl _) (fun j e => by cases e)
      have hb58 : Below w5.heap.size w5 w8 := hb57.trans (hb8.mono hb57.size)
      clear own8 grow8 hb8 hb57
      refine (xor_lim kZ 4294967295#32 4294967295 (by decide +kernel) nZ ⟨some ⟨w7.heap.size, 0, none⟩, 65, 65, w7.heap.size, 0, []⟩ w8 (.inr (by show (4294967296 : Int) - u 4294967295#32 < (((65 + 63) / 64 : Nat) : Int); decide +kernel))).mono ?_
      rintro e9 w9 ⟨rfl, hb9⟩
      have hb59 : Below w5.heap.size w5 w9 := hb58.trans (hb9.mono hb58.size)
      have rA9 := veil (HRA5.out.below hb59 HRA5.out.lt)
      have rB9 := veil (HRB5.out.below hb59 HRB5.out.lt)
      have hc9 := veil (hc5.out.below hb59)
      have hbel9 := veil (HBel5.out.trans (hb59.mono HBel5.out.size))
      have hs9 := hb59.size
      clear hb9 hb58 hb59 HRA5 HRB5 hc5 HBel5
      go_wp2_with fail
      rw [row_aV]
      have qA : (⟨some ⟨w1.heap.size, 0, none⟩, 8, 64, w1.heap.size, 0, (A.drop 0).take 8⟩ : SL).Ok (w9.alloc (.cells (bs aV) 5)) := row_sub (rA9.out.alloc _) 0 8 64 (by rw [HA64.out]; omega) (by omega)
      have qB : (⟨some ⟨w9.heap.size, 0, none⟩, 8, 8, w9.heap.size, 0, aV⟩ : SL).Ok (w9.alloc (.cells (bs aV) 5)) := rowN_ok (Row.new _ _ _) rfl
      refine (same_sl ⟨some ⟨w1.heap.size, 0, none⟩, 8, 64, w1.heap.size, 0, (A.drop 0).take 8⟩ ⟨some ⟨w9.heap.size, 0, none⟩, 8, 8, w9.heap.size, 0, aV⟩ _ qA qB (by rw [List.drop_zero]; exact HVA.out) (by show 8 ≤ _; omega)).mono ?_
      rintro ea wa ⟨rfl, hba⟩
      have ba : Below w9.heap.size w9 wa := ((Below.refl _ w9).alloc (Nat.le_refl _) _).trans (hba.mono (by simp))
      have rAa := veil (rA9.out.below ba rA9.out.lt)
      have rBa := veil (rB9.out.below ba rB9.out.lt)
      have hca := veil (hc9.out.below ba)
      have hbela := veil (hbel9.out.trans (ba.mono hbel9.out.size))
      have hsa := ba.size
      clear hba ba qA qB rA9 rB9 hc9 hbel9
      go_wp2_with fail
      rw [row_bV]
      have qA : (⟨some ⟨w3.heap.size, 60, none⟩, 4, 4, w3.heap.size, 60, (B.drop 60).take 4⟩ : SL).Ok (wa.alloc (.cells (bs bV) 5)) := row_sub (rBa.out.alloc _) 60 4 4 (by rw [HB64.out]; omega) (by omega)
      have qB : (⟨some ⟨wa.heap.size, 0, none⟩, 4, 4, wa.heap.size, 0, bV⟩ : SL).Ok (wa.alloc (.cells (bs bV) 5)) := rowN_ok (Row.new _ _ _) rfl
      refine (same_sl ⟨some ⟨w3.heap.size, 60, none⟩, 4, 4, w3.heap.size, 60, (B.drop 60).take 4⟩ ⟨some ⟨wa.heap.size, 0, none⟩, 4, 4, wa.heap.size, 0, bV⟩ _ qA qB (by show (B.drop 60).take 4 = bV; rw [HVB.out]; rfl) (by show 4 ≤ _; omega)).mono ?_
      rintro eb wb ⟨rfl, hbb⟩
      have bb : Below wa.heap.size wa wb := ((Below.refl _ wa).alloc (Nat.le_refl _) _).trans (hbb.mono (by simp))
      have rAb := veil (rAa.out.below bb rAa.out.lt)
      have hcb := veil (hca.out.below bb)
      have hbelb := veil (hbela.out.trans (bb.mono hbela.out.size))
      clear hbb bb qA qB rAa rBa hca hbela
      go_wp2_with fail
      have qB : (⟨some ⟨w1.heap.size, 0, none⟩, 4, 64, w1.heap.size, 0, (A.drop 0).take 4⟩ : SL).Ok wb := row_sub rAb.out 0 4 64 (by rw [HA64.out]; omega) (by omega)
      refine (same_sl ⟨some ⟨g5, 0, none⟩, 4, 4, g5, 0, A.take 4⟩ ⟨some ⟨w1.heap.size, 0, none⟩, 4, 64, w1.heap.size, 0, (A.drop 0).take 4⟩ wb hcb.out qB (by rw [List.drop_zero]) (by show 4 ≤ _; omega)).mono ?_
      rintro ec wc ⟨rfl, hbc⟩
      have hbelc := hbelb.out.trans (hbc.mono hbelb.out.size)
      clear hbc qB rAb hcb hbelb
      go_wp2_with fail
      go_ret
      exact ⟨rfl, hbelc⟩
end Go.Proofs.YtcdmnbmniiblgaaDoor
