/-
  Out of HkInfo, HkLabel.
-/
import Derived.Test.YtbheoldakmcppaaGreatDoorGs19
import Derived.Lib.ConvBytes

/-! What hkdf.infoOf answers. -/
namespace Go.Proofs.YtbheoldakmcppaaGreatDoor
open Go Go.RowKit

/-- The bytes of a text. -/
def bOf (s : ByteArray) : List By := s.data.toList.map fun c => BitVec.ofNat 8 c.toNat
theorem bOf_length (s : ByteArray) : (bOf s).length = s.size := by
  unfold bOf
  rw [List.length_map, Array.length_toList]
  rfl
theorem bOf_get (s : ByteArray) (j : Nat) (h : j < s.size) : ((s.data.toList.getD j 0).toNat : Int) = v8 (gb (bOf s) j) := by
  have h' : j < s.data.toList.length := by rw [Array.length_toList]; exact h
  unfold v8 gb bOf
  rw [List.getElem?_map, List.getElem?_eq_getElem h', List.getD_eq_getElem?_getD, List.getElem?_eq_getElem h']
  simp only [Option.getD_some, Option.map_some, BitVec.toNat_ofNat]
  have := (s.data.toList[j]'h').toNat_lt
  omega

/-- What stands ahead of every name. -/
def tls : ByteArray := { data := #[116, 108, 115, 49, 51, 32] }
theorem bOf_tls (s : ByteArray) : bOf (tls ++ s) = [116, 108, 115, 49, 51, 32] ++ bOf s := by
  unfold bOf
  rw [ByteArray.data_append, Array.toList_append, List.map_append]
  rfl
theorem head_row (N n : Nat) (hN : N ≤ 8160) (hn : n ≤ 249) : (#[.int .u8 ((N : Int) / 256), .int .u8 ((N : Int) % 256), .int .u8 (6 + (n : Int))] : Array Value) = bs [BitVec.ofNat 8 (N / 256), BitVec.ofNat 8 N, BitVec.ofNat 8 (n + 6)] := by
  have h1 : v8 (BitVec.ofNat 8 (N / 256)) = (N : Int) / 256 := by unfold v8; rw [BitVec.toNat_ofNat]; omega
  have h2 : v8 (BitVec.ofNat 8 N) = (N : Int) % 256 := by unfold v8; rw [BitVec.toNat_ofNat]; omega
  have h3 : v8 (BitVec.ofNat 8 (n + 6)) = 6 + (n : Int) := by unfold v8; rw [BitVec.toNat_ofNat]; omega
  unfold bs
  rw [List.map_cons, List.map_cons, List.map_cons, h1, h2, h3]
  rfl
theorem one_row (n : Nat) (hn : n ≤ 255) : (#[.int .u8 (n : Int)] : Array Value) = bs [BitVec.ofNat 8 n] := by
  have h1 : v8 (BitVec.ofNat 8 n) = (n : Int) := by unfold v8; rw [BitVec.toNat_ofNat]; omega
  unfold bs
  rw [List.map_cons, h1]
  rfl
theorem joinB_four (a b c d : SL) : joinB [a, b, c, d] = a.b ++ (b.b ++ (c.b ++ d.b)) := by simp [joinB]

set_option maxRecDepth 20000 in
set_option maxHeartbeats 1000000 in
theorem info_any (s : ByteArray) (c : SL) (N : Nat) (w : World) (hs : s.size ≤ 249) (hc : c.Ok w) (hcl : c.len ≤ 255) (hN : N ≤ 8160) :
    Calls Tryz.prog 166 #[.string s, .slice c.a c.len c.cap, .int .i64 (N : Int)] w fun e w' => ∃ q : SL, e = .returned (.slice q.a q.len q.cap) ∧ q.Ok w' ∧ q.b = infoL (bOf s) c.b N ∧ Below w.heap.size w w' := by
  have HC := veil hc
  have hcb := hc.hb
  clear hc
  have hsz : (tls ++ s).size = s.size + 6 := by
    rw [ByteArray.size_append]
    show 6 + s.size = _
    omega
  have hrw := head_row N s.size hN hs
  have hr1 := veil (one_row c.len hcl)
  obtain ⟨W1, hW1⟩ : ∃ W1, W1 = w.alloc (.cells (bs [BitVec.ofNat 8 (N / 256), BitVec.ofNat 8 N, BitVec.ofNat 8 (s.size + 6)]) 5) := ⟨_, rfl⟩
  have hcv := Lib.run_convert_string_bytes (P := Tryz.prog) W1 9 22 5 (tls ++ s) Tryz.underlying9 Tryz.underlying22 Tryz.underlying5
  have rH : Row W1 w.heap.size 5 (bs [BitVec.ofNat 8 (N / 256), BitVec.ofNat 8 N, BitVec.ofNat 8 (s.size + 6)]) := by rw [hW1]; exact Row.new _ _ _
  have b1 : Below w.heap.size w W1 := by rw [hW1]; exact (Below.refl _ w).alloc (Nat.le_refl _) _
  have hs1 : W1.heap.size = w.heap.size + 1 := by rw [hW1]; simp
  obtain ⟨W2, hW2⟩ : ∃ W2, W2 = Lib.bytesWorld W1 5 (tls ++ s) := ⟨_, rfl⟩
  have c2 : ∀ j : Nat, j < (tls ++ s).size → W2.cell? ⟨W1.heap.size, 0 + j, none⟩ = some (.int .u8 (v8 (gb (bOf (tls ++ s)) j))) := fun j hj => by
    rw [hW2, Nat.zero_add, Lib.bytesWorld_cell W1 5 (tls ++ s) j hj, bOf_get (tls ++ s) j hj]
  have b2 : Below W1.heap.size W1 W2 := by
    rw [hW2]
    exact ⟨rfl, rfl, rfl, by rw [Lib.bytesWorld_size]; omega, fun k hk => Lib.bytesWorld_at_old W1 5 (tls ++ s) k hk⟩
  have hs2 : W2.heap.size = W1.heap.size + 1 := by rw [hW2, Lib.bytesWorld_size]
  have hcap : (tls ++ s).size ≤ grownCap W1 (tls ++ s).size 0 5 := grownCap_ge ..
  rw [← hW2] at hcv
  clear hW2
  generalize grownCap W1 (tls ++ s).size 0 5 = C at *
  have qB : (⟨some ⟨W1.heap.size, 0, none⟩, (tls ++ s).size, C, W1.heap.size, 0, bOf (tls ++ s)⟩ : SL).Ok W2 := ⟨bOf_length _, hcap, (fun h => by cases h), fun _ => rfl, (fun _ => by show W1.heap.size < W2.heap.size; omega), c2⟩
  rw [hW1] at hcv
  have hcv' : (convert 9 22 (.string ({ data := #[116, 108, 115, 49, 51, 32] } ++ s))).run Tryz.prog (w.alloc (.cells (bs [BitVec.ofNat 8 (N / 256), BitVec.ofNat 8 N, BitVec.ofNat 8 (s.size + 6)]) 5)) = _ := hcv
  have hW1s : (w.alloc (.cells (bs [BitVec.ofNat 8 (N / 256), BitVec.ofNat 8 N, BitVec.ofNat 8 (s.size + 6)]) 5)).heap.size = w.heap.size + 1 := by simp
  rw [hW1s, hsz] at hcv'
  rw [hsz, hs1] at qB
  have HQB := veil qB
  have HRH := veil rH
  have HB1 := veil b1
  have HB2 := veil b2
  clear hcv qB rH b1 b2 c2 hcap hW1
  go_enter Tryz.func166, Tryz.ntmps166
  go_wp2_with fail
  rw [hr1.out]
  have rD : Row (W2.alloc (.cells (bs [BitVec.ofNat 8 c.len]) 5)) (w.heap.size + 1 + 1) 5 (bs [BitVec.ofNat 8 c.len]) := by
    have := Row.new W2 5 (bs [BitVec.ofNat 8 c.len])
    rw [hs2, hs1] at this
    exact this
  have b3 : Below W2.heap.size W2 (W2.alloc (.cells (bs [BitVec.ofNat 8 c.len]) 5)) := (Below.refl _ W2).alloc (Nat.le_refl _) _
  have hs3 : (W2.alloc (.cells (bs [BitVec.ofNat 8 c.len]) 5)).heap.size = w.heap.size + 1 + 1 + 1 := by simp; omega
  have qB3 := HQB.out.below b3
  have rH3 := (HRH.out.below HB2.out (by omega)).below b3 (by omega)
  have bw2 := HB1.out.trans (HB2.out.mono (by omega))
  have bw3 := bw2.trans (b3.mono (by omega))
  generalize W2.alloc (.cells (bs [BitVec.ofNat 8 c.len]) 5) = W3 at *
  obtain ⟨ls, hls⟩ : ∃ ls : List SL, ls = [rowN w.heap.size 3 [BitVec.ofNat 8 (N / 256), BitVec.ofNat 8 N, BitVec.ofNat 8 (s.size + 6)], ⟨some ⟨w.heap.size + 1, 0, none⟩, s.size + 6, C, w.heap.size + 1, 0, bOf (tls ++ s)⟩, rowN (w.heap.size + 1 + 1) 1 [BitVec.ofNat 8 c.len], c] := ⟨_, rfl⟩
  have hjl : joinB ls = infoL (bOf s) c.b N := by
    rw [hls, joinB_four]
    show [BitVec.ofNat 8 (N / 256), BitVec.ofNat 8 N, BitVec.ofNat 8 (s.size + 6)] ++ (bOf (tls ++ s) ++ ([BitVec.ofNat 8 c.len] ++ c.b)) = _
    rw [bOf_tls]
    unfold infoL
    rw [bOf_length, hcb]
    simp only [List.append_assoc]
  have hvl : vls ls = #[.slice (some ⟨w.heap.size, 0, none⟩) 3 3, .slice (some ⟨w.heap.size + 1, 0, none⟩) (s.size + 6) C, .slice (some ⟨w.heap.size + 1 + 1, 0, none⟩) 1 1, .slice c.a c.len c.cap] := by rw [hls]; rfl
  rw [← hvl]
  have b4 := bw3.alloc bw3.size (.cells (vls ls) 22)
  refine (concat_any (w.heap.size + 1 + 1 + 1) 0 4 4 ls (W3.alloc (.cells (vls ls) 22)) (by rw [hls]; rfl) (by decide) (fun q hq => by
    rw [hls] at hq
    simp only [List.mem_cons, List.not_mem_nil, or_false] at hq
    rcases hq with rfl | rfl | rfl | rfl
    · exact (rowN_ok rH3 rfl).alloc _
    · exact qB3.alloc _
    · exact (rowN_ok rD rfl).alloc _
    · exact HC.out.below b4) (by rw [hjl, infoL_length, bOf_length, hcb]; omega) (by simp; omega) (fun j q hq => new_lists W3 ls _ _ hs3.symm j q hq)).mono ?_
  rintro e5 w5 ⟨q, rfl, hq5, hqb, hb5⟩
  rw [hjl] at hqb
  go_wp2_with fail
  go_ret
  exact ⟨q, rfl, hq5, hqb, b4.trans (hb5.mono b4.size)⟩
end Go.Proofs.YtbheoldakmcppaaGreatDoor

/-! What hkdf.Label answers. -/
namespace Go.Proofs.YtbheoldakmcppaaGreatDoor
open Go Go.RowKit

set_option maxRecDepth 20000 in
set_option maxHeartbeats 1000000 in
theorem label_ok (k c : SL) (s : ByteArray) (N : Nat) (w : World) (hk : k.Ok w) (hc : c.Ok w) (h1 : s.size ≤ 249) (h2 : c.len ≤ 255) (h3 : N ≤ 8160) (h4 : k.len ≤ 1048576) :
    Calls Tryz.prog 129 #[.slice k.a k.len k.cap, .string s, .slice c.a c.len c.cap, .int .i64 (N : Int)] w fun e w' => ∃ g, e = .returned (.tuple #[.slice (some ⟨g, 0, none⟩) N N, .int .i64 0]) ∧ w'.ownsRow w.heap.size 5 1 (.slice (some ⟨g, 0, none⟩) N N) N (vb (expandL (keyL k.b) (infoL (bOf s) c.b N) N)) ∧ Below w.heap.size w w' := by
  have HC := veil hc
  have HK := veil hk
  have hcb := hc.hb
  clear hc hk
  go_enter Tryz.func129, Tryz.ntmps129
  have g1 : ¬ (249 : Int) < (s.size : Int) := by omega
  have g2 : ¬ (255 : Int) < (c.len : Int) := by omega
  go_wp2_with fail
  refine (told_any N _).mono ?_
  rintro e1 w1 ⟨rfl, hw⟩
  rw [hw, decide_eq_true (by omega)]
  clear hw w1
  go_wp2_with fail
  refine (info_any s c N w h1 HC.out h2 h3).mono ?_
  rintro e2 w2 ⟨q, rfl, hq, hqb, hb2⟩
  have hql : q.len ≤ 1048479 := by rw [← hq.hb, hqb, infoL_length, bOf_length, hcb]; omega
  have HQ := veil hq
  have HQB := veil hqb
  have HB2 := veil hb2
  clear hq hqb hb2
  go_wp2_with fail
  refine (expand_ok k q N w2 (HK.out.below HB2.out) HQ.out h3 h4 hql).mono ?_
  rintro e3 w3 ⟨g, rfl, hown, hb3⟩
  rw [HQB.out] at hown
  go_wp2_with fail
  go_ret2
  exact ⟨g, rfl, own_low hown HB2.out.size, HB2.out.trans (hb3.mono HB2.out.size)⟩
end Go.Proofs.YtbheoldakmcppaaGreatDoor
