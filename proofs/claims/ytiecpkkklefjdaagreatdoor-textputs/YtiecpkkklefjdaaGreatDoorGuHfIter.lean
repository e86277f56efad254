/-
  What inCode and asTheyAre tell: words of bits, one behind the other.
-/
import Derived.Test.YtiecpkkklefjdaaGreatDoorGuHfWordsW
import Derived.Test.YtiecpkkklefjdaaGreatDoorGuHfStr
import Derived.Test.YtiecpkkklefjdaaGreatDoorGuChaSl
namespace Go.Proofs.YtiecpkkklefjdaaGreatDoor
open Go Go.RowKit Go.Shelf

def encW (p : Nat × Nat) : Array Value := #[.agg #[.int .i64 (p.1 : Int), .int .u32 (p.2 : Int)]]
def StepW (row : List (Nat × Nat)) (j : Nat) (p : Nat × Nat) (j' : Nat) : Prop := row[j]? = some p ∧ j' = j + 1
def EndW (row : List (Nat × Nat)) (j : Nat) : Prop := j = row.length
/-- The words of a text; bytes as words of eight bits. -/
def rowT (s : List By) : List (Nat × Nat) := s.map fun c => (Hf.sz c.toNat, Hf.val c.toNat)
def rowB (b : List By) : List (Nat × Nat) := b.map fun x => (8, x.toNat)
theorem rowT_get (s : List By) {k : Nat} (h : k < s.length) : (rowT s)[k]? = some (Hf.sz (gb s k).toNat, Hf.val (gb s k).toNat) := by
  unfold rowT gb
  rw [List.getElem?_map, List.getElem?_eq_getElem h]
  rfl
theorem rowB_get (b : List By) {k : Nat} (h : k < b.length) : (rowB b)[k]? = some (8, (gb b k).toNat) := by
  unfold rowB gb
  rw [List.getElem?_map, List.getElem?_eq_getElem h]
  rfl

set_option maxRecDepth 20000 in
set_option maxHeartbeats 2000000 in
theorem inCode1_tells (B : Nat) (s : ByteArray) (hl : s.size ≤ 4194304) (st : Nat → Prop) (w : World) (hB : Row w B 9 #[.string s]) (hst : ¬ st B) :
    TellsM Tryz.prog 97 #[.pointer (some ⟨B, 0, none⟩)] encW st (StepW (rowT (bOf s))) (EndW (rowT (bOf s))) 0 w := by
  intro n l J Js W hbW hJ hJs hY h0
  have hs1 := size_words
  have hz1 := zero_words
  have h6 : (wa Hf.wordsL).size = 514 := by rw [wa_size, Hf.wordsL_length]
  have h7 := wa_one Hf.wordsL
  have h8 := zW_size
  have hBW := hB.below hbW hB.lt
  have hBl := hB.lt
  have HY := veil hY
  have HJ := veil hJ
  have HL := veil (bOf_length s)
  clear hY hJ hJs hB
  refine callsIn_wide.2 ((callsIn_wide (n := 9)).1 ?_)
  refine callsIn_of_wp Tryz.func97 rfl trivial ?_ rfl
  simp only [Tryz.ntmps97, List.size_toArray, List.length_cons, List.length_nil, Nat.reduceAdd, Nat.reduceSub, Array.replicate_succ, Array.replicate_zero, List.push_toArray, List.append_toArray, List.nil_append, List.cons_append]
  gi_wp2_with fail
  refine ⟨trivial, (callsIn_wide.2 (words_any W)).mono ?_⟩
  rintro e1 w1 ⟨rfl, hb1⟩
  have rC : Row (w1.alloc (.cells (wa Hf.wordsL) 152)) w1.heap.size 152 (wa Hf.wordsL) := Row.new _ _ _
  have b2 : Below W.heap.size W (w1.alloc (.cells (wa Hf.wordsL) 152)) := hb1.alloc hb1.size _
  have rB : Row (w1.alloc (.cells (wa Hf.wordsL) 152)) B 9 #[.string s] := hBW.below b2 hBW.lt
  have cB : (w1.alloc (.cells (wa Hf.wordsL) 152)).cell? ⟨B, 0, none⟩ = some (.string s) := rB.cell 0
  gi_wp2_with (first
    | (with_reducible (show wpListIn _ _ _ _ _ (⟨_, Op.alloc 152, _, _, _, _⟩ :: _) _ _)
       refine alloc_rowIn rfl 152 rfl (wa zW) hz1 ?_)
    | (with_reducible (show wpListIn _ _ _ _ _ (⟨_, Op.store 152 _ _, _, _, _, _⟩ :: _) _ _)
       refine store_newIn (w := w1) rfl 152 _ _ rfl w1.heap.size (wa Hf.wordsL) rfl rfl 152 (wa zW) rfl 514 hs1 h8 h6 h7 ?_))
  have hM0 : newM (fun _ => False) W (w1.alloc (.cells (wa Hf.wordsL) 152)) w1.heap.size := .inr ⟨hb1.size, rC.lt⟩
  have J0 := HJ.out _ _ _ _ h0 (KeepM.of_below b2)
  generalize newM (fun _ => False) W (w1.alloc (.cells (wa Hf.wordsL) 152)) = M0 at *
  generalize (w1.alloc (.cells (wa Hf.wordsL) 152)) = w2 at *
  generalize w1.heap.size = C at *
  clear h0 hb1 b2 hBW hbW h6 h7 h8 hs1 hz1
  gi_loopw [8] (fun av wr => ∃ (j : Nat) (M : Nat → Prop), j ≤ s.size ∧ av = .int .i64 (j : Int) ∧ J j M wr ∧ M C ∧ Row wr C 152 (wa Hf.wordsL) ∧ Row wr B 9 #[.string s])
    (fun av _ => s.size + 1 - (intOf av).toNat)
  case atStart => exact ⟨0, M0, Nat.zero_le _, rfl, J0, hM0, rC, rB⟩
  case round =>
    clear J0 hM0 rC rB cB
    obtain ⟨j, M, hj, rfl, hjj, hmc, rC, rB⟩ := hrel
    have cB : wr.cell? ⟨B, 0, none⟩ = some (.string s) := rB.cell 0
    have HJJ := veil hjj
    have HMC := veil hmc
    clear hjj hmc
    by_cases hlt : j < s.size
    · have hix := fun W => run_strIx (P := Tryz.prog) Tryz.underlying9 s j hlt W
      have hx := (gb (bOf s) j).isLt
      have e8 : v8 (gb (bOf s) j) = ((gb (bOf s) j).toNat : Int) := rfl
      have hrow := rowT_get (bOf s) (k := j) (by rw [HL.out]; exact hlt)
      obtain ⟨fn, tmps, assign, body, hy, hRR⟩ := HY.out j (Hf.sz (gb (bOf s) j).toNat, Hf.val (gb (bOf s) j).toNat) (j + 1) M wr ⟨hrow, rfl⟩ HJJ.out 8
      have HRR := veil hRR
      unfold encW at hy
      simp only at hy
      rw [e8] at hix
      clear hRR hrow e8
      generalize (gb (bOf s) j).toNat = x at *
      have hwg := Hf.wordsL_get (k := x) (by omega)
      have hgp : gp Hf.wordsL x = (Hf.sz x, Hf.val x) := by unfold gp; rw [hwg]; rfl
      have c0 := rC.cellP0 (j := x) (by rw [Hf.wordsL_length]; omega)
      have c1 := rC.cellP1 (j := x) (by rw [Hf.wordsL_length]; omega)
      rw [hgp] at c0 c1
      simp only at c0 c1
      clear hwg hgp
      gi_wp2_with fail
      refine HRR.out.mono ?_
      rintro e3 w3 ⟨⟨rfl, hJ3⟩ | ⟨rfl, hJ3⟩, hk3⟩
      · have HJ3 := veil hJ3
        have rC3 := (hk3.block _ rC.lt (.inr HMC.out)).trans rC
        have rB3 := (hk3.block _ rB.lt (.inl ⟨hBl, hst⟩)).trans rB
        clear hJ3 hk3
        gi_wp2
        go_roundw
        case rel => exact ⟨j + 1, M, by omega, by go_num, HJ3.out, HMC.out, rC3, rB3⟩
        case measure => simp [intOf]; omega
      · have HJ3 := veil hJ3
        clear hJ3 hk3
        gi_wp2
        refine bodyPost_ret (results_none rfl _ _ _) rfl ?_
        exact ⟨⟨_, rfl⟩, .inr ⟨M, HJ3.out⟩⟩
    · obtain rfl : j = s.size := by omega
      have hE : EndW (rowT (bOf s)) s.size := by unfold EndW rowT; rw [List.length_map, HL.out]
      have HE := veil hE
      clear hlt hE
      gi_wp2
      refine bodyPost_end (results_none rfl _ _ _) rfl ?_
      exact ⟨⟨_, rfl⟩, .inl ⟨_, M, HE.out, HJJ.out⟩⟩

end Go.Proofs.YtiecpkkklefjdaaGreatDoor
