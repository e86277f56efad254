/-
  What the document's Lengths and Firsts answer.
-/
import Derived.Test.YtiecpkkklefjdaaGtHfRefP
namespace Go.Proofs.Ytiecpkkklefjdaa
open Go Go.RowKit

/-- What Firsts has while it lays a list. -/
structure InF (Wn W : World) (O Bn n i : Nat) (cs1 : Array Value) (v : Value) : Prop where
  row : Row W O 71 (cs1.setIfInBounds (n * 2 + 1) v)
  own : W.ownsRow Bn 3 1 v (symP n i).length (iv (symP n i))
  keep : KeepB Bn (fun k => k = O) Wn W
theorem InF.next {Wn W W' : World} {O Bn n i : Nat} {cs1 : Array Value} {v v' : Value} {o : Obj} (h : InF Wn W O Bn n i cs1 v) (hO : O < Bn) (hBn : Bn ≤ W.heap.size) (hs : Hf.sz i = n) (hown : W'.ownsRow Bn 3 1 v' ((symP n i).length + 1) (iv (symP n i) ++ [.int .i64 (i : Int)])) (hg : (W.alloc o).grownBy W' v.ownBlock) :
    (W'.cell? ⟨O, n * 2 + 1, none⟩ = (cs1.setIfInBounds (n * 2 + 1) v)[n * 2 + 1]? ∧ W'.frozen? ⟨O, n * 2 + 1, none⟩ = false) ∧ InF Wn (W'.setCell ⟨O, n * 2 + 1, none⟩ v') O Bn n (i + 1) cs1 v' := by
  have h10 : ∀ k, k < W.heap.size → (∀ g, v.ownBlock = some g → k ≠ g) → W'.heap[k]? = W.heap[k]? := fun k hk hn => (hg.block k (by rw [World.size_alloc]; omega) (fun e => hn k e.symm rfl)).trans (Below.heap_alloc W o k hk)
  have hob : ∀ g, v.ownBlock = some g → Bn ≤ g := fun g hg => (h.own.lt g hg).1
  have r' : Row W' O _ _ := (h10 O h.row.lt (fun g hq => by have := hob g hq; omega)).trans h.row
  have hsz := hg.size
  rw [World.size_alloc] at hsz
  refine ⟨⟨r'.cell _, r'.frozen _⟩, ?_, ?_, ?_⟩
  · have := r'.set (n * 2 + 1) v'
    rwa [Array.setIfInBounds_setIfInBounds] at this
  · rw [symP_next, if_pos hs, List.length_append, iv_append]
    exact own_blk hown (fun g hq => Below.heap_setCell _ _ _ g (show g ≠ O by have := (hown.lt g hq).1; omega))
  · refine ⟨?_, ?_, ?_, ?_, fun k hk hn => ?_⟩
    · exact (hg.os.trans h.keep.os)
    · exact (hg.tape.trans h.keep.tape)
    · exact (hg.output.trans h.keep.output)
    · have := h.keep.size
      simp [World.setCell]
      omega
    · exact (Below.heap_setCell _ _ _ k hn).trans ((h10 k (by omega) (fun g hq => by have := hob g hq; omega)).trans (h.keep.block k hk hn))
/-- What Firsts has between two lists. -/
structure OutF (w W : World) (Lg O n : Nat) : Prop where
  ls : Row W Lg 3 (ia Hf.szL)
  fs : ∃ V cs, FsOk W O n V cs ∧ ∀ k, k < n → DoneL W O W.heap.size (V k) (Hf.symAt k)
  lo : Lg < O ∧ w.heap.size ≤ Lg
  below : Below w.heap.size w W
set_option maxRecDepth 20000 in
set_option maxHeartbeats 2000000 in
theorem firstsR_any (w : World) : Calls Try.prog 40 #[] w fun e w' => ∃ O V cs, e = .returned (.slice (some ⟨O, 0, none⟩) 31 31) ∧ FirstsOk w' O w'.heap.size V cs ∧ Below w.heap.size w w' := by
  obtain ⟨i0, hi, hz0, hz1, hz2⟩ := info_parts (P := Try.prog) (e := 3) (z := .int .i64 0) (size := 1) (bytes := 8) (by kernel_rfl)
  go_enter Try.func40, Try.ntmps40
  go_wp2_with fail
  refine (lengths_any w).mono ?_
  rintro e1 w1 ⟨rfl, hw1⟩
  have rL : Row w1 w.heap.size 3 (ia Hf.szL) := by rw [hw1]; exact Row.new _ _ _
  have b1 : Below w.heap.size w w1 := by rw [hw1]; exact (Below.refl _ w).alloc (Nat.le_refl _) _
  have hz1s : w1.heap.size = w.heap.size + 1 := by rw [hw1]; simp
  have HOZ := veil hz1s
  clear hw1 hz1s
  go_wp2_with (with_reducible (show wpList _ _ _ (⟨_, Op.makeSlice 67 _ _, _, _, _, _⟩ :: _) _ _)
               refine val_run rfl (.slice (some ⟨w1.heap.size, 0, none⟩) 31 31) (show _ = Result.ok (Next.value _) (w1.alloc (.cells zF 71)) by kernel_rfl) ?_)
  have hF0 : OutF w (w1.alloc (.cells zF 71)) w.heap.size w1.heap.size 1 := ⟨rL.alloc _, ⟨fun _ => .slice none 0 0, zF, ⟨Row.new _ _ _, zF_size, fun k hk => by
      rw [(zF_ok k hk).1]
      by_cases c : k < 1
      · rw [if_pos c, show k = 0 by omega]; rfl
      · rw [if_neg c]; rfl, fun k hk => (zF_ok k hk).2, fun _ _ _ => rfl⟩, fun k hk => by
        rw [show k = 0 by omega]
        exact ⟨none, 0, rfl, fun hp => absurd hp (by decide)⟩⟩, ⟨by have := HOZ.out; omega, Nat.le_refl _⟩, b1.alloc b1.size _⟩
  generalize (w1.alloc (.cells zF 71)) = w2 at *
  generalize w1.heap.size = O at *
  have HF0 := veil hF0
  clear hF0 rL b1
  go_loopw [3, 4] (fun x i wr => ∃ n : Nat, 1 ≤ n ∧ n ≤ 31 ∧ i = .int .i64 (n : Int) ∧ x = .int .u32 ((Hf.lim (n - 1) : Nat) : Int) ∧ OutF w wr w.heap.size O n)
    (fun _ i _ => 31 - (intOf i).toNat)
  case atStart => exact ⟨1, by omega, by omega, rfl, by rw [show (1 : Nat) - 1 = 0 from rfl, Hf.lim_zero]; rfl, HF0.out⟩
  case round =>
    clear HF0
    obtain ⟨n, hn1, hn31, rfl, rfl, hF⟩ := hrel
    by_cases hlt : n < 31
    · obtain ⟨w9, rfl⟩ : ∃ x, x = wr := ⟨_, rfl⟩
      obtain ⟨V, cs, hfs, hdone⟩ := hF.fs
      have hnx := Hf.first_next (n := n - 1) (by omega)
      rw [show n - 1 + 1 = n by omega] at hnx
      have hfle := Hf.first_le n
      have hfle2 : Hf.first n ≤ 1073741820 := hfle
      have hsq : 2 * Hf.lim (n - 1) = Hf.first n := hnx.symm
      have HLIM := veil (show Hf.lim n = Hf.first n + (symP n 257).length by rw [symP_last hlt, Hf.sym_len (by omega)]; rfl)
      have cF : w9.cell? ⟨O, n * 2, none⟩ = some (.int .u32 0) := by
        rw [hfs.row.cell, hfs.from_ n hlt, if_neg (by omega)]
        rfl
      have fF := hfs.row.frozen (n * 2)
      have HFS := veil hfs
      have HDN := veil hdone
      have HF := veil hF
      have hOl := hfs.row.lt
      have hmul : 2 * ((Hf.lim (n - 1) : Nat) : Int) = ((Hf.first n : Nat) : Int) := by omega
      generalize Hf.lim (n - 1) = LM at *
      generalize hfn : Hf.first n = FN at *
      clear hfs hdone hF hfle hnx
      have hdn : decide ((n : Int) ≤ 30) = true := by simp; omega
      go_wp2_with fail
      have rO1 : Row (w9.setCell ⟨O, n * 2, none⟩ (.int .u32 (FN : Int))) O 71 (cs.setIfInBounds (n * 2) (.int .u32 (FN : Int))) := HFS.out.row.set _ _
      have rL1 := HF.out.ls.other (a := ⟨O, n * 2, none⟩) (show w.heap.size ≠ O by have := HF.out.lo; omega) (.int .u32 (FN : Int))
      have hself : (cs.setIfInBounds (n * 2) (.int .u32 (FN : Int))).setIfInBounds (n * 2 + 1) (.slice none 0 0) = cs.setIfInBounds (n * 2) (.int .u32 (FN : Int)) := by
        apply Array.ext_getElem?
        intro q
        rw [Array.getElem?_setIfInBounds]
        by_cases e : n * 2 + 1 = q
        · subst e
          rw [if_pos rfl, if_pos (by rw [Array.size_setIfInBounds, HFS.out.size]; omega), Array.getElem?_setIfInBounds, if_neg (by omega), HFS.out.words n hlt, HFS.out.nil n hlt (Nat.le_refl _)]
        · rw [if_neg e]
      have hsz3 : (w9.setCell ⟨O, n * 2, none⟩ (.int .u32 (FN : Int))).heap.size = w9.heap.size := by simp [World.setCell]
      have hI0 : InF (w9.setCell ⟨O, n * 2, none⟩ (.int .u32 (FN : Int))) (w9.setCell ⟨O, n * 2, none⟩ (.int .u32 (FN : Int))) O w9.heap.size n 0 (cs.setIfInBounds (n * 2) (.int .u32 (FN : Int))) (.slice none 0 0) := ⟨by rw [hself]; exact rO1, ⟨rfl, .inl ⟨rfl, rfl⟩⟩, KeepB.refl _ _ _⟩
      have HI0 := veil hI0
      have HRL1 := veil rL1
      generalize hW3 : (w9.setCell ⟨O, n * 2, none⟩ (.int .u32 (FN : Int))) = w3 at *
      generalize hcs1 : cs.setIfInBounds (n * 2) (.int .u32 (FN : Int)) = cs1 at *
      have HCS1 := veil hcs1
      have HW3 := veil hW3
      have HSZ3 := veil hsz3
      clear rO1 rL1 hself hI0 hcs1 hW3 hsz3
      go_loopw [3, 5] (fun x i wr => ∃ (k : Nat) (v : Value), k ≤ 257 ∧ i = .int .i64 (k : Int) ∧ x = .int .u32 ((FN + (symP n k).length : Nat) : Int) ∧ InF w3 wr O w9.heap.size n k cs1 v)
        (fun _ i _ => 257 - (intOf i).toNat)
      case atStart => exact ⟨0, .slice none 0 0, by omega, rfl, rfl, HI0.out⟩
      case round =>
        clear HI0
        obtain ⟨k, v, hk, rfl, rfl, hI⟩ := hrel
        have hle := symP_le n k
        have hb1 : w9.heap.size ≤ wr.heap.size := by have h1 := hI.keep.size; have h2 := HSZ3.out; omega
        have hLO := HF.out.lo
        by_cases hlk : k < 257
        · have rLq : Row wr w.heap.size 3 (ia Hf.szL) := (hI.keep.block _ (by omega) (by omega)).trans HRL1.out
          have cL := rLq.cellI (j := k) (by rw [Hf.sz_len]; exact hlk)
          rw [Hf.gn_sz] at cL
          have hsk := Hf.sz_le hlk
          have HI := veil hI
          by_cases he : Hf.sz k = n
          · have hee : (((Hf.sz k : Nat) : Int) == (n : Int)) = true := by rw [he]; simp
            obtain ⟨va, vc, rfl⟩ := own_slice hI.own
            have hO2 : cs1.size = 62 := by rw [← HCS1.out, Array.size_setIfInBounds, HFS.out.size]
            have cW : wr.cell? ⟨O, n * 2 + 1, none⟩ = some (.slice va (symP n k).length vc) := by
              rw [hI.row.cell, Array.getElem?_setIfInBounds, if_pos rfl, if_pos (by omega)]
            obtain ⟨v', W', hrunA, hownA, hgrowA, _⟩ := run_append_own (P := Try.prog) (wr.alloc (.cells #[.int .i64 (k : Int)] 3)) w9.heap.size 42 42 3 i0 (.int .i64 0) 1 8 Try.underlying42 hi hz0 hz1 hz2 rfl (by decide) (.slice va (symP n k).length vc) (symP n k).length (iv (symP n k)) (hI.own.alloc _) ⟨wr.heap.size, 0, none⟩ 1 1 [.int .i64 (k : Int)] rfl (cell_one_new _ _ _) (by simp [Value.oneCell']) (by unfold maxLen; omega) (by omega) (by rw [World.size_alloc]; omega)
            obtain ⟨⟨cW', fW'⟩, hI'⟩ := hI.next (by omega) hb1 he hownA hgrowA
            rw [Array.getElem?_setIfInBounds, if_pos rfl, if_pos (by omega)] at cW'
            have HI' := veil hI'
            have HNX := veil (show (symP n (k + 1)).length = (symP n k).length + 1 by rw [symP_next, if_pos he, List.length_append]; rfl)
            obtain ⟨a', c', rfl⟩ := own_slice hownA
            clear hI hI' hownA hgrowA rLq he
            generalize Hf.sz k = sk at *
            generalize (symP n k).length = ln at *
            go_wp2_with (with_reducible (show wpList _ _ _ (⟨_, Op.call { callee := .builtin .append, args := _, argTypes := _ }, _, _, _, _⟩ :: _) _ _)
                         refine appR_run rfl _ _ 42 rfl (.slice va ln vc) (.slice (some ⟨wr.heap.size, 0, none⟩) 1 1) (.slice a' (ln + 1) c') rfl rfl hrunA ?_)
            go_roundw
            case rel => exact ⟨k + 1, .slice a' (ln + 1) c', by omega, by go_num, by rw [HNX.out]; go_num, HI'.out⟩
            case measure => simp [intOf]; omega
          · have hee : (((Hf.sz k : Nat) : Int) == (n : Int)) = false := by simp; omega
            have HNX := veil (show symP n (k + 1) = symP n k by rw [symP_next, if_neg he, List.append_nil])
            have HI' := veil (show InF w3 wr O w9.heap.size n (k + 1) cs1 v from ⟨HI.out.row, by rw [HNX.out]; exact HI.out.own, HI.out.keep⟩)
            clear hI rLq he
            generalize Hf.sz k = sk at *
            go_wp2_with fail
            go_roundw
            case rel => exact ⟨k + 1, v, by omega, by go_num, by rw [HNX.out], HI'.out⟩
            case measure => simp [intOf]; omega
        · obtain rfl : k = 257 := by omega
          have HI := veil hI
          have hlim : Hf.lim n = FN + (symP n 257).length := HLIM.out
          have HOUT := veil (show OutF w wr w.heap.size O (n + 1) from by
            have hf := HFS.out
            have hkeep : ∀ q, q < w9.heap.size → q ≠ O → wr.heap[q]? = w9.heap[q]? := fun q hq hne => (HI.out.keep.block q hq hne).trans (by rw [← HW3.out]; exact Below.heap_setCell _ _ _ q hne)
            refine ⟨(HI.out.keep.block _ (by omega) (by omega)).trans HRL1.out, ⟨fun q => if q = n then v else V q, cs1.setIfInBounds (n * 2 + 1) v, ⟨HI.out.row, ?_, ?_, ?_, ?_⟩, ?_⟩, HF.out.lo, ?_⟩
            · rw [Array.size_setIfInBounds, ← HCS1.out, Array.size_setIfInBounds, hf.size]
            · intro q hq
              rw [Array.getElem?_setIfInBounds, if_neg (by omega), ← HCS1.out, Array.getElem?_setIfInBounds]
              by_cases e : n = q
              · subst e
                rw [if_pos rfl, if_pos (by rw [hf.size]; omega), if_pos (by omega), hfn]
              · rw [if_neg (by omega), hf.from_ q hq]
                by_cases c : q < n
                · rw [if_pos c, if_pos (by omega)]
                · rw [if_neg c, if_neg (by omega)]
            · intro q hq
              rw [Array.getElem?_setIfInBounds]
              by_cases e : q = n
              · subst e
                rw [if_pos rfl, if_pos rfl, if_pos (by rw [← HCS1.out, Array.size_setIfInBounds, hf.size]; omega)]
              · rw [if_neg (by omega), if_neg e, ← HCS1.out, Array.getElem?_setIfInBounds, if_neg (by omega)]
                exact hf.words q hq
            · intro q hq hnq
              rw [if_neg (by omega)]
              exact hf.nil q hq (by omega)
            · intro q hq
              show DoneL wr O wr.heap.size (if q = n then v else V q) (Hf.symAt q)
              by_cases e : q = n
              · subst e
                rw [if_pos rfl, ← symP_last hlt]
                exact DoneL.of_own HI.out.own hOl (Nat.le_refl _)
              · rw [if_neg e]
                exact (HDN.out q (by omega)).keep hb1 hkeep
            · have hkb := HI.out.keep
              have h3 := HF.out.below
              refine h3.trans ⟨hkb.os.trans (by rw [← HW3.out]; rfl), hkb.tape.trans (by rw [← HW3.out]; rfl), hkb.output.trans (by rw [← HW3.out]; rfl), hb1, fun q hq => hkeep q (by have := h3.size; omega) (by omega)⟩)
          clear hI hlk hk
          go_wp2_with fail
          go_roundw
          case rel => exact ⟨n + 1, by omega, by omega, by go_num, by rw [show n + 1 - 1 = n by omega, hlim], HOUT.out⟩
          case measure => simp [intOf]; omega
    · obtain rfl : n = 31 := by omega
      obtain ⟨V, cs, hfs, hdone⟩ := hF.fs
      have HFS := veil hfs
      have HDN := veil hdone
      have HF := veil hF
      clear hfs hdone hF hlt
      go_wp2_with fail
      go_ret
      exact ⟨O, V, cs, rfl, ⟨HFS.out, HFS.out.row.lt, Nat.le_refl _, HDN.out⟩, HF.out.below⟩
end Go.Proofs.Ytiecpkkklefjdaa
