/-
  frame's reader: rows, begin, and what reads the rest of a frame (written by mkrows.py).
-/
import Derived.Test.YtjhgelhdhdcmfabDoorGcFrMapP
import Derived.Test.YtjhgelhdhdcmfabDoorGcFrGetK
namespace Go.Proofs.YtjhgelhdhdcmfabDoor
open Go Go.RowKit

def rows15 : List (Nat × Nat) := [(0, 29), (1, 30), (2, 31), (4, 32), (5, 33), (6, 34), (16, 35), (17, 36), (18, 37), (19, 37), (20, 38), (21, 39), (28, 40), (29, 40), (30, 41)]
def strL (k : Nat) : List (Nat × Nat) := (List.range k).map fun i => (8 + i, 42)
theorem strL_succ (k : Nat) : strL (k + 1) = strL k ++ [(8 + k, 42)] := by unfold strL; rw [List.range_succ, List.map_append]; rfl
def rowsL (k : Nat) : List (Nat × Nat) := rows15 ++ strL k
theorem rowsL_succ (k : Nat) : rowsL (k + 1) = rowsL k ++ [(8 + k, 42)] := by unfold rowsL; rw [strL_succ, List.append_assoc]
theorem rows_no (k : Nat) (hk : k < 8) : ∀ p ∈ rowsL k, p.1 ≠ 8 + k := by
  have : ∀ k : Fin 8, ∀ p ∈ rowsL k.val, p.1 ≠ 8 + k.val := by decide +kernel
  exact this ⟨k, hk⟩
theorem or_8 : ∀ k : Fin 8, bits .or .u64 8 (k.val : Int) = ((8 + k.val : Nat) : Int) := by decide +kernel

set_option maxRecDepth 20000 in
set_option maxHeartbeats 4000000 in
theorem rd_rows (g : Nat) (w : World) :
    Calls Tryd.prog 24 #[.pointer (some ⟨g, 0, none⟩)] w fun e w' => e = .returned (.map (some w.heap.size)) ∧ MapIs w' w.heap.size g (rowsL 8) ∧ Below w.heap.size w w' := by
  have hmf : ∀ (fn : Fn) (first cap : Array Value) (w : World), (Instr.makeFunc fn first cap).run Tryd.prog w = .ok (.func fn first cap) w := fun _ _ _ _ => rfl
  have hmm : ∀ w : World, (Instr.makeMap 57 none).run Tryd.prog w = .ok (.map (some w.heap.size)) (w.alloc (.map #[] 0)) := fun w => by simp only [Instr.makeMap, Sem.run_bind, run_newObj_alloc, Result.andThen_ok, Sem.run_pure]
  have M0 := veil (show MapIs (w.alloc (.map #[] 0)) w.heap.size g [] from _root_.Go.heap_alloc_new w _)
  have B0 := veil (show Below w.heap.size w (w.alloc (.map #[] 0)) from (Below.refl _ w).alloc (Nat.le_refl _) _)
  go_enter Tryd.func24, Tryd.ntmps24
  go_wp2_with (first
    | (with_reducible (show wpList _ _ _ (⟨none, Op.insert _ _ (Operand.const (Value.int .u64 0)) _, _, _, _, _⟩ :: _) _ _)
       refine insert_wp rfl 57 27 59 _ _ _ (.inl rfl) Tryd.underlying57 Tryd.underlying27 w.heap.size g 0 29 [] rfl rfl rfl M0.out (by decide) ?_
       intro W1 hm hg
       have M1 := veil (show MapIs W1 w.heap.size g [(0, 29)] from hm)
       have B1 := veil (B0.out.trans (show Below w.heap.size (w.alloc (.map #[] 0)) W1 from ⟨hg.os, hg.tape, hg.output, hg.size, fun k hk => hg.block k (Nat.lt_of_lt_of_le hk B0.out.size) (fun e => by have := Option.some.inj e; omega)⟩))
       clear hm hg M0 B0)
    | (with_reducible (show wpList _ _ _ (⟨none, Op.insert _ _ (Operand.const (Value.int .u64 1)) _, _, _, _, _⟩ :: _) _ _)
       refine insert_wp rfl 57 27 59 _ _ _ (.inl rfl) Tryd.underlying57 Tryd.underlying27 w.heap.size g 1 30 [(0, 29)] rfl rfl rfl M1.out (by decide) ?_
       intro W2 hm hg
       have M2 := veil (show MapIs W2 w.heap.size g [(0, 29), (1, 30)] from hm)
       have B2 := veil (B1.out.trans (show Below w.heap.size W1 W2 from ⟨hg.os, hg.tape, hg.output, hg.size, fun k hk => hg.block k (Nat.lt_of_lt_of_le hk B1.out.size) (fun e => by have := Option.some.inj e; omega)⟩))
       clear hm hg M1 B1)
    | (with_reducible (show wpList _ _ _ (⟨none, Op.insert _ _ (Operand.const (Value.int .u64 2)) _, _, _, _, _⟩ :: _) _ _)
       refine insert_wp rfl 57 27 59 _ _ _ (.inl rfl) Tryd.underlying57 Tryd.underlying27 w.heap.size g 2 31 [(0, 29), (1, 30)] rfl rfl rfl M2.out (by decide) ?_
       intro W3 hm hg
       have M3 := veil (show MapIs W3 w.heap.size g [(0, 29), (1, 30), (2, 31)] from hm)
       have B3 := veil (B2.out.trans (show Below w.heap.size W2 W3 from ⟨hg.os, hg.tape, hg.output, hg.size, fun k hk => hg.block k (Nat.lt_of_lt_of_le hk B2.out.size) (fun e => by have := Option.some.inj e; omega)⟩))
       clear hm hg M2 B2)
    | (with_reducible (show wpList _ _ _ (⟨none, Op.insert _ _ (Operand.const (Value.int .u64 4)) _, _, _, _, _⟩ :: _) _ _)
       refine insert_wp rfl 57 27 59 _ _ _ (.inl rfl) Tryd.underlying57 Tryd.underlying27 w.heap.size g 4 32 [(0, 29), (1, 30), (2, 31)] rfl rfl rfl M3.out (by decide) ?_
       intro W4 hm hg
       have M4 := veil (show MapIs W4 w.heap.size g [(0, 29), (1, 30), (2, 31), (4, 32)] from hm)
       have B4 := veil (B3.out.trans (show Below w.heap.size W3 W4 from ⟨hg.os, hg.tape, hg.output, hg.size, fun k hk => hg.block k (Nat.lt_of_lt_of_le hk B3.out.size) (fun e => by have := Option.some.inj e; omega)⟩))
       clear hm hg M3 B3)
    | (with_reducible (show wpList _ _ _ (⟨none, Op.insert _ _ (Operand.const (Value.int .u64 5)) _, _, _, _, _⟩ :: _) _ _)
       refine insert_wp rfl 57 27 59 _ _ _ (.inl rfl) Tryd.underlying57 Tryd.underlying27 w.heap.size g 5 33 [(0, 29), (1, 30), (2, 31), (4, 32)] rfl rfl rfl M4.out (by decide) ?_
       intro W5 hm hg
       have M5 := veil (show MapIs W5 w.heap.size g [(0, 29), (1, 30), (2, 31), (4, 32), (5, 33)] from hm)
       have B5 := veil (B4.out.trans (show Below w.heap.size W4 W5 from ⟨hg.os, hg.tape, hg.output, hg.size, fun k hk => hg.block k (Nat.lt_of_lt_of_le hk B4.out.size) (fun e => by have := Option.some.inj e; omega)⟩))
       clear hm hg M4 B4)
    | (with_reducible (show wpList _ _ _ (⟨none, Op.insert _ _ (Operand.const (Value.int .u64 6)) _, _, _, _, _⟩ :: _) _ _)
       refine insert_wp rfl 57 27 59 _ _ _ (.inl rfl) Tryd.underlying57 Tryd.underlying27 w.heap.size g 6 34 [(0, 29), (1, 30), (2, 31), (4, 32), (5, 33)] rfl rfl rfl M5.out (by decide) ?_
       intro W6 hm hg
       have M6 := veil (show MapIs W6 w.heap.size g [(0, 29), (1, 30), (2, 31), (4, 32), (5, 33), (6, 34)] from hm)
       have B6 := veil (B5.out.trans (show Below w.heap.size W5 W6 from ⟨hg.os, hg.tape, hg.output, hg.size, fun k hk => hg.block k (Nat.lt_of_lt_of_le hk B5.out.size) (fun e => by have := Option.some.inj e; omega)⟩))
       clear hm hg M5 B5)
    | (with_reducible (show wpList _ _ _ (⟨none, Op.insert _ _ (Operand.const (Value.int .u64 16)) _, _, _, _, _⟩ :: _) _ _)
       refine insert_wp rfl 57 27 59 _ _ _ (.inl rfl) Tryd.underlying57 Tryd.underlying27 w.heap.size g 16 35 [(0, 29), (1, 30), (2, 31), (4, 32), (5, 33), (6, 34)] rfl rfl rfl M6.out (by decide) ?_
       intro W7 hm hg
       have M7 := veil (show MapIs W7 w.heap.size g [(0, 29), (1, 30), (2, 31), (4, 32), (5, 33), (6, 34), (16, 35)] from hm)
       have B7 := veil (B6.out.trans (show Below w.heap.size W6 W7 from ⟨hg.os, hg.tape, hg.output, hg.size, fun k hk => hg.block k (Nat.lt_of_lt_of_le hk B6.out.size) (fun e => by have := Option.some.inj e; omega)⟩))
       clear hm hg M6 B6)
    | (with_reducible (show wpList _ _ _ (⟨none, Op.insert _ _ (Operand.const (Value.int .u64 17)) _, _, _, _, _⟩ :: _) _ _)
       refine insert_wp rfl 57 27 59 _ _ _ (.inl rfl) Tryd.underlying57 Tryd.underlying27 w.heap.size g 17 36 [(0, 29), (1, 30), (2, 31), (4, 32), (5, 33), (6, 34), (16, 35)] rfl rfl rfl M7.out (by decide) ?_
       intro W8 hm hg
       have M8 := veil (show MapIs W8 w.heap.size g [(0, 29), (1, 30), (2, 31), (4, 32), (5, 33), (6, 34), (16, 35), (17, 36)] from hm)
       have B8 := veil (B7.out.trans (show Below w.heap.size W7 W8 from ⟨hg.os, hg.tape, hg.output, hg.size, fun k hk => hg.block k (Nat.lt_of_lt_of_le hk B7.out.size) (fun e => by have := Option.some.inj e; omega)⟩))
       clear hm hg M7 B7)
    | (with_reducible (show wpList _ _ _ (⟨none, Op.insert _ _ (Operand.const (Value.int .u64 18)) _, _, _, _, _⟩ :: _) _ _)
       refine insert_wp rfl 57 27 59 _ _ _ (.inl rfl) Tryd.underlying57 Tryd.underlying27 w.heap.size g 18 37 [(0, 29), (1, 30), (2, 31), (4, 32), (5, 33), (6, 34), (16, 35), (17, 36)] rfl rfl rfl M8.out (by decide) ?_
       intro W9 hm hg
       have M9 := veil (show MapIs W9 w.heap.size g [(0, 29), (1, 30), (2, 31), (4, 32), (5, 33), (6, 34), (16, 35), (17, 36), (18, 37)] from hm)
       have B9 := veil (B8.out.trans (show Below w.heap.size W8 W9 from ⟨hg.os, hg.tape, hg.output, hg.size, fun k hk => hg.block k (Nat.lt_of_lt_of_le hk B8.out.size) (fun e => by have := Option.some.inj e; omega)⟩))
       clear hm hg M8 B8)
    | (with_reducible (show wpList _ _ _ (⟨none, Op.insert _ _ (Operand.const (Value.int .u64 19)) _, _, _, _, _⟩ :: _) _ _)
       refine insert_wp rfl 57 27 59 _ _ _ (.inl rfl) Tryd.underlying57 Tryd.underlying27 w.heap.size g 19 37 [(0, 29), (1, 30), (2, 31), (4, 32), (5, 33), (6, 34), (16, 35), (17, 36), (18, 37)] rfl rfl rfl M9.out (by decide) ?_
       intro W10 hm hg
       have M10 := veil (show MapIs W10 w.heap.size g [(0, 29), (1, 30), (2, 31), (4, 32), (5, 33), (6, 34), (16, 35), (17, 36), (18, 37), (19, 37)] from hm)
       have B10 := veil (B9.out.trans (show Below w.heap.size W9 W10 from ⟨hg.os, hg.tape, hg.output, hg.size, fun k hk => hg.block k (Nat.lt_of_lt_of_le hk B9.out.size) (fun e => by have := Option.some.inj e; omega)⟩))
       clear hm hg M9 B9)
    | (with_reducible (show wpList _ _ _ (⟨none, Op.insert _ _ (Operand.const (Value.int .u64 20)) _, _, _, _, _⟩ :: _) _ _)
       refine insert_wp rfl 57 27 59 _ _ _ (.inl rfl) Tryd.underlying57 Tryd.underlying27 w.heap.size g 20 38 [(0, 29), (1, 30), (2, 31), (4, 32), (5, 33), (6, 34), (16, 35), (17, 36), (18, 37), (19, 37)] rfl rfl rfl M10.out (by decide) ?_
       intro W11 hm hg
       have M11 := veil (show MapIs W11 w.heap.size g [(0, 29), (1, 30), (2, 31), (4, 32), (5, 33), (6, 34), (16, 35), (17, 36), (18, 37), (19, 37), (20, 38)] from hm)
       have B11 := veil (B10.out.trans (show Below w.heap.size W10 W11 from ⟨hg.os, hg.tape, hg.output, hg.size, fun k hk => hg.block k (Nat.lt_of_lt_of_le hk B10.out.size) (fun e => by have := Option.some.inj e; omega)⟩))
       clear hm hg M10 B10)
    | (with_reducible (show wpList _ _ _ (⟨none, Op.insert _ _ (Operand.const (Value.int .u64 21)) _, _, _, _, _⟩ :: _) _ _)
       refine insert_wp rfl 57 27 59 _ _ _ (.inl rfl) Tryd.underlying57 Tryd.underlying27 w.heap.size g 21 39 [(0, 29), (1, 30), (2, 31), (4, 32), (5, 33), (6, 34), (16, 35), (17, 36), (18, 37), (19, 37), (20, 38)] rfl rfl rfl M11.out (by decide) ?_
       intro W12 hm hg
       have M12 := veil (show MapIs W12 w.heap.size g [(0, 29), (1, 30), (2, 31), (4, 32), (5, 33), (6, 34), (16, 35), (17, 36), (18, 37), (19, 37), (20, 38), (21, 39)] from hm)
       have B12 := veil (B11.out.trans (show Below w.heap.size W11 W12 from ⟨hg.os, hg.tape, hg.output, hg.size, fun k hk => hg.block k (Nat.lt_of_lt_of_le hk B11.out.size) (fun e => by have := Option.some.inj e; omega)⟩))
       clear hm hg M11 B11)
    | (with_reducible (show wpList _ _ _ (⟨none, Op.insert _ _ (Operand.const (Value.int .u64 28)) _, _, _, _, _⟩ :: _) _ _)
       refine insert_wp rfl 57 27 59 _ _ _ (.inl rfl) Tryd.underlying57 Tryd.underlying27 w.heap.size g 28 40 [(0, 29), (1, 30), (2, 31), (4, 32), (5, 33), (6, 34), (16, 35), (17, 36), (18, 37), (19, 37), (20, 38), (21, 39)] rfl rfl rfl M12.out (by decide) ?_
       intro W13 hm hg
       have M13 := veil (show MapIs W13 w.heap.size g [(0, 29), (1, 30), (2, 31), (4, 32), (5, 33), (6, 34), (16, 35), (17, 36), (18, 37), (19, 37), (20, 38), (21, 39), (28, 40)] from hm)
       have B13 := veil (B12.out.trans (show Below w.heap.size W12 W13 from ⟨hg.os, hg.tape, hg.output, hg.size, fun k hk => hg.block k (Nat.lt_of_lt_of_le hk B12.out.size) (fun e => by have := Option.some.inj e; omega)⟩))
       clear hm hg M12 B12)
    | (with_reducible (show wpList _ _ _ (⟨none, Op.insert _ _ (Operand.const (Value.int .u64 29)) _, _, _, _, _⟩ :: _) _ _)
       refine insert_wp rfl 57 27 59 _ _ _ (.inl rfl) Tryd.underlying57 Tryd.underlying27 w.heap.size g 29 40 [(0, 29), (1, 30), (2, 31), (4, 32), (5, 33), (6, 34), (16, 35), (17, 36), (18, 37), (19, 37), (20, 38), (21, 39), (28, 40)] rfl rfl rfl M13.out (by decide) ?_
       intro W14 hm hg
       have M14 := veil (show MapIs W14 w.heap.size g [(0, 29), (1, 30), (2, 31), (4, 32), (5, 33), (6, 34), (16, 35), (17, 36), (18, 37), (19, 37), (20, 38), (21, 39), (28, 40), (29, 40)] from hm)
       have B14 := veil (B13.out.trans (show Below w.heap.size W13 W14 from ⟨hg.os, hg.tape, hg.output, hg.size, fun k hk => hg.block k (Nat.lt_of_lt_of_le hk B13.out.size) (fun e => by have := Option.some.inj e; omega)⟩))
       clear hm hg M13 B13)
    | (with_reducible (show wpList _ _ _ (⟨none, Op.insert _ _ (Operand.const (Value.int .u64 30)) _, _, _, _, _⟩ :: _) _ _)
       refine insert_wp rfl 57 27 59 _ _ _ (.inl rfl) Tryd.underlying57 Tryd.underlying27 w.heap.size g 30 41 [(0, 29), (1, 30), (2, 31), (4, 32), (5, 33), (6, 34), (16, 35), (17, 36), (18, 37), (19, 37), (20, 38), (21, 39), (28, 40), (29, 40)] rfl rfl rfl M14.out (by decide) ?_
       intro W15 hm hg
       have M15 := veil (show MapIs W15 w.heap.size g [(0, 29), (1, 30), (2, 31), (4, 32), (5, 33), (6, 34), (16, 35), (17, 36), (18, 37), (19, 37), (20, 38), (21, 39), (28, 40), (29, 40), (30, 41)] from hm)
       have B15 := veil (B14.out.trans (show Below w.heap.size W14 W15 from ⟨hg.os, hg.tape, hg.output, hg.size, fun k hk => hg.block k (Nat.lt_of_lt_of_le hk B14.out.size) (fun e => by have := Option.some.inj e; omega)⟩))
       clear hm hg M14 B14))
  have MF := veil (show MapIs W15 w.heap.size g (rowsL 0) by have := M15.out; unfold rowsL strL; simpa [rows15] using this)
  clear M15
  go_loopw [4] (fun i wr => ∃ k : Nat, k ≤ 8 ∧ i = .int .u64 (k : Int) ∧ MapIs wr w.heap.size g (rowsL k) ∧ Below w.heap.size w wr)
    (fun i _ => 8 - (intOf i).toNat)
  case atStart => exact ⟨0, Nat.zero_le _, rfl, MF.out, B15.out⟩
  case round =>
    clear MF B15
    obtain ⟨k, hk, rfl, hM, hB⟩ := hrel
    have M := veil hM
    have B := veil hB
    clear hM hB
    by_cases hlt : k < 8
    · have hd : decide ((k : Int) ≤ 7) = true := by simp; omega
      have hor := or_8 ⟨k, hlt⟩
      simp only at hor
      have hno := rows_no k hlt
      have HNO := veil hno
      clear hno
      go_wp2_with (with_reducible (show wpList _ _ _ (⟨none, Op.mapUpdate _ _ _ _, _, _, _, _⟩ :: _) _ _)
                   refine insert_wp rfl 57 27 59 _ _ _ (.inr rfl) Tryd.underlying57 Tryd.underlying27 w.heap.size g (8 + k) 42 (rowsL k) rfl rfl rfl M.out HNO.out ?_
                   intro W1 hm hg
                   rw [← rowsL_succ] at hm
                   have M1 := veil hm
                   have B1 := veil (B.out.trans (show Below w.heap.size wr W1 from ⟨hg.os, hg.tape, hg.output, hg.size, fun k hk => hg.block k (Nat.lt_of_lt_of_le hk B.out.size) (fun e => by have := Option.some.inj e; omega)⟩))
                   clear hm hg)
      go_roundw
      case rel => exact ⟨k + 1, by omega, by go_num, M1.out, B1.out⟩
      case measure => simp [intOf]; omega
    · obtain rfl : k = 8 := by omega
      have hd : decide (((8 : Nat) : Int) ≤ 7) = false := by decide
      go_wp2_with fail
      go_ret
      exact ⟨rfl, M.out, B.out⟩

/-- What reads the rest of a frame of a type. -/
def fnOf (n : Nat) : Nat := match findL n (rowsL 8) 0 with
  | none => 0
  | some p => p.2
theorem find_type (n : Nat) : (findL n (rowsL 8) 0).isSome = Fr.isType n := by
  by_cases h : n < 31
  · have : ∀ k : Fin 31, (findL k.val (rowsL 8) 0).isSome = Fr.isType k.val := by decide +kernel
    exact this ⟨n, h⟩
  · have h1 : Fr.isType n = false := by
      cases hq : Fr.isType n with
      | false => rfl
      | true => exact absurd (Fr.isType_lt hq) h
    rw [h1, findL_none n (rowsL 8) 0 (by
      have : ∀ p ∈ rowsL 8, p.1 < 31 := by decide +kernel
      intro p hp e
      have := this p hp
      omega)]
    rfl
def beginR : Fr.R Nat := fun b => match Fr.getN b with
  | none => .error 4
  | some (n, k) => if Fr.isType n = true ∧ k ≤ 1 then .ok (n, b.drop k) else .error 5
theorem frameP_begin (b : List By) : Fr.frameP b = Fr.thenR beginR Fr.bodyP b := by
  unfold Fr.frameP Fr.thenR beginR
  cases Fr.getN b with
  | none => rfl
  | some p =>
    obtain ⟨n, k⟩ := p
    simp only
    split <;> rfl
end Go.Proofs.YtjhgelhdhdcmfabDoor
