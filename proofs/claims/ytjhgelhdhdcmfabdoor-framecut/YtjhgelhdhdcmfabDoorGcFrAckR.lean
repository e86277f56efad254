/-
  How an answer's ranges are read, on lists; an answer in memory while it is read.
-/
import Derived.Test.YtjhgelhdhdcmfabDoorGcFrRev
namespace Go.Proofs.YtjhgelhdhdcmfabDoor
open Go Go.RowKit

/-- The ranges behind one that begins at a number. -/
def ackTail : Nat → Nat → Fr.R (List (Nat × Nat))
  | 0, _ => Fr.okR []
  | m + 1, below => Fr.thenR Fr.numR fun gap => if below < gap + 2 then Fr.noR 5 else Fr.thenR (rngR (below - gap - 2)) fun r => Fr.thenR (ackTail m r.1) fun l => Fr.okR (r :: l)
theorem rng_err {to e : Nat} {b : List By} (h : Fr.numR b = .error e) : rngR to b = .error e := by
  unfold rngR uptoR
  exact Fr.thenR_err (Fr.thenR_err h)
theorem rng_ok {to k : Nat} {b b' : List By} (h : Fr.numR b = .ok (k, b')) : rngR to b = if to < k then .error 5 else .ok ((to - k, to), b') := by
  unfold rngR uptoR Fr.thenR
  rw [h]
  simp only
  by_cases hk : to < k
  · rw [if_pos hk, if_pos hk]; rfl
  · rw [if_neg hk, if_neg hk]; rfl
theorem ackLoop_eq : ∀ (m to : Nat) (b : List By), Fr.ackLoop m to b = Fr.thenR (rngR to) (fun r => Fr.thenR (ackTail m r.1) fun l => Fr.okR (r :: l)) b
  | 0, to, b => by
    cases h : Fr.numR b with
    | error e =>
      rw [Fr.thenR_err (rng_err h)]
      exact Fr.thenR_err h
    | ok x =>
      obtain ⟨k, b'⟩ := x
      have hr := rng_ok (to := to) h
      by_cases hk : to < k
      · rw [if_pos hk] at hr
        rw [Fr.thenR_err hr, Fr.ackLoop, thenR_ok h, if_pos hk]
        rfl
      · rw [if_neg hk] at hr
        rw [thenR_ok hr, Fr.ackLoop, thenR_ok h, if_neg hk]
        rfl
  | m + 1, to, b => by
    cases h : Fr.numR b with
    | error e =>
      rw [Fr.thenR_err (rng_err h)]
      exact Fr.thenR_err h
    | ok x =>
      obtain ⟨k, b'⟩ := x
      have hr := rng_ok (to := to) h
      by_cases hk : to < k
      · rw [if_pos hk] at hr
        rw [Fr.thenR_err hr, Fr.ackLoop, thenR_ok h, if_pos hk]
        rfl
      · rw [if_neg hk] at hr
        rw [thenR_ok hr, Fr.ackLoop, thenR_ok h, if_neg hk]
        cases h2 : Fr.numR b' with
        | error e =>
          rw [Fr.thenR_err h2, Fr.thenR_err (show ackTail (m + 1) (to - k) b' = .error e from Fr.thenR_err h2)]
        | ok y =>
          obtain ⟨gap, b2⟩ := y
          rw [thenR_ok h2]
          have ht : ackTail (m + 1) (to - k) b' = (if to - k < gap + 2 then Fr.noR 5 else Fr.thenR (rngR (to - k - gap - 2)) fun r => Fr.thenR (ackTail m r.1) fun l => Fr.okR (r :: l)) b2 := thenR_ok h2
          by_cases hg : to - k < gap + 2
          · rw [if_pos hg] at ht ⊢
            rw [Fr.thenR_err (show ackTail (m + 1) (to - k) b' = .error 5 from ht)]
            rfl
          · rw [if_neg hg] at ht ⊢
            rw [← ackLoop_eq m (to - k - gap - 2) b2] at ht
            unfold Fr.thenR
            rw [ht]
section
variable {f : List (Nat × Nat) → Fr.R Fr.Frame}
theorem loop_err {m to e : Nat} {b : List By} (h : rngR to b = .error e) : Fr.thenR (Fr.ackLoop m to) f b = .error e :=
  Fr.thenR_err ((ackLoop_eq m to b).trans (Fr.thenR_err h))
theorem loop_ok {m to : Nat} {b b' : List By} {r : Nat × Nat} (h : rngR to b = .ok (r, b')) : Fr.thenR (Fr.ackLoop m to) f b = Fr.thenR (ackTail m r.1) (fun l => f (r :: l)) b' := by
  have e1 : Fr.ackLoop m to b = Fr.thenR (ackTail m r.1) (fun l => Fr.okR (r :: l)) b' := (ackLoop_eq m to b).trans (thenR_ok h)
  unfold Fr.thenR at e1 ⊢
  rw [e1]
  cases ackTail m r.1 b' with
  | error e => rfl
  | ok x => rfl
theorem tail_err {m below e : Nat} {b : List By} (h : Fr.numR b = .error e) : Fr.thenR (ackTail (m + 1) below) f b = .error e :=
  Fr.thenR_err (show ackTail (m + 1) below b = .error e from Fr.thenR_err h)
theorem tail_no {m below gap : Nat} {b b' : List By} (h : Fr.numR b = .ok (gap, b')) (hg : below < gap + 2) : Fr.thenR (ackTail (m + 1) below) f b = .error 5 := by
  refine Fr.thenR_err ?_
  have ht : ackTail (m + 1) below b = (if below < gap + 2 then Fr.noR 5 else Fr.thenR (rngR (below - gap - 2)) fun r => Fr.thenR (ackTail m r.1) fun l => Fr.okR (r :: l)) b' := thenR_ok h
  rw [if_pos hg] at ht
  exact ht
theorem tail_go {m below gap : Nat} {b b' : List By} (h : Fr.numR b = .ok (gap, b')) (hg : ¬ below < gap + 2) : Fr.thenR (ackTail (m + 1) below) f b = Fr.thenR (Fr.ackLoop m (below - gap - 2)) f b' := by
  have ht : ackTail (m + 1) below b = (if below < gap + 2 then Fr.noR 5 else Fr.thenR (rngR (below - gap - 2)) fun r => Fr.thenR (ackTail m r.1) fun l => Fr.okR (r :: l)) b' := thenR_ok h
  rw [if_neg hg, ← ackLoop_eq m (below - gap - 2) b'] at ht
  unfold Fr.thenR
  rw [ht]
end

def akC (lim : Nat) (rv : Value) : Array Value := #[.int .u8 3, .int .u64 0, .int .u64 0, .int .u64 (lim : Int), .int .u64 0, .bool false, .slice none 0 0, rv]
/-- An answer while it is read: the reader, the answer's own variable, and the one that is handed back. -/
structure Ack (w : World) (g q lim tb : Nat) (s s' : SL) (rv : Value) (Y : World) : Prop where
  rd : Rd Y g s' tb
  sg : s'.g = s.g
  sl : s'.len ≤ s.len
  rh : Row Y w.heap.size 31 zF
  rq : Row Y q 31 (akC lim rv)
  gro : w.grownBy Y (some g)
  ord : g < w.heap.size ∧ w.heap.size < q ∧ 1 < w.heap.size ∧ (0 < s.len → s.g < w.heap.size)
theorem Ack.low {w Y : World} {g q lim tb : Nat} {s s' : SL} {rv : Value} (h : Ack w g q lim tb s s' rv Y) : 0 < s'.len → s'.g < w.heap.size := fun p => by rw [h.sg]; exact h.ord.2.2.2 (Nat.lt_of_lt_of_le p h.sl)
theorem Ack.keep {w Y Y' : World} {g q lim tb : Nat} {s s' : SL} {rv : Value} (h : Ack w g q lim tb s s' rv Y) (hb : Below (q + 1) Y Y') : Ack w g q lim tb s s' rv Y' := by
  obtain ⟨o1, o2, o3, o4⟩ := h.ord
  refine ⟨h.rd.same (hb.block g (by omega)) (fun p => hb.block _ (by have := h.low p; omega)) (hb.block _ (by omega)) hb.size, h.sg, h.sl, h.rh.below hb (by omega), h.rq.below hb (by omega), ?_, h.ord⟩
  exact ⟨hb.os.trans h.gro.os, hb.tape.trans h.gro.tape, hb.output.trans h.gro.output, Nat.le_trans h.gro.size hb.size, fun k hk hn => (hb.block k (by omega)).trans (h.gro.block k hk hn)⟩
theorem Ack.call {w Y Y' : World} {g q lim tb : Nat} {s s' s2 : SL} {rv : Value} (h : Ack w g q lim tb s s' rv Y) (hr : Rd Y' g s2 tb) (hsg : s2.g = s'.g) (hsl : s2.len ≤ s'.len) (hg : Y.grownBy Y' (some g)) : Ack w g q lim tb s s2 rv Y' := by
  obtain ⟨o1, o2, o3, o4⟩ := h.ord
  exact ⟨hr, hsg.trans h.sg, Nat.le_trans hsl h.sl, h.rh.grown hg (by omega), h.rq.grown hg (by omega), grown_trans h.gro hg, h.ord⟩
theorem Ack.store {w Y : World} {g q lim tb : Nat} {s s' : SL} {rv : Value} (h : Ack w g q lim tb s s' rv Y) (v : Value) : Ack w g q lim tb s s' v (Y.setCell ⟨q, 7, none⟩ v) := by
  obtain ⟨o1, o2, o3, o4⟩ := h.ord
  exact ⟨h.rd.setc (by omega) (fun p => by have := h.low p; omega) (by omega) _, h.sg, h.sl, h.rh.other (a := ⟨q, 7, none⟩) (show w.heap.size ≠ q by omega) _, h.rq.set 7 _, grown_setc h.gro (by omega) _, h.ord⟩
theorem rC2_lit (W : World) (r : Nat × Nat) : ∀ j u, (vr [r])[j]? = some u → (W.alloc (.cells (rC2 r) 39)).cell? ((⟨W.heap.size, 0, none⟩ : Addr).add j) = some u := by
  intro j u hj
  have rr : Row (W.alloc (.cells (rC2 r) 39)) W.heap.size 39 (rC2 r) := Row.new _ _ _
  rw [add_at, Nat.zero_add, rr.cell j, ← hj]
  show (vr [r]).toArray[j]? = _
  rw [List.getElem?_toArray]
end Go.Proofs.YtjhgelhdhdcmfabDoor
