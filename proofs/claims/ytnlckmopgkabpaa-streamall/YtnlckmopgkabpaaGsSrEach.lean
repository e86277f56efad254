/-
  Runs changed by each of some others; the first of them.
-/
import Derived.Test.YtnlckmopgkabpaaGsSrCut
namespace Go.Proofs.Ytnlckmopgkabpaa
open Go Go.RowKit

namespace Sr
/-- What a function does to runs, by one of them. -/
structure Chg (f : Nat) (op : List Rn → Rn → List Rn) : Prop where
  eg : ∀ args w, (callFunc f args).run Try.prog w = .ok (.enter f args) w
  call : ∀ (w : World) (v : Value) (l : List Rn) (r : Rn), RowO w 60 2 v l.length (vr l) → l.length ≤ 536870912 → Canon l → r.1 ≤ r.2 → Calls Try.prog f #[v, rcA r] w fun e w' => ∃ v', e = .returned v' ∧ Done w w' v v' (op l r)
  canon : ∀ l r, Canon l → r.1 ≤ r.2 → Canon (op l r)
  len : ∀ l r, (op l r).length ≤ l.length + 1
theorem cut_len {l : List Rn} {r : Rn} : (cut l r).length ≤ l.length + 1 := by
  unfold cut
  split
  · omega
  · have h1 := lo_le_hi aheadB l r
    have h2 := hi_le aheadB l r
    rw [repl_len h1 h2]
    unfold stay
    have h3 := add_len (min (gl l (lo aheadB l r)).1 r.1, r.1)
    have h4 := stay_len (l := add [] (min (gl l (lo aheadB l r)).1 r.1, r.1)) (r := (r.2, max (gl l (hi aheadB l r - 1)).2 r.2))
    omega
theorem chg_add : Chg 26 add := ⟨enters_of Try.func26 (by kernel_rfl) rfl, fun w v l r h hn hc _ => add_any w h hn hc, fun l r hc hr => (add_laws hc hr).1, fun l r => stay_len⟩
theorem chg_cut : Chg 20 cut := ⟨enters_of Try.func20 (by kernel_rfl) rfl, fun w v l r h hn hc hr => cut_any w h hn hc hr, fun l r hc hr => (cut_laws hc hr).1, fun l r => cut_len⟩
theorem each_snoc (op : List Rn → Rn → List Rn) (l by' : List Rn) (r : Rn) : each op l (by' ++ [r]) = op (each op l by') r := by unfold each; rw [List.foldl_append]; rfl
theorem each_canon {f : Nat} {op : List Rn → Rn → List Rn} (h : Chg f op) {by' : List Rn} (hb : ∀ r ∈ by', r.1 ≤ r.2) : ∀ {l : List Rn}, Canon l → Canon (each op l by') ∧ (each op l by').length ≤ l.length + by'.length := by
  induction by' with
  | nil => intro l hc; exact ⟨hc, by show l.length ≤ _; omega⟩
  | cons r by' ih =>
    intro l hc
    have h1 := h.canon l r hc (hb r (List.mem_cons_self ..))
    have h2 := h.len l r
    obtain ⟨h3, h4⟩ := ih (fun a ha => hb a (List.mem_cons_of_mem _ ha)) h1
    exact ⟨h3, by show (each op (op l r) by').length ≤ _; rw [List.length_cons]; omega⟩
theorem Done.trans {w w1 w2 : World} {v v1 v2 : Value} {l1 l2 : List Rn} (a : Done w w1 v v1 l1) (b : Done w1 w2 v1 v2 l2) : Done w w2 v v2 l2 :=
  ⟨b.row, onto a.keep b.keep (fun q hq e => (a.stay q e).elim id (fun h => absurd hq (by omega))), fun k hk => (b.stay k hk).elim (fun h => a.stay k h) (fun h => .inr (Nat.le_trans a.keep.size h))⟩
set_option maxHeartbeats 1000000 in
set_option maxRecDepth 20000 in
theorem each_any {f : Nat} {op : List Rn → Rn → List Rn} (hf : Chg f op) (w : World) {v u : Value} {l by' : List Rn} (h : RowO w 60 2 v l.length (vr l)) (hu : RowO w 60 2 u by'.length (vr by')) (hn : l.length + by'.length ≤ 536870912) (hc : Canon l)
    (hb : ∀ r ∈ by', r.1 ≤ r.2) (hne : ∀ k, u.ownBlock = some k → v.ownBlock ≠ some k) :
    Calls Try.prog 28 #[v, .func (.func f) #[] #[], u] w fun e w' => ∃ v', e = .returned v' ∧ Done w w' v v' (each op l by') := by
  obtain ⟨ua, uc, hue, _, _⟩ := hu.shape
  obtain ⟨n, hl⟩ : ∃ n, by'.length = n := ⟨_, rfl⟩
  rw [hl] at hue
  have HU := veil hu
  have H0 := veil (show Done w w v v (each op l (by'.take 0)) from by rw [List.take_zero]; exact Done.same h (Below.refl _ _))
  have HF := veil hf
  have eg := hf.eg
  have HB := veil hb
  have HNE := veil hne
  have HC := veil hc
  have HN := veil (show by'.length = n ∧ l.length + n ≤ 536870912 from ⟨hl, by omega⟩)
  clear hu h hf hb hne hn hc hl
  subst hue
  go_enter Try.func28, Try.ntmps28
  go_wp2
  go_loopw [0, 11] (fun v0 iv wr => ∃ (k : Nat) (vv : Value), k ≤ n ∧ iv = .int .i64 (k : Int) ∧ vv = v0 ∧ Done w wr v vv (each op l (by'.take k)))
    (fun _ iv _ => n - (intOf iv).toNat)
  case atStart => exact ⟨0, v, Nat.zero_le _, rfl, rfl, H0.out⟩
  case round =>
    clear H0
    obtain ⟨k, vv, hk, rfl, rfl, hD⟩ := hrel
    by_cases hlt : k < n
    · have hu1 := HU.out.same (w' := wr) (fun b hb => hD.keep.block b (HU.out.lt b hb) (HNE.out b hb))
      have hu2 := hu1
      rw [HN.out.1] at hu2
      obtain ⟨g, o, hva, d1, d2⟩ := gl_cells hu2 HN.out.1 k hlt
      subst hva
      obtain ⟨r, hr⟩ : ∃ r, gl by' k = r := ⟨_, rfl⟩
      rw [hr] at d1 d2
      have hmem : r ∈ by' := by rw [← hr]; exact List.mem_of_getElem? (gl_at (by have := HN.out; omega))
      have htk : by'.take (k + 1) = by'.take k ++ [r] := by rw [List.take_add_one, gl_at (by have := HN.out; omega), hr]; rfl
      have hcn := each_canon HF.out (by' := by'.take k) (fun a ha => HB.out a (List.mem_of_mem_take ha)) HC.out
      have hb1 : Below wr.heap.size wr (wr.alloc (.cells (rC2 r) 60)) := (Below.refl _ wr).alloc (Nat.le_refl _) _
      have CL := veil (HF.out.call (wr.alloc (.cells (rC2 r) 60)) vv _ r (hD.row.below hb1) (by have := hcn.2; rw [List.length_take] at this; have := HN.out; omega) hcn.1 (HB.out r hmem))
      have HD := veil hD
      have HB1 := veil hb1
      have HTK := veil htk
      have bI : (k : Int) < (n : Int) := by omega
      have HLT := veil hlt
      unfold rcA rC2 at CL
      unfold rC2 at HB1
      have w1 : IntKind.i64.wrap ((k : Int) + 1) = ((k + 1 : Nat) : Int) := by rw [IntKind.wrap_i64]; have := HN.out; omega
      clear hu1 hu2 hr hmem htk hcn hb1 hD hlt hk
      go_wp2
      refine CL.out.mono ?_
      rintro e1 w1 ⟨v1, rfl, hd1⟩
      have HD1 := veil (HD.out.trans (Done.behind HB1.out hd1))
      clear hd1 CL HD HB1
      go_wp2
      go_roundw
      case rel => exact ⟨k + 1, v1, HLT.out, by go_num, rfl, by rw [HTK.out, each_snoc]; exact HD1.out⟩
      case measure => have := HLT.out; simp [intOf]; omega
    · obtain rfl : k = n := by omega
      have HD := veil (show Done w wr v vv (each op l by') from by rw [List.take_of_length_le (by have := HN.out; omega)] at hD; exact hD)
      clear hD hlt hk
      go_wp2
      go_ret
      exact ⟨vv, rfl, HD.out⟩
/-- The first of runs. -/
theorem first_any (w : World) {v : Value} {l : List Rn} (h : RowO w 60 2 v l.length (vr l)) :
    Calls Try.prog 31 #[v] w fun e w' => e = .returned (rcA (fst l)) ∧ Below w.heap.size w w' := by
  obtain ⟨va, vc, rfl, _, _⟩ := h.shape
  have HB := veil ((Below.refl w.heap.size w).alloc (Nat.le_refl _) (.cells #[.int .u64 0, .int .u64 0] 60))
  cases l with
  | nil =>
    clear h
    show Calls Try.prog 31 #[.slice va 0 vc] w _
    have q1 : Row (w.alloc (.cells #[.int .u64 0, .int .u64 0] 60)) w.heap.size 60 #[.int .u64 0, .int .u64 0] := Row.new _ _ _
    have Q1 := veil q1
    clear q1
    go_enter Try.func31, Try.ntmps31
    go_wp2
    refine bodyPost_ret (results_cell_row rfl _ _ w.heap.size 60 _ (0, 0) _ rfl Q1.out Try.underlying60 rfl (by kernel_rfl)) rfl ⟨rfl, HB.out⟩
  | cons a l =>
    obtain ⟨g, o, hva, d1, d2⟩ := gl_cells h rfl 0 (by simp)
    have e0 : gl (a :: l) 0 = a := rfl
    rw [e0, Nat.zero_mul, Nat.add_zero] at d1 d2
    have hg := h.lt g (by rw [hva]; rfl)
    subst hva
    obtain ⟨n, hn⟩ : ∃ n, (a :: l).length = n := ⟨_, rfl⟩
    have n2 : 0 < n := by rw [← hn]; simp
    have n0 : ¬ (n : Int) = 0 := by omega
    have n1 : 0 < (n : Int) := by omega
    have HB := veil (show Below w.heap.size w (w.alloc (.cells #[.int .u64 (a.1 : Int), .int .u64 (a.2 : Int)] 60)) from (Below.refl _ w).alloc (Nat.le_refl _) _)
    rw [hn]
    show Calls _ _ _ _ (fun e w' => e = .returned (.agg #[.int .u64 (a.1 : Int), .int .u64 (a.2 : Int)]) ∧ _)
    clear h hn
    go_enter Try.func31, Try.ntmps31
    go_wp2
    refine bodyPost_ret (results_cell_row rfl _ _ w.heap.size 60 _ (0, 0) _ rfl (Row.new _ _ _) Try.underlying60 rfl (by kernel_rfl)) rfl ⟨rfl, HB.out⟩
end Sr
end Go.Proofs.Ytnlckmopgkabpaa
