/-
  Out of FrErrs, FrSize, FrBeyond, FrMemS, FrSame.
-/
import Derived.Test.YtnngeojhlfkdiaaDoorGf4
import Derived.Test.YtnngeojhlfkdiaaDoorGf5
import Derived.BigQuiet
import Derived.Test.YtnngeojhlfkdiaaDoorGf2

/-! Which errors reading frames may have. -/
namespace Go.Proofs.YtnngeojhlfkdiaaDoor
namespace Fr
def Ers {α : Type} (m : R α) : Prop := ∀ b e, m b = .error e → e = 3 ∨ e = 4 ∨ e = 5
theorem ers_num : Ers numR := by
  intro b e h
  unfold numR at h
  split at h
  · injection h with h; exact .inr (.inl h.symm)
  · cases h
theorem ers_ok {α : Type} (a : α) : Ers (okR a) := by
  intro b e h
  cases h
theorem ers_no {α : Type} (e : Nat) (he : e = 3 ∨ e = 4 ∨ e = 5) : Ers (noR e : R α) := by
  intro b e' h
  injection h with h
  rw [← h]
  exact he
theorem ers_then {α β : Type} {m : R α} {f : α → R β} (hm : Ers m) (hf : ∀ a, Ers (f a)) : Ers (thenR m f) := by
  intro b e h
  unfold thenR at h
  split at h
  · exact hf _ _ _ h
  · rename_i e' he
    injection h with h
    rw [← h]
    exact hm _ _ he
theorem ers_ite {α : Type} {c : Prop} [Decidable c] {m n : R α} (hm : Ers m) (hn : Ers n) : Ers (if c then m else n) := by
  split
  · exact hm
  · exact hn
theorem ers_data (n : Nat) : Ers (dataR n) := by
  intro b e h
  unfold dataR at h
  split at h
  · injection h with h; exact .inr (.inl h.symm)
  · cases h
theorem ers_5 {α : Type} : Ers (noR 5 : R α) := ers_no 5 (.inr (.inr rfl))
theorem ers_placed (o : Nat) : Ers (placedR o) := ers_then ers_num fun _ => ers_ite ers_5 (ers_data _)
theorem ers_rest (o : Nat) : Ers (restR o) := by
  intro b e h
  unfold restR at h
  split at h
  · injection h with h; exact .inr (.inr h.symm)
  · cases h
theorem ers_ackLoop : ∀ m to, Ers (ackLoop m to)
  | 0, _ => ers_then ers_num fun _ => ers_ite ers_5 (ers_ok _)
  | m + 1, _ => ers_then ers_num fun _ => ers_ite ers_5 (ers_then ers_num fun _ => ers_ite ers_5 (ers_then (ers_ackLoop m _) fun _ => ers_ok _))
theorem ers_ack : Ers ackR := ers_then ers_num fun _ => ers_then ers_num fun _ => ers_then ers_num fun _ => ers_ite (ers_no 3 (.inl rfl)) (ers_then (ers_ackLoop _ _) fun _ => ers_ok _)
theorem ers_stream (k : Nat) : Ers (streamR k) := ers_then ers_num fun _ => ers_then (ers_ite ers_num (ers_ok _)) fun _ => ers_then (ers_ite (ers_placed _) (ers_rest _)) fun _ => ers_ok _
theorem ers_body (k : Nat) : Ers (bodyR k) := by
  unfold bodyR
  split
  all_goals first
    | exact ers_ok _
    | exact ers_5
    | exact ers_ack
    | exact ers_stream _
    | exact ers_then ers_num fun _ => ers_ok _
    | exact ers_then ers_num fun _ => ers_then ers_num fun _ => ers_ok _
    | exact ers_then ers_num fun _ => ers_then ers_num fun _ => ers_then ers_num fun _ => ers_ok _
    | exact ers_then ers_num fun _ => ers_then (ers_placed _) fun _ => ers_ok _
    | exact ers_then ers_num fun _ => ers_ite ers_5 (ers_ok _)
    | exact ers_then ers_num fun _ => ers_then ers_num fun _ => ers_ite (ers_then (ers_placed _) fun _ => ers_ok _) ers_5
theorem ers_frame : Ers frameR := by
  intro b e h
  unfold frameR at h
  split at h
  · injection h with h; exact .inr (.inl h.symm)
  · split at h
    · exact ers_body _ _ _ h
    · injection h with h; exact .inr (.inr h.symm)
theorem ers_loop : ∀ (fuel : Nat) (b : List By) (acc : List Frame) (e : Nat), b.length ≤ fuel → getLoop fuel b acc = .error e → e = 3 ∨ e = 4 ∨ e = 5
  | 0, [], acc, e, _, h => by cases h
  | 0, c :: b, acc, e, hl, _ => by simp at hl
  | fuel + 1, [], acc, e, _, h => by cases h
  | fuel + 1, c :: b, acc, e, hl, h => by
    have hl' : b.length ≤ fuel := by simpa using hl
    unfold getLoop at h
    split at h
    · split at h
      · injection h with h; exact .inl h.symm
      · exact ers_loop fuel b _ e hl' h
    · split at h
      · injection h with h; exact .inl h.symm
      · split at h
        · rename_i e' he
          injection h with h
          rw [← h]
          exact ers_frame _ _ he
        · rename_i f b' hf
          have hlt := frameR_less hf
          rw [List.length_cons] at hlt
          exact ers_loop fuel b' _ e (by omega) h
theorem get_errs {b : List By} {e : Nat} (h : getAll b = .error e) : e = 3 ∨ e = 4 ∨ e = 5 := by
  unfold getAll at h
  split at h
  · injection h with h; exact .inl h.symm
  · split at h
    · rename_i e' he
      injection h with h
      rw [← h]
      exact ers_loop _ _ _ _ (Nat.le_refl _) he
    · cases h
end Fr
end Go.Proofs.YtnngeojhlfkdiaaDoor

/-! How great frames are, as the statements ask it: FrameSize, FramesSize, Beyond. -/
namespace Go.Proofs.YtnngeojhlfkdiaaDoor
open Go Go.RowKit

theorem bytes_size (a : Option Addr) (n c : Nat) (w : World) : Calls Tryd.prog 23 #[.slice a n c] w fun e w' => e = .returned (.int .i64 (n : Int)) ∧ w' = w := by
  go_enter Tryd.func23, Tryd.ntmps23
  go_wp2_with fail
  go_ret
  exact ⟨rfl, rfl⟩
theorem ranges_size (a : Option Addr) (n c : Nat) (w : World) : Calls Tryd.prog 24 #[.slice a n c] w fun e w' => e = .returned (.int .i64 (n : Int)) ∧ w' = w := by
  go_enter Tryd.func24, Tryd.ntmps24
  go_wp2_with fail
  go_ret
  exact ⟨rfl, rfl⟩
set_option maxRecDepth 20000 in
set_option maxHeartbeats 1000000 in
theorem frame_size (f : FrM) (w : World) (hd : f.data.len ≤ 140737488355328) (hr : f.ranges.len ≤ 140737488355328) :
    Calls Tryd.prog 17 #[.agg f.cells] w fun e w' => (∃ N : Nat, e = .returned (.int .i64 (N : Int)) ∧ N ≤ 281474976710657 ∧ (N ≤ 1048576 → f.data.len ≤ 1048576 ∧ f.ranges.len ≤ 1048576)) ∧ Below w.heap.size w w' := by
  obtain ⟨k, st, of, li, co, fi, da, ra⟩ := f
  simp only at hd hr ⊢
  have r0 : Row (w.alloc (.cells (FrM.mk k st of li co fi da ra).cells 39)) w.heap.size 39 (FrM.mk k st of li co fi da ra).cells := Row.new _ _ _
  have b0 : Below w.heap.size w (w.alloc (.cells (FrM.mk k st of li co fi da ra).cells 39)) := (Below.refl _ w).alloc (Nat.le_refl _) _
  obtain ⟨c0, c1, c2, c3, c4, c5, c6, c7⟩ := fr_cells r0
  simp only at c0 c1 c2 c3 c4 c5 c6 c7
  have HB0 := veil b0
  clear r0 b0
  have w1 : IntKind.i64.wrap (1 + (da.len : Int)) = 1 + (da.len : Int) := by rw [IntKind.wrap_i64]; omega
  by_cases h1 : 1 + da.len ≤ 1048576
  · have f1 : decide (1 + (da.len : Int) ≤ 1048576) = true := by simp; omega
    have w2 : IntKind.i64.wrap (1 + (da.len : Int) + (ra.len : Int)) = 1 + (da.len : Int) + (ra.len : Int) := by rw [IntKind.wrap_i64]; omega
    have HR := veil (show ∃ N : Nat, Ending.returned (.int .i64 (1 + (da.len : Int) + (ra.len : Int))) = .returned (.int .i64 (N : Int)) ∧ N ≤ 281474976710657 ∧ (N ≤ 1048576 → da.len ≤ 1048576 ∧ ra.len ≤ 1048576) from ⟨1 + da.len + ra.len, by congr 2, by omega, by omega⟩)
    clear h1
    go_enter Tryd.func17, Tryd.ntmps17
    go_wp2_with fail
    refine (bytes_size _ _ _ _).mono ?_
    rintro e1 w1 ⟨rfl, rfl⟩
    go_wp2_with fail
    refine (ranges_size _ _ _ _).mono ?_
    rintro e2 w2 ⟨rfl, rfl⟩
    go_wp2_with fail
    go_ret
    exact ⟨HR.out, HB0.out⟩
  · have f1 : decide (1 + (da.len : Int) ≤ 1048576) = false := by simp; omega
    have HR := veil (show ∃ N : Nat, Ending.returned (.int .i64 (1 + (da.len : Int))) = .returned (.int .i64 (N : Int)) ∧ N ≤ 281474976710657 ∧ (N ≤ 1048576 → da.len ≤ 1048576 ∧ ra.len ≤ 1048576) from ⟨1 + da.len, by congr 2, by omega, by omega⟩)
    clear h1
    go_enter Tryd.func17, Tryd.ntmps17
    go_wp2_with fail
    refine (bytes_size _ _ _ _).mono ?_
    rintro e1 w1 ⟨rfl, rfl⟩
    go_wp2_with fail
    go_ret
    exact ⟨HR.out, HB0.out⟩

set_option maxRecDepth 20000 in
set_option maxHeartbeats 2000000 in
theorem frames_size (s : FS) (w : World) (hs : s.Ok w) (hl : s.len ≤ 140737488355328) (hd : ∀ j, j < s.len → (gf s.l j).data.len ≤ 140737488355328 ∧ (gf s.l j).ranges.len ≤ 140737488355328) :
    Calls Tryd.prog 9 #[.slice s.a s.len s.cap] w fun e w' => (∃ N : Nat, e = .returned (.int .i64 (N : Int)) ∧ N ≤ 1000000000000000 ∧ (N ≤ 1048576 → s.len ≤ 1048576 ∧ ∀ j, j < s.len → (gf s.l j).data.len ≤ 1048576 ∧ (gf s.l j).ranges.len ≤ 1048576)) ∧ Below w.heap.size w w' := by
  obtain ⟨a, len, cap, g, off, l⟩ := s
  have HP := veil hs
  have HD := veil hd
  clear hs hd
  simp only at hl HD ⊢
  go_enter Tryd.func9, Tryd.ntmps9
  go_wp2_with fail
  go_loopw [3, 4] (fun v i wr => ∃ (k N : Nat), k ≤ len ∧ i = .int .i64 (k : Int) ∧ v = .int .i64 (N : Int) ∧ (len ≤ N ∧ N ≤ 500000000000000) ∧ (N ≤ 1048576 → ∀ j, j < k → (gf l j).data.len ≤ 1048576 ∧ (gf l j).ranges.len ≤ 1048576) ∧ Below w.heap.size w wr)
    (fun _ i _ => len - (intOf i).toNat)
  case atStart => exact ⟨0, len, Nat.zero_le _, rfl, rfl, ⟨Nat.le_refl _, by omega⟩, fun _ j hj => absurd hj (Nat.not_lt_zero _), Below.refl _ _⟩
  case round =>
    obtain ⟨k, N, hk, rfl, rfl, ⟨hN1, hN2⟩, hJ, hbel⟩ := hrel
    have HJ := veil hJ
    have HB := veil hbel
    by_cases hlt : k < len
    · have hd0 : decide ((k : Int) < (len : Int)) = true := by simp; omega
      have hd0n : decide (k < len) = true := by simp; omega
      by_cases hm : N ≤ 1048576
      · have f1 : decide ((N : Int) ≤ 1048576) = true := by simp; omega
        have f1n : decide (N ≤ 1048576) = true := by simp; omega
        have e1 : a = some ⟨g, off, none⟩ := HP.out.at_ (show 0 < len by omega)
        subst e1
        have hc := (HP.out.below hbel).cell k hlt
        have hdk := HD.out k hlt
        obtain ⟨K, ek⟩ : ∃ K, K = gf l k := ⟨_, rfl⟩
        simp only at hc
        rw [← ek] at hc hdk
        obtain ⟨kk, st, of, li, co, fi, da, ra⟩ := K
        have a0 := hc 0 _ rfl
        have a1 := hc 1 _ rfl
        have a2 := hc 2 _ rfl
        have a3 := hc 3 _ rfl
        have a4 := hc 4 _ rfl
        have a5 := hc 5 _ rfl
        have a6 := hc 6 _ rfl
        have a7 := hc 7 _ rfl
        simp only [Nat.add_zero] at a0 a1 a2 a3 a4 a5 a6 a7
        have EK := veil ek
        clear hc ek hJ hbel
        go_wp2_with fail
        clear a0 a1 a2 a3 a4 a5 a6 a7
        refine (frame_size ⟨kk, st, of, li, co, fi, da, ra⟩ wr hdk.1 hdk.2).mono ?_
        rintro e2 w2 ⟨⟨M, rfl, hM1, hM2⟩, hb2⟩
        have B2 := veil (HB.out.trans (hb2.mono HB.out.size))
        have hw : IntKind.i64.wrap ((N : Int) + (M : Int)) = ((N + M : Nat) : Int) := by rw [IntKind.wrap_i64]; omega
        have J2 := veil (show N + M ≤ 1048576 → ∀ j, j < k + 1 → (gf l j).data.len ≤ 1048576 ∧ (gf l j).ranges.len ≤ 1048576 by
          intro h j hj
          rcases Nat.lt_or_ge j k with q | q
          · exact HJ.out (by omega) j q
          · obtain rfl : j = k := by omega
            rw [← EK.out]
            exact hM2 (by omega))
        have hb3 : N + M ≤ 500000000000000 := by omega
        have hb4 : len ≤ N + M := by omega
        clear hM2 hb2 HJ EK
        go_wp2_with fail
        go_roundw
        case rel => exact ⟨k + 1, N + M, by omega, by go_num, by go_num, ⟨hb4, hb3⟩, J2.out, B2.out⟩
        case measure => simp [intOf]; omega
      · have f1 : decide ((N : Int) ≤ 1048576) = false := by simp; omega
        have f1n : decide (N ≤ 1048576) = false := by simp; omega
        have HR := veil (show ∃ M : Nat, Ending.returned (.int .i64 (N : Int)) = .returned (.int .i64 (M : Int)) ∧ M ≤ 1000000000000000 ∧ (M ≤ 1048576 → len ≤ 1048576 ∧ ∀ j, j < len → (gf l j).data.len ≤ 1048576 ∧ (gf l j).ranges.len ≤ 1048576) from ⟨N, rfl, by omega, fun h => absurd h hm⟩)
        clear hJ hbel hm
        go_wp2_with fail
        go_ret
        exact ⟨HR.out, HB.out⟩
    · obtain rfl : len = k := by omega
      have hd0 : decide ((len : Int) < (len : Int)) = false := by simp
      have hd0n : decide (len < len) = false := by simp
      have HR := veil (show ∃ M : Nat, Ending.returned (.int .i64 (N : Int)) = .returned (.int .i64 (M : Int)) ∧ M ≤ 1000000000000000 ∧ (M ≤ 1048576 → len ≤ 1048576 ∧ ∀ j, j < len → (gf l j).data.len ≤ 1048576 ∧ (gf l j).ranges.len ≤ 1048576) from ⟨N, rfl, by omega, fun h => ⟨by omega, HJ.out h⟩⟩)
      clear hJ hbel
      go_wp2_with fail
      go_ret
      exact ⟨HR.out, HB.out⟩
end Go.Proofs.YtnngeojhlfkdiaaDoor

/-! Beyond: whether numbers together are more than MaxBytes. -/
namespace Go.Proofs.YtnngeojhlfkdiaaDoor
open Go Go.RowKit

set_option maxRecDepth 20000 in
set_option maxHeartbeats 1000000 in
theorem beyond_any (g n : Nat) (v : Nat → Nat) (w : World) (hn : n ≤ 1000) (hc : ∀ j, j < n → w.cell? ⟨g, j, none⟩ = some (.int .i64 (v j : Int))) (hv : ∀ j, j < n → v j ≤ 1000000000000000) :
    Calls Tryd.prog 8 #[.slice (some ⟨g, 0, none⟩) n n] w fun e w' => (∃ b, e = .returned (.bool b) ∧ (b = false → ∀ j, j < n → v j ≤ 1048576)) ∧ w' = w := by
  have HC := veil hc
  have HV := veil hv
  clear hc hv
  go_enter Tryd.func8, Tryd.ntmps8
  go_wp2_with fail
  go_loopw [3, 4] (fun s i wr => ∃ (k N : Nat), k ≤ n ∧ i = .int .i64 (k : Int) ∧ s = .int .i64 (N : Int) ∧ N ≤ 1048576 ∧ (∀ j, j < k → v j ≤ N) ∧ wr = w)
    (fun _ i _ => n - (intOf i).toNat)
  case atStart => exact ⟨0, 0, Nat.zero_le _, rfl, rfl, Nat.zero_le _, fun j hj => absurd hj (Nat.not_lt_zero _), rfl⟩
  case round =>
    obtain ⟨k, N, hk, rfl, rfl, hN, hJ, rfl⟩ := hrel
    have HJ := veil hJ
    clear hJ
    by_cases hlt : k < n
    · have hd0 : decide ((k : Int) < (n : Int)) = true := by simp; omega
      have hd0n : decide (k < n) = true := by simp; omega
      have hck := HC.out k hlt
      have hvk := HV.out k hlt
      have hw : IntKind.i64.wrap ((N : Int) + (v k : Int)) = (N : Int) + (v k : Int) := by rw [IntKind.wrap_i64]; omega
      by_cases hb : 1048576 < N + v k
      · have f1 : decide ((1048576 : Int) < (N : Int) + (v k : Int)) = true := decide_eq_true (by omega)
        go_wp2_with fail
        go_ret
        exact ⟨⟨true, rfl, fun e => by cases e⟩, rfl⟩
      · have f1 : decide ((1048576 : Int) < (N : Int) + (v k : Int)) = false := decide_eq_false (by omega)
        have J2 := veil (show ∀ j, j < k + 1 → v j ≤ N + v k by
          intro j hj
          rcases Nat.lt_or_ge j k with q | q
          · have := HJ.out j q; omega
          · obtain rfl : j = k := by omega
            omega)
        go_wp2_with fail
        go_roundw
        case rel => exact ⟨k + 1, N + v k, by omega, by go_num, by go_num, by omega, J2.out, by trivial⟩
        case measure => simp [intOf]; omega
    · have hd0 : decide ((k : Int) < (n : Int)) = false := by simp; omega
      have hd0n : decide (k < n) = false := by simp; omega
      have HR := veil (show ∀ j, j < n → v j ≤ 1048576 from fun j hj => by have := HJ.out j (by omega); omega)
      go_wp2_with fail
      go_ret
      exact ⟨⟨false, rfl, fun _ => HR.out⟩, rfl⟩
theorem beyond_one (w : World) (N : Nat) (hN : N ≤ 1000000000000000) : Calls Tryd.prog 8 #[.slice (some ⟨w.heap.size, 0, none⟩) 1 1] (w.alloc (.cells #[.int .i64 (N : Int)] 3)) fun e w' => (∃ b, e = .returned (.bool b) ∧ (b = false → N ≤ 1048576)) ∧ Below w.heap.size w w' := by
  have r : Row (w.alloc (.cells #[.int .i64 (N : Int)] 3)) w.heap.size 3 #[.int .i64 (N : Int)] := Row.new _ _ _
  refine (beyond_any w.heap.size 1 (fun _ => N) _ (by decide) (fun j hj => ?_) (fun _ _ => hN)).mono ?_
  · obtain rfl : j = 0 := by omega
    exact r.cell 0
  · rintro e w' ⟨⟨b, rfl, h⟩, rfl⟩
    exact ⟨⟨b, rfl, fun hb => h hb 0 (by decide)⟩, (Below.refl _ w).alloc (Nat.le_refl _) _⟩
theorem beyond_two (w : World) (N M : Nat) (hN : N ≤ 1000000000000000) (hM : M ≤ 1000000000000000) : Calls Tryd.prog 8 #[.slice (some ⟨w.heap.size, 0, none⟩) 2 2] (w.alloc (.cells #[.int .i64 (N : Int), .int .i64 (M : Int)] 3)) fun e w' => (∃ b, e = .returned (.bool b) ∧ (b = false → N ≤ 1048576 ∧ M ≤ 1048576)) ∧ Below w.heap.size w w' := by
  have r : Row (w.alloc (.cells #[.int .i64 (N : Int), .int .i64 (M : Int)] 3)) w.heap.size 3 #[.int .i64 (N : Int), .int .i64 (M : Int)] := Row.new _ _ _
  refine (beyond_any w.heap.size 2 (fun j => if j = 0 then N else M) _ (by decide) (fun j hj => ?_) (fun j _ => ?_)).mono ?_
  · obtain rfl | rfl : j = 0 ∨ j = 1 := by omega
    · exact r.cell 0
    · exact r.cell 1
  · show (if j = 0 then N else M) ≤ _
    split <;> omega
  · rintro e w' ⟨⟨b, rfl, h⟩, rfl⟩
    exact ⟨⟨b, rfl, fun hb => ⟨h hb 0 (by decide), h hb 1 (by decide)⟩⟩, (Below.refl _ w).alloc (Nat.le_refl _) _⟩
end Go.Proofs.YtnngeojhlfkdiaaDoor

/-! What SameRanges and SameFrame answer. -/
namespace Go.Proofs.YtnngeojhlfkdiaaDoor
open Go Go.RowKit

set_option maxRecDepth 20000 in
set_option maxHeartbeats 1000000 in
theorem same_rl (p q : RL) (w : World) (hp : p.Ok w) (hq : q.Ok w) (hb : p.l = q.l) (hl : p.len ≤ 8388608) :
    Calls Tryd.prog 13 #[.slice p.a p.len p.cap, .slice q.a q.len q.cap] w fun e w' => e = .returned (.bool true) ∧ Below w.heap.size w w' := by
  have hpq : p.len = q.len := by rw [← hp.hb, ← hq.hb, hb]
  obtain ⟨pa, pl, pc, pg, po, pb⟩ := p
  obtain ⟨qa, ql, qc, qg, qo, qb⟩ := q
  simp only at hb hpq hl ⊢
  subst hb hpq
  have HP := veil hp
  have HQ := veil hq
  clear hp hq
  have h1 : ((pl : Int) != (pl : Int)) = false := by simp
  go_enter Tryd.func13, Tryd.ntmps13
  go_wp2
  go_loopw [5] (fun i wr => ∃ k : Nat, k ≤ pl ∧ i = .int .i64 k ∧ Below w.heap.size w wr)
    (fun i _ => pl - (intOf i).toNat)
  case atStart => exact ⟨0, Nat.zero_le _, rfl, Below.refl _ _⟩
  case round =>
    obtain ⟨k, hk, rfl, hbel⟩ := hrel
    by_cases hlt : k < pl
    · have e1 : pa = some ⟨pg, po, none⟩ := HP.out.at_ (show 0 < pl by omega)
      have e2 : qa = some ⟨qg, qo, none⟩ := HQ.out.at_ (show 0 < pl by omega)
      subst e1 e2
      obtain ⟨c1, c2⟩ := (HP.out.below hbel).cell k hlt
      obtain ⟨c3, c4⟩ := (HQ.out.below hbel).cell k hlt
      simp only at c1 c2 c3 c4
      generalize ((gr pb k).1 : Int) = y at *
      generalize ((gr pb k).2 : Int) = z at *
      go_wp2
      go_quiet (fail)
      go_wp2
      go_roundw
      case rel => exact ⟨k + 1, by omega, by go_num, below_drewN hbel _⟩
      case measure => simp [intOf]; omega
    · obtain rfl : pl = k := by omega
      go_wp2
      go_ret
      exact ⟨rfl, hbel⟩

set_option maxRecDepth 20000 in
set_option maxHeartbeats 1000000 in
theorem same_frame (p q : FrM) (w : World) (hp : p.Ok w) (hq : q.Ok w) (hb : p.fr = q.fr) (hl : p.data.len ≤ 8388608) (hr : p.ranges.len ≤ 8388608) :
    Calls Tryd.prog 21 #[.agg p.cells, .agg q.cells] w fun e w' => e = .returned (.bool true) ∧ Below w.heap.size w w' := by
  obtain ⟨pk, ps, po, pl, pc, pf, pd, pr⟩ := p
  obtain ⟨qk, qs, qo, ql, qc, qf, qd, qr⟩ := q
  simp only [FrM.fr, Fr.Frame.mk.injEq] at hb
  obtain ⟨rfl, rfl, rfl, rfl, rfl, rfl, e6, e7⟩ := hb
  have r0 : Row ((w.alloc (.cells (FrM.mk pk ps po pl pc pf pd pr).cells 39)).alloc (.cells (FrM.mk pk ps po pl pc pf qd qr).cells 39)) w.heap.size 39 (FrM.mk pk ps po pl pc pf pd pr).cells := (Row.new _ _ _).alloc _
  have q0 : Row ((w.alloc (.cells (FrM.mk pk ps po pl pc pf pd pr).cells 39)).alloc (.cells (FrM.mk pk ps po pl pc pf qd qr).cells 39)) (w.heap.size + 1) 39 (FrM.mk pk ps po pl pc pf qd qr).cells := Row.new1 _ _ _ _
  have b0 : Below w.heap.size w ((w.alloc (.cells (FrM.mk pk ps po pl pc pf pd pr).cells 39)).alloc (.cells (FrM.mk pk ps po pl pc pf qd qr).cells 39)) := ((Below.refl _ w).alloc (Nat.le_refl _) _).alloc (by simp) _
  obtain ⟨c0, c1, c2, c3, c4, c5, c6, c7⟩ := fr_cells r0
  obtain ⟨x0, x1, x2, x3, x4, x5, x6, x7⟩ := fr_cells q0
  simp only at c0 c1 c2 c3 c4 c5 c6 c7 x0 x1 x2 x3 x4 x5 x6 x7
  have s0 : ((pk : Int) == (pk : Int)) = true := by simp
  have s1 : ((ps : Int) == (ps : Int)) = true := by simp
  have s2 : ((po : Int) == (po : Int)) = true := by simp
  have s3 : ((pl : Int) == (pl : Int)) = true := by simp
  have s4 : ((pc : Int) == (pc : Int)) = true := by simp
  have s5 : (pf == pf) = true := by simp
  have HP := veil hp
  have HQ := veil hq
  have HR0 := veil r0
  have HQ0 := veil q0
  have HB0 := veil b0
  have hl0 := r0.lt
  have hl1 := q0.lt
  have HL := veil hl
  have HRL := veil hr
  clear hp hq r0 q0 b0 hl hr
  go_enter Tryd.func21, Tryd.ntmps21
  go_wp2_with fail
  refine (same_sl pd qd _ (HP.out.data.below HB0.out) (HQ.out.data.below HB0.out) e6 HL.out).mono ?_
  rintro e1 w1 ⟨rfl, hb1⟩
  have b1 := HB0.out.trans (hb1.mono HB0.out.size)
  have c7' := (fr_cells (HR0.out.below hb1 hl0)).2.2.2.2.2.2.2
  have x7' := (fr_cells (HQ0.out.below hb1 hl1)).2.2.2.2.2.2.2
  simp only at c7' x7'
  clear hb1 c0 c1 c2 c3 c4 c5 c6 c7 x0 x1 x2 x3 x4 x5 x6 x7
  go_wp2_with fail
  refine (same_rl pr qr w1 (HP.out.ranges.below b1) (HQ.out.ranges.below b1) e7 HRL.out).mono ?_
  rintro e2 w2 ⟨rfl, hb2⟩
  have b2 := b1.trans (hb2.mono b1.size)
  clear hb2
  go_wp2_with fail
  go_ret
  exact ⟨rfl, b2⟩
end Go.Proofs.YtnngeojhlfkdiaaDoor

/-! What SameFrames answers. -/
namespace Go.Proofs.YtnngeojhlfkdiaaDoor
open Go Go.RowKit

def depSF : Nat → List Nat
  | 2 => [0, 1]
  | 3 => [2]
  | 6 => [4, 5]
  | 7 => [6]
  | 8 => [3, 7]
  | 9 => [8]
  | _ => []
def valSF (p q : FS) (k : Nat) : Nat → Value
  | 0 => .slice (some ⟨p.g, p.off, none⟩) p.len p.cap
  | 1 => .int .i64 (k : Int)
  | 2 => .pointer (some ⟨p.g, p.off + k * 8, none⟩)
  | 3 => .agg (gf p.l k).cells
  | 4 => .slice (some ⟨q.g, q.off, none⟩) q.len q.cap
  | 5 => .int .i64 (k : Int)
  | 6 => .pointer (some ⟨q.g, q.off + k * 8, none⟩)
  | 7 => .agg (gf q.l k).cells
  | 8 => .bool true
  | _ => .bool false

set_option maxRecDepth 20000 in
set_option maxHeartbeats 1000000 in
theorem same_frames (p q : FS) (w : World) (hp : p.Ok w) (hq : q.Ok w) (hb : p.fr = q.fr) (hl : p.len ≤ 8388608) (hd : ∀ j, j < p.len → (gf p.l j).data.len ≤ 8388608 ∧ (gf p.l j).ranges.len ≤ 8388608) :
    Calls Tryd.prog 12 #[.slice p.a p.len p.cap, .slice q.a q.len q.cap] w fun e w' => e = .returned (.bool true) ∧ Below w.heap.size w w' := by
  have hpq : p.len = q.len := by
    rw [← hp.hb, ← hq.hb]
    have := congrArg List.length hb
    simpa [FS.fr] using this
  have HP := veil hp
  have HQ := veil hq
  have HF : Hid (∀ j, j < p.len → (gf p.l j).fr = (gf q.l j).fr) := fun j hj => fr_get hb j (by rw [hp.hb]; exact hj)
  have HD := veil hd
  clear hp hq hb hd
  have h1 : ((p.len : Int) != (p.len : Int)) = false := by simp
  rw [← hpq]
  refine (callsIn_wide (n := 4)).1 ?_
  refine callsIn_of_wp Tryd.func12 rfl trivial ?_ rfl
  simp only [Tryd.ntmps12, List.size_toArray, List.length_cons, List.length_nil, Nat.reduceAdd, Nat.reduceSub, Array.replicate_succ, Array.replicate_zero, List.push_toArray, List.append_toArray, List.nil_append, List.cons_append]
  gi_wp2_with fail
  gi_loopw [5] (fun i wr => ∃ k : Nat, k ≤ p.len ∧ i = .int .i64 k ∧ Below w.heap.size w wr)
    (fun i _ => p.len - (intOf i).toNat)
  case atStart => exact ⟨0, Nat.zero_le _, rfl, Below.refl _ _⟩
  case round =>
    obtain ⟨k, hk, rfl, hbel⟩ := hrel
    by_cases hlt : k < p.len
    · have hdk : decide ((k : Int) < (p.len : Int)) = true := by simp; omega
      have e1 := HP.out.at_ (by omega)
      have e2 := HQ.out.at_ (by omega)
      rw [e1, e2]
      gi_wp2_with fail
      refine wpIn_region_any (by kernel_rfl) ?_
      refine anyIn_vals2 (w0 := wr) (valSF p q k) [17, 18, 19, 20, 21, 22, 23, 24, 25, 26] depSF (by kernel_rfl) rfl (by decide) ((Below.refl _ _).drew) ?step3 ?done3
      case step3 =>
        intro x W ii d hW hdi hdep
        have bW := hbel.trans (hW.mono hbel.size)
        have okP := HP.out.below bW
        have okQ := HQ.out.below bW
        match ii, hdi, hdep with
        | 0, hdi, _ =>
          obtain rfl := Option.some.inj hdi
          exact OI_value rfl rfl (about_none (by intro c h; cases h)) (by intro c h; cases h) (.slice (some ⟨p.g, p.off, none⟩) p.len p.cap) W (by kernel_rfl) ⟨rfl, Below.refl _ _⟩
        | 1, hdi, _ =>
          obtain rfl := Option.some.inj hdi
          exact OI_value rfl rfl (about_none (by intro c h; cases h)) (by intro c h; cases h) (.int .i64 (k : Int)) W (by kernel_rfl) ⟨rfl, Below.refl _ _⟩
        | 2, hdi, hdep =>
          obtain rfl := Option.some.inj hdi
          rw [updV_self (hdep 0 (by simp [depSF])), updV_self (show updV x 0 _ 1 = _ from hdep 1 (by simp [depSF]))]
          exact OI_value rfl rfl (about_none (by intro c h; cases h)) (by intro c h; cases h) _ W (run_atF 22 39 8 _ _ p.g p.off p.len p.cap k rfl (by kernel_rfl) (by kernel_rfl) Tryd.underlying22 (by kernel_rfl) hlt W) ⟨rfl, Below.refl _ _⟩
        | 3, hdi, hdep =>
          obtain rfl := Option.some.inj hdi
          rw [updV_self (hdep 2 (by simp [depSF]))]
          exact OI_value rfl rfl (about_none (by intro c h; cases h)) (by intro c h; cases h) _ W (run_midF 39 _ p.g (p.off + k * 8) (gf p.l k).cells _ rfl (by kernel_rfl) Tryd.underlying39 rfl (by kernel_rfl) W (okP.cell k hlt)) ⟨rfl, Below.refl _ _⟩
        | 4, hdi, _ =>
          obtain rfl := Option.some.inj hdi
          refine OI_value rfl rfl (about_none (by intro c h; cases h)) (by intro c h; cases h) (.slice (some ⟨q.g, q.off, none⟩) p.len q.cap) W (by kernel_rfl) ⟨?_, Below.refl _ _⟩
          show _ = _
          rw [show valSF p q k 4 = .slice (some ⟨q.g, q.off, none⟩) q.len q.cap from rfl, ← hpq]
          rfl
        | 5, hdi, _ =>
          obtain rfl := Option.some.inj hdi
          exact OI_value rfl rfl (about_none (by intro c h; cases h)) (by intro c h; cases h) (.int .i64 (k : Int)) W (by kernel_rfl) ⟨rfl, Below.refl _ _⟩
        | 6, hdi, hdep =>
          obtain rfl := Option.some.inj hdi
          rw [updV_self (hdep 4 (by simp [depSF])), updV_self (show updV x 4 _ 5 = _ from hdep 5 (by simp [depSF]))]
          exact OI_value rfl rfl (about_none (by intro c h; cases h)) (by intro c h; cases h) _ W (run_atF 22 39 8 _ _ q.g q.off q.len q.cap k rfl (by kernel_rfl) (by kernel_rfl) Tryd.underlying22 (by kernel_rfl) (by omega) W) ⟨rfl, Below.refl _ _⟩
        | 7, hdi, hdep =>
          obtain rfl := Option.some.inj hdi
          rw [updV_self (hdep 6 (by simp [depSF]))]
          exact OI_value rfl rfl (about_none (by intro c h; cases h)) (by intro c h; cases h) _ W (run_midF 39 _ q.g (q.off + k * 8) (gf q.l k).cells _ rfl (by kernel_rfl) Tryd.underlying39 rfl (by kernel_rfl) W (okQ.cell k (by omega))) ⟨rfl, Below.refl _ _⟩
        | 8, hdi, hdep =>
          obtain rfl := Option.some.inj hdi
          rw [updV_self (hdep 3 (by simp [depSF])), updV_self (show updV x 3 _ 7 = _ from hdep 7 (by simp [depSF]))]
          refine OI_call rfl rfl (by intro c h; cases h) 21 #[.agg (gf p.l k).cells, .agg (gf q.l k).cells] (fun _ _ => trivial) (by kernel_rfl) (by decide) ?_
          refine (callsIn_wide.2 (same_frame (gf p.l k) (gf q.l k) W (okP.each k hlt) (okQ.each k (by omega)) (HF.out k hlt) (HD.out k hlt).1 (HD.out k hlt).2)).mono ?_
          rintro e w' ⟨rfl, hb'⟩
          exact ⟨_, rfl, rfl, hb'⟩
        | 9, hdi, hdep =>
          obtain rfl := Option.some.inj hdi
          rw [updV_self (hdep 8 (by simp [depSF]))]
          exact OI_value rfl rfl (about_none (by intro c h; cases h)) (by intro c h; cases h) (.bool false) W (by kernel_rfl) ⟨rfl, Below.refl _ _⟩
        | _ + 10, hdi, _ => simp at hdi
      case done3 =>
        intro W hW
        have bW := hbel.trans (hW.mono hbel.size)
        simp only [putsV, valSF, Act.put, List.setIfInBounds_toArray, List.set_cons_succ, List.set_cons_zero, Nat.reduceAdd]
        gi_wp2_with fail
        go_roundw
        case rel => exact ⟨k + 1, by omega, by go_num, bW⟩
        case measure => simp [intOf]; omega
    · have hdk : decide ((k : Int) < (p.len : Int)) = false := by simp; omega
      gi_wp2_with fail
      go_ret
      exact ⟨rfl, hbel⟩
end Go.Proofs.YtnngeojhlfkdiaaDoor
