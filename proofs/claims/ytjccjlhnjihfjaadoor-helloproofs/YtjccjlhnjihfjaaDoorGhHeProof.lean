/-
  The proof that somebody knows what both share: the program's and the document's.
-/
import Derived.Test.YtjccjlhnjihfjaaDoorGhHeLives
import Derived.Test.YtjccjlhnjihfjaaDoorGh5
import Derived.Test.YtjccjlhnjihfjaaDoorGhFrGen
namespace Go.Proofs.YtjccjlhnjihfjaaDoor
open Go Go.RowKit

set_option maxRecDepth 20000 in
set_option maxHeartbeats 1000000 in
theorem refExt_slH (k b : SL) (w : World) (hk : k.Ok w) (hb : b.Ok w) (h1 : k.len ≤ 1048576) (h2 : b.len ≤ 1048512) :
    Calls Tryd.prog 72 #[.slice k.a k.len k.cap, .slice b.a b.len b.cap] w fun e w' => e = .returned (.tuple #[.agg (bs (macK (keyL k.b) b.b)), .int .i64 0]) ∧ Below w.heap.size w w' := by
  have HK := veil hk
  have HB := veil hb
  clear hk hb
  have b0 : Below w.heap.size w (w.alloc (.cells (bs z32) 23)) := (Below.refl _ w).alloc (Nat.le_refl _) _
  have q0 : Row (w.alloc (.cells (bs z32) 23)) w.heap.size 23 (bs z32) := Row.new _ _ _
  have hsz : (bs (macK (keyL k.b) b.b)).size = 32 := by rw [bs_size, macK_length]
  go_enter Tryd.func72, Tryd.ntmps72
  go_wp2_with (with_reducible (show wpList _ _ _ (⟨_, Op.alloc 23, _, _, _, _⟩ :: _) _ _)
               refine alloc_row rfl 23 rfl (bs z32) (by kernel_rfl) ?_)
  refine (refMac_sl k b _ (HK.out.below b0) (HB.out.below b0) h1 h2).mono ?_
  rintro e1 w1 ⟨rfl, hb1⟩
  have q1 := q0.below hb1 q0.lt
  have b1 := b0.trans (hb1.mono b0.size)
  clear hb1 q0 b0
  go_wp2_with (with_reducible (show wpList _ _ _ (⟨_, Op.store 23 _ _, _, _, _, _⟩ :: _) _ _)
               refine store_row rfl 23 _ _ rfl w.heap.size (bs (macK (keyL k.b) b.b)) rfl rfl _ _ q1 32 (by kernel_rfl) (by rfl) hsz (bs_one _) ?_)
  refine bodyPost_ret (result_row_tmp rfl _ _ w.heap.size _ _ (q1.put _) 32 5 (.int .i64 0) rfl rfl Tryd.underlying23 (by kernel_rfl) hsz) rfl ⟨rfl, bSetRow b1 (Nat.le_refl _) _⟩

/-! ### What is to be answered -/
def nameT (sv : Bool) : ByteArray := if sv then ⟨#[115, 101, 114, 118, 101, 114, 32, 112, 114, 111, 111, 102]⟩ else ⟨#[99, 108, 105, 101, 110, 116, 32, 112, 114, 111, 111, 102]⟩
theorem nameT_size (sv : Bool) : (nameT sv).size ≤ 249 := by cases sv <;> decide
def pfM (sh : List By) : List By := macK (keyL []) sh
def pfL (sh : List By) (sv : Bool) : List By := lab (pfM sh) (nameT sv) 32
def pfA (sh said : List By) (sv : Bool) : List By := if sh.length < 1 ∨ 256 < sh.length then z32 else if 1048576 < said.length then z32 else macA (pfL sh sv) said
def pfE (sh said : List By) (sv : Bool) : Int := if sh.length < 1 ∨ 256 < sh.length then 1 else if 1048576 < said.length then 3 else macE (pfL sh sv) said
theorem pfA_length (sh said : List By) (sv : Bool) : (pfA sh said sv).length = 32 := by
  unfold pfA
  split
  · rfl
  · split
    · rfl
    · exact macA_length _ _
def ProofR (sh said : List By) (sv : Bool) (w : World) (e : Ending) (w' : World) : Prop :=
  e = .returned (.tuple #[.agg (bs (pfA sh said sv)), (.int .i64 (pfE sh said sv))]) ∧ Below w.heap.size w w'

theorem name_any (sv : Bool) (w : World) : Calls Tryd.prog 70 #[.bool sv] w fun e w' => e = .returned (.string (nameT sv)) ∧ w' = w := by
  cases sv
  all_goals
    go_enter Tryd.func70, Tryd.ntmps70
    go_wp2_with fail
    go_ret
    exact ⟨rfl, rfl⟩

/-! ### Refused -/
set_option maxRecDepth 20000 in
set_option maxHeartbeats 1000000 in
theorem proof_no (s t : SL) (sv : Bool) (w : World) (hs : s.Ok w) (ht : t.Ok w) (h : (s.len < 1 ∨ 256 < s.len) ∨ 1048576 < t.len) :
    Calls Tryd.prog 19 #[.slice s.a s.len s.cap, .slice t.a t.len t.cap, .bool sv] w (ProofR s.b t.b sv w) := by
  have b0 : Below w.heap.size w (w.alloc (.cells (bs z32) 23)) := (Below.refl _ w).alloc (Nat.le_refl _) _
  have q0 : Row (w.alloc (.cells (bs z32) 23)) w.heap.size 23 (bs z32) := Row.new _ _ _
  obtain ⟨E, hA, hE, hcase⟩ : ∃ E : Int, pfA s.b t.b sv = z32 ∧ pfE s.b t.b sv = E ∧ ((s.len < 1 ∧ E = 1) ∨ (256 < s.len ∧ E = 1) ∨ (1 ≤ s.len ∧ s.len ≤ 256 ∧ 1048576 < t.len ∧ E = 3)) := by
    unfold pfA pfE
    rw [hs.hb, ht.hb]
    by_cases h1 : s.len < 1 ∨ 256 < s.len
    · rw [if_pos h1, if_pos h1]
      exact ⟨1, rfl, rfl, by omega⟩
    · rw [if_neg h1, if_neg h1, if_pos (by omega), if_pos (by omega)]
      exact ⟨3, rfl, rfl, by omega⟩
  have HB := veil b0
  have HQ := veil q0
  unfold ProofR
  rw [hA, hE]
  clear hA hE h hs ht b0 q0
  rcases hcase with ⟨h1, rfl⟩ | ⟨h1, rfl⟩ | ⟨h1, h2, h3, rfl⟩
  · have d1 : decide ((s.len : Int) < 1) = true := decide_eq_true (by omega)
    go_enter Tryd.func19, Tryd.ntmps19
    go_wp2_with (first
      | (with_reducible (show wpList _ _ _ (⟨_, Op.alloc 23, _, _, _, _⟩ :: _) _ _)
         refine alloc_row rfl 23 rfl (bs z32) (by kernel_rfl) ?_)
      | (with_reducible (show wpList _ _ _ (⟨_, Op.build 23 _, _, _, _, _⟩ :: _) _ _)
         refine build_row rfl 23 _ rfl (bs z32) (by kernel_rfl) ?_)
      | (with_reducible (show wpList _ _ _ (⟨_, Op.store 23 _ _, _, _, _, _⟩ :: _) _ _)
         refine store_new (w := w) rfl 23 _ _ rfl w.heap.size (bs z32) rfl rfl _ _ rfl 32 (by kernel_rfl) (by rfl) (by rfl) (bs_one _) ?_))
    exact bodyPost_ret (result_row_tmp rfl _ _ w.heap.size _ _ HQ.out 32 5 (.int .i64 1) rfl rfl Tryd.underlying23 (by kernel_rfl) rfl) rfl ⟨rfl, HB.out⟩
  · have d1 : decide ((s.len : Int) < 1) = false := decide_eq_false (by omega)
    have d2 : decide ((256 : Int) < (s.len : Int)) = true := decide_eq_true (by omega)
    go_enter Tryd.func19, Tryd.ntmps19
    go_wp2_with (first
      | (with_reducible (show wpList _ _ _ (⟨_, Op.alloc 23, _, _, _, _⟩ :: _) _ _)
         refine alloc_row rfl 23 rfl (bs z32) (by kernel_rfl) ?_)
      | (with_reducible (show wpList _ _ _ (⟨_, Op.build 23 _, _, _, _, _⟩ :: _) _ _)
         refine build_row rfl 23 _ rfl (bs z32) (by kernel_rfl) ?_)
      | (with_reducible (show wpList _ _ _ (⟨_, Op.store 23 _ _, _, _, _, _⟩ :: _) _ _)
         refine store_new (w := w) rfl 23 _ _ rfl w.heap.size (bs z32) rfl rfl _ _ rfl 32 (by kernel_rfl) (by rfl) (by rfl) (bs_one _) ?_))
    exact bodyPost_ret (result_row_tmp rfl _ _ w.heap.size _ _ HQ.out 32 5 (.int .i64 1) rfl rfl Tryd.underlying23 (by kernel_rfl) rfl) rfl ⟨rfl, HB.out⟩
  · have d1 : decide ((s.len : Int) < 1) = false := decide_eq_false (by omega)
    have d2 : decide ((256 : Int) < (s.len : Int)) = false := decide_eq_false (by omega)
    have d3 : decide ((1048576 : Int) < (t.len : Int)) = true := decide_eq_true (by omega)
    go_enter Tryd.func19, Tryd.ntmps19
    go_wp2_with (first
      | (with_reducible (show wpList _ _ _ (⟨_, Op.alloc 23, _, _, _, _⟩ :: _) _ _)
         refine alloc_row rfl 23 rfl (bs z32) (by kernel_rfl) ?_)
      | (with_reducible (show wpList _ _ _ (⟨_, Op.build 23 _, _, _, _, _⟩ :: _) _ _)
         refine build_row rfl 23 _ rfl (bs z32) (by kernel_rfl) ?_)
      | (with_reducible (show wpList _ _ _ (⟨_, Op.store 23 _ _, _, _, _, _⟩ :: _) _ _)
         refine store_new (w := w) rfl 23 _ _ rfl w.heap.size (bs z32) rfl rfl _ _ rfl 32 (by kernel_rfl) (by rfl) (by rfl) (bs_one _) ?_))
    exact bodyPost_ret (result_row_tmp rfl _ _ w.heap.size _ _ HQ.out 32 5 (.int .i64 3) rfl rfl Tryd.underlying23 (by kernel_rfl) rfl) rfl ⟨rfl, HB.out⟩

/-! ### Answered -/
def GP (B : Nat) (sv : Bool) (L : List By) : Nat → World → Value → Prop
  | 0, _, v => v = .slice (some ⟨B, 0, none⟩) 32 32
  | 1, _, v => v = .bool sv
  | 2, _, v => v = .string (nameT sv)
  | 3, W, v => ∃ g, v = .tuple #[.slice (some ⟨g, 0, none⟩) 32 32, .int .i64 0] ∧ (SL.mk (some ⟨g, 0, none⟩) 32 32 g 0 L).Ok W
  | 4, W, v => ∃ g, v = .tuple #[.slice (some ⟨g, 0, none⟩) 32 32, .int .i64 0] ∧ (SL.mk (some ⟨g, 0, none⟩) 32 32 g 0 L).Ok W
  | 5, W, v => ∃ g, v = .slice (some ⟨g, 0, none⟩) 32 32 ∧ (SL.mk (some ⟨g, 0, none⟩) 32 32 g 0 L).Ok W
  | 7, W, v => ∃ g, v = .slice (some ⟨g, 0, none⟩) 32 32 ∧ (SL.mk (some ⟨g, 0, none⟩) 32 32 g 0 L).Ok W
  | _, _, v => v = .int .i64 0
theorem GP_mono {B : Nat} {sv : Bool} {L : List By} : ∀ (j : Nat) (W W' : World) (v : Value), Below W.heap.size W W' → GP B sv L j W v → GP B sv L j W' v
  | 0, _, _, _, _, h => h
  | 1, _, _, _, _, h => h
  | 2, _, _, _, _, h => h
  | 3, _, _, _, hb, ⟨g, h1, h2⟩ => ⟨g, h1, h2.below hb⟩
  | 4, _, _, _, hb, ⟨g, h1, h2⟩ => ⟨g, h1, h2.below hb⟩
  | 5, _, _, _, hb, ⟨g, h1, h2⟩ => ⟨g, h1, h2.below hb⟩
  | 6, _, _, _, _, h => h
  | 7, _, _, _, hb, ⟨g, h1, h2⟩ => ⟨g, h1, h2.below hb⟩
  | _ + 8, _, _, _, _, h => h
def depGP : Nat → List Nat
  | 2 => [1]
  | 3 => [0, 2]
  | 4 => [3]
  | 5 => [4]
  | 6 => [4]
  | 7 => [5]
  | 8 => [6]
  | _ => []

set_option maxRecDepth 20000 in
set_option maxHeartbeats 2000000 in
theorem proof_yes (s t : SL) (sv : Bool) (w : World) (hs : s.Ok w) (ht : t.Ok w) (h1 : 1 ≤ s.len) (h2 : s.len ≤ 256) (h3 : t.len ≤ 1048576) :
    Calls Tryd.prog 19 #[.slice s.a s.len s.cap, .slice t.a t.len t.cap, .bool sv] w (ProofR s.b t.b sv w) := by
  have hA : pfA s.b t.b sv = macA (pfL s.b sv) t.b := by unfold pfA; rw [hs.hb, ht.hb, if_neg (by omega), if_neg (by omega)]
  have hE : pfE s.b t.b sv = macE (pfL s.b sv) t.b := by unfold pfE; rw [hs.hb, ht.hb, if_neg (by omega), if_neg (by omega)]
  have hM : macK (keyL nilK.b) s.b = pfM s.b := rfl
  have b0 : Below w.heap.size w (w.alloc (.cells (bs z32) 23)) := (Below.refl _ w).alloc (Nat.le_refl _) _
  have q0 : Row (w.alloc (.cells (bs z32) 23)) w.heap.size 23 (bs z32) := Row.new _ _ _
  have d1 : decide ((s.len : Int) < 1) = false := decide_eq_false (by omega)
  have d2 : decide ((256 : Int) < (s.len : Int)) = false := decide_eq_false (by omega)
  have d3 : decide ((1048576 : Int) < (t.len : Int)) = false := decide_eq_false (by omega)
  have HX := veil (ext_sl nilK s _ (nilK_ok _) (hs.below b0) (by decide) (by omega))
  rw [hM] at HX
  have HS := veil (hs.below b0)
  have HT := veil (ht.below b0)
  have HM32 := veil (show (pfM s.b).length = 32 from macK_length _ _)
  unfold ProofR
  rw [hA, hE]
  have HB := veil b0
  have HQ := veil q0
  have hMl : (bs (pfM s.b)).size = 32 := by rw [bs_size, HM32.out]
  have hRl : (bs (macA (pfL s.b sv) t.b)).size = 32 := by rw [bs_size, macA_length]
  clear hA hE hM hs ht b0 q0 h1 h2 h3
  refine (callsIn_wide (n := 8)).1 ?_
  refine callsIn_of_wp Tryd.func19 rfl trivial ?_ rfl
  simp only [Tryd.ntmps19, List.size_toArray, List.length_cons, List.length_nil, Nat.reduceAdd, Nat.reduceSub, Array.replicate_succ, Array.replicate_zero, List.push_toArray, List.append_toArray, List.nil_append, List.cons_append]
  gi_wp2_with (first
    | (with_reducible (show wpListIn _ _ _ _ _ (⟨_, Op.alloc 23, _, _, _, _⟩ :: _) _ _)
       refine alloc_rowIn rfl 23 rfl (bs z32) (by kernel_rfl) ?_))
  refine ⟨trivial, (callsIn_wide.2 HX.out).mono ?_⟩
  rintro e1 w1 ⟨rfl, bb1⟩
  have B1 := veil (HB.out.trans (bb1.mono HB.out.size))
  have Q1 := veil (HQ.out.below bb1 HQ.out.lt)
  have S1 := veil (HS.out.below bb1)
  have T1 := veil (HT.out.below bb1)
  clear bb1 HX HB HQ HS HT
  obtain ⟨W2, hW2⟩ : ∃ W2, W2 = w1.alloc (.cells (bs (pfM s.b)) 23) := ⟨_, rfl⟩
  have b2 : Below w1.heap.size w1 W2 := by rw [hW2]; exact (Below.refl _ w1).alloc (Nat.le_refl _) _
  have r2 : Row W2 w1.heap.size 23 (bs (pfM s.b)) := by rw [hW2]; exact Row.new _ _ _
  have B2 := veil (B1.out.trans (b2.mono B1.out.size))
  have Q2 := veil (Q1.out.below b2 Q1.out.lt)
  have T2 := veil (T1.out.below b2)
  have R2 := veil r2
  have HW2 := veil hW2
  clear b2 r2 hW2 Q1 S1 T1 B1
  gi_wp2_with (first
    | (with_reducible (show wpListIn _ _ _ _ _ (⟨_, Op.alloc 23, _, _, _, _⟩ :: _) _ _)
       refine alloc_rowIn rfl 23 rfl (bs z32) (by kernel_rfl) ?_)
    | (with_reducible (show wpListIn _ _ _ _ _ (⟨_, Op.store 23 (.tmp 8) _, _, _, _, _⟩ :: _) _ _)
       refine store_newIn rfl 23 _ _ rfl w1.heap.size (bs (pfM s.b)) rfl rfl _ _ rfl 32 (by kernel_rfl) (by rfl) hMl (bs_one _) ?_
       rw [← HW2.out]))
  refine wpIn_region_any (by kernel_rfl) ?_
  refine anyIn_gen2 (w0 := W2) (GP w1.heap.size sv (pfL s.b sv)) GP_mono [34, 35, 36, 37, 33, 38, 39, 10, 9] depGP (by kernel_rfl) rfl (by decide) ((Below.refl _ _).drew) ?step ?done
  case step =>
    intro x W i d hW hdi hdep
    match i, hdi, hdep with
    | 0, hdi, _ =>
      obtain rfl := Option.some.inj hdi
      exact OI_value rfl rfl (about_none (by intro c h; cases h)) (by intro c h; cases h) (.slice (some ⟨w1.heap.size, 0, none⟩) 32 32) W (by kernel_rfl) ⟨_, rfl, Below.refl _ _, rfl⟩
    | 1, hdi, _ =>
      obtain rfl := Option.some.inj hdi
      exact OI_value rfl rfl (about_none (by intro c h; cases h)) (by intro c h; cases h) (.bool sv) W (by kernel_rfl) ⟨_, rfl, Below.refl _ _, rfl⟩
    | 2, hdi, hdep =>
      obtain rfl := Option.some.inj hdi
      rw [updV_self (show x 1 = _ from hdep 1 (by decide))]
      refine OI_call rfl rfl (by intro c h; cases h) 70 #[.bool sv] (fun _ _ => trivial) (by kernel_rfl) (by decide) ?_
      refine (callsIn_wide.2 (name_any sv W)).mono ?_
      rintro e w' ⟨rfl, hw'⟩
      exact ⟨_, rfl, _, rfl, by rw [hw']; exact Below.refl _ _, rfl⟩
    | 3, hdi, hdep =>
      obtain rfl := Option.some.inj hdi
      rw [updV_self (show x 0 = _ from hdep 0 (by decide))]
      rw [updV_self (show updV x 0 _ 2 = _ from hdep 2 (by decide))]
      have hk : (SL.mk (some ⟨w1.heap.size, 0, none⟩) 32 32 w1.heap.size 0 (pfM s.b)).Ok W := rowN_ok (R2.out.below hW R2.out.lt) HM32.out
      refine OI_call rfl rfl (by intro c h; cases h) 69 #[.slice (some ⟨w1.heap.size, 0, none⟩) 32 32, .string (nameT sv), .slice none 0 0, .int .i64 32] (fun _ _ => trivial) (by kernel_rfl) (by decide) ?_
      refine (callsIn_wide.2 (lab_any (SL.mk (some ⟨w1.heap.size, 0, none⟩) 32 32 w1.heap.size 0 (pfM s.b)) (nameT sv) 32 W hk (nameT_size sv) (by decide) (show 32 ≤ 1048576 by decide))).mono ?_
      rintro e w' ⟨g, rfl, ho, hb'⟩
      exact ⟨_, rfl, _, rfl, hb', g, rfl, lit_sl ho⟩
    | 4, hdi, hdep =>
      obtain rfl := Option.some.inj hdi
      obtain ⟨g, e3, hg⟩ := hdep 3 (by decide)
      rw [updV_self e3]
      exact OI_value rfl rfl (about_none (by intro c h; cases h)) (by intro c h; cases h) (.tuple #[.slice (some ⟨g, 0, none⟩) 32 32, .int .i64 0]) W (by kernel_rfl) ⟨_, rfl, Below.refl _ _, g, rfl, hg⟩
    | 5, hdi, hdep =>
      obtain rfl := Option.some.inj hdi
      obtain ⟨g, e3, hg⟩ := hdep 4 (by decide)
      rw [updV_self e3]
      exact OI_value rfl rfl (about_none (by intro c h; cases h)) (by intro c h; cases h) (.slice (some ⟨g, 0, none⟩) 32 32) W (by kernel_rfl) ⟨_, rfl, Below.refl _ _, g, rfl, hg⟩
    | 6, hdi, hdep =>
      obtain rfl := Option.some.inj hdi
      obtain ⟨g, e3, hg⟩ := hdep 4 (by decide)
      rw [updV_self e3]
      exact OI_value rfl rfl (about_none (by intro c h; cases h)) (by intro c h; cases h) (.int .i64 0) W (by kernel_rfl) ⟨_, rfl, Below.refl _ _, rfl⟩
    | 7, hdi, hdep =>
      obtain rfl := Option.some.inj hdi
      obtain ⟨g, e3, hg⟩ := hdep 5 (by decide)
      rw [updV_self e3]
      exact OI_value rfl rfl (about_none (by intro c h; cases h)) (by intro c h; cases h) (.slice (some ⟨g, 0, none⟩) 32 32) W (by kernel_rfl) ⟨_, rfl, Below.refl _ _, g, rfl, hg⟩
    | 8, hdi, hdep =>
      obtain rfl := Option.some.inj hdi
      rw [updV_self (show x 6 = _ from hdep 6 (by decide))]
      exact OI_value rfl rfl (about_none (by intro c h; cases h)) (by intro c h; cases h) (.int .i64 0) W (by kernel_rfl) ⟨_, rfl, Below.refl _ _, rfl⟩
    | _ + 9, hdi, _ => simp at hdi
  case done =>
  intro x W3 hW hx
  obtain ⟨g, e7, hg⟩ := hx 7 (by decide)
  have e8 : x 8 = .int .i64 0 := hx 8 (by decide)
  simp only [putsV, Act.put, List.setIfInBounds_toArray, List.set_cons_succ, List.set_cons_zero, Nat.reduceAdd, e7, e8]
  have B3 := veil (B2.out.trans (hW.mono B2.out.size))
  have Q3 := veil (Q2.out.below hW Q2.out.lt)
  have T3 := veil (T2.out.below hW)
  have G3 := veil hg
  clear hx e7 e8 hW hg Q2 T2 B2 R2 HW2
  generalize x 0 = x0
  generalize x 1 = x1
  generalize x 2 = x2
  generalize x 3 = x3
  generalize x 4 = x4
  generalize x 5 = x5
  generalize x 6 = x6
  gi_wp2_with fail
  refine ⟨trivial, (callsIn_wide.2 (macF_any (SL.mk (some ⟨g, 0, none⟩) 32 32 g 0 (pfL s.b sv)) t W3 G3.out T3.out)).mono ?_⟩
  rintro e4 w4 ⟨rfl, bb4⟩
  have B4 := veil (B3.out.trans (bb4.mono B3.out.size))
  have Q4 := veil (Q3.out.below bb4 Q3.out.lt)
  clear bb4 B3 Q3 T3 G3
  gi_wp2_with (first
    | (with_reducible (show wpListIn _ _ _ _ _ (⟨_, Op.store 23 (.tmp 6) _, _, _, _, _⟩ :: _) _ _)
       refine store_rowIn rfl 23 _ _ rfl w.heap.size (bs (macA (pfL s.b sv) t.b)) rfl rfl _ _ Q4.out 32 (by kernel_rfl) (by rfl) hRl (bs_one _) ?_))
  exact bodyPost_ret (result_row_tmp rfl _ _ w.heap.size _ _ (Q4.out.put _) 32 5 (.int .i64 (macE (pfL s.b sv) t.b)) rfl rfl Tryd.underlying23 (by kernel_rfl) hRl) rfl ⟨rfl, bSetRow B4.out (Nat.le_refl _) _⟩
theorem proof_any (s t : SL) (sv : Bool) (w : World) (hs : s.Ok w) (ht : t.Ok w) :
    Calls Tryd.prog 19 #[.slice s.a s.len s.cap, .slice t.a t.len t.cap, .bool sv] w (ProofR s.b t.b sv w) := by
  by_cases h : (s.len < 1 ∨ 256 < s.len) ∨ 1048576 < t.len
  · exact proof_no s t sv w hs ht h
  · exact proof_yes s t sv w hs ht (by omega) (by omega) (by omega)
end Go.Proofs.YtjccjlhnjihfjaaDoor
