/-
  HuffWords, walked. Written by mkwords10.py.
-/
import Derived.Test.YtdieodhfkmnbcaaHfWordsP
import Derived.Test.YtdieodhfkmnbcaaRgGuard
namespace Go.Proofs.Ytdieodhfkmnbcaa
open Go Go.RowKit

def depW1 (i : Nat) : List Nat := match i with
  | 1 => [0] | 2 => [1] | 4 => [3] | 5 => [4] | 6 => [2] | 7 => [5] | _ => []
def genW1 (a b : Nat) (sa sb : ByteArray) (i : Nat) (W : World) (v : Value) : Prop := match i with
  | 0 => v = .int .u8 (a : Int)
  | 1 => ∃ g, v = .slice (some ⟨g, 0, none⟩) 1 1 ∧ Row W g 5 #[.int .u8 (a : Int)]
  | 2 => v = .string sa
  | 3 => v = .int .u8 (b : Int)
  | 4 => ∃ g, v = .slice (some ⟨g, 0, none⟩) 1 1 ∧ Row W g 5 #[.int .u8 (b : Int)]
  | 5 => v = .string sb
  | 6 => v = .string sa
  | 7 => v = .string sb
  | _ => True
theorem genW1_mono (a b : Nat) (sa sb : ByteArray) (j : Nat) (W W' : World) (v : Value) (hb : Below W.heap.size W W') (h : genW1 a b sa sb j W v) : genW1 a b sa sb j W' v := by
  unfold genW1 at *
  split <;> simp_all only
  · obtain ⟨g, h1, h2⟩ := h
    exact ⟨g, h1, h2.below hb h2.lt⟩
  · obtain ⟨g, h1, h2⟩ := h
    exact ⟨g, h1, h2.below hb h2.lt⟩
theorem conv_one (a g : Nat) (ha : a < 256) (W : World) (hr : Row W g 5 #[.int .u8 (a : Int)]) : (convert 22 9 (.slice (some ⟨g, 0, none⟩) 1 1)).run Try.prog W = .ok (.string (strOf [BitVec.ofNat 8 a])) W := by
  refine conv_own (base := 0) (t := [BitVec.ofNat 8 a]) ⟨rfl, .inr ⟨g, 1, _, rfl, Nat.zero_le _, hr, Nat.le_refl _, by unfold maxLen; omega, rfl, ?_⟩⟩
  show [Value.int .u8 (a : Int)] = [Value.int .u8 (v8 (BitVec.ofNat 8 a))]
  unfold v8
  rw [BitVec.toNat_ofNat, Nat.mod_eq_of_lt (by omega)]
theorem exec_conv {P : Program} {a : Act} {o : Oper} (t u : TypeId) (x : Operand) (v v' : Value) (ho : o.op = .convert t u x) (hx : a.eval x = v) (W : World) (h : (convert t u v).run P W = .ok v' W) : (execOp a.eval o).run P W = .ok (.value v') W := by
  unfold execOp
  simp only [ho, hx, Sem.run_bind, h, Result.andThen_ok, Sem.run_pure]
theorem minIn_run {F : Fence} {n : Nat} {P : Program} {w : World} {ops : Array Oper} {rest : List Oper} {o : Oper} {a : Act} {Q : Exit → Act → World → Prop}
    (hg : o.guard = none) (s x : Operand) (t : TypeId) (hop : o.op = Op.call { callee := Callee.builtin Builtin.min, args := #[s, x], argTypes := #[t, t] }) (vs vx v' : Value) (hs : a.eval s = vs) (hx : a.eval x = vx)
    (hrun : (Builtin.min_ #[t, t] o.type #[vs, vx]).run P w = .ok v' w) (h : wpListIn F n P ops Q rest (a.put o.dst v') w) : wpListIn F n P ops Q (o :: rest) a w := by
  refine wpListIn_plain hg fun K hK' => ?_
  unfold Oper.wpIn
  refine ⟨?_, ?_⟩
  · simp [Oper.about, hop, resolve, Target.leads, Sem.run_pure]
  · rw [Oper.semAt_plain F _ _ (by rw [hop]; intro c hc'; cases hc')]
    simp [execOp, hop, resolve, invoke, builtin, hs, hx, hrun, Result.andThen]
    exact hK' _ _ h
theorem own_some {w : World} {B n : Nat} {v : Value} {xs : List Value} (h : w.ownsRow B 5 1 v n xs) (hn : 0 < n) : ∃ g c, v = .slice (some ⟨g, 0, none⟩) n c ∧ n ≤ c ∧ g < w.heap.size := by
  rcases h.2 with ⟨_, rfl⟩ | ⟨g, c, cur, rfl, _, hh, hc, _⟩
  · omega
  · exact ⟨g, c, rfl, hc, (Array.getElem?_eq_some_iff.1 hh).1⟩
def depW5 (i : Nat) : List Nat := match i with
  | 1 => [0]
  | 2 => [1]
  | 3 => [2, 1]
  | 4 => [1, 3]
  | 5 => [4]
  | 6 => [5]
  | 7 => [6, 5]
  | 8 => [5, 7]
  | 9 => [8]
  | 10 => [9]
  | 11 => [10, 9]
  | 12 => [9]
  | 13 => [11, 12, 9]
  | 14 => [9, 13]
  | 15 => [14]
  | 16 => [15]
  | 17 => [16, 15]
  | 18 => [15]
  | 19 => [17, 18, 15]
  | 20 => [15, 19]
  | 21 => [20]
  | 22 => [21]
  | 23 => [21]
  | 24 => [22, 23, 21]
  | 25 => [21]
  | 26 => [21]
  | 27 => [25, 26, 21]
  | 28 => [24, 27, 21]
  | 29 => [21]
  | 30 => [21]
  | 31 => [29, 30, 21]
  | 32 => [28, 31, 21]
  | 33 => [21, 32]
  | 34 => [33]
  | _ => []
def valW5 (a b N M K gx cx gy cy : Nat) (i : Nat) : Value := match i with
  | 0 => .bool true
  | 1 => .bool true
  | 2 => .int .i64 (N : Int)
  | 3 => .bool true
  | 4 => .bool true
  | 5 => .bool true
  | 6 => .int .i64 (N : Int)
  | 7 => .bool true
  | 8 => .bool true
  | 9 => .bool true
  | 10 => .slice (some ⟨gx, 0, none⟩) N cx
  | 11 => .int .i64 (N : Int)
  | 12 => .int .i64 (N : Int)
  | 13 => .bool true
  | 14 => .bool true
  | 15 => .bool true
  | 16 => .slice (some ⟨gy, 0, none⟩) M cy
  | 17 => .int .i64 (M : Int)
  | 18 => .int .i64 (M : Int)
  | 19 => .bool true
  | 20 => .bool true
  | 21 => .bool true
  | 22 => .slice (some ⟨gx, 0, none⟩) N cx
  | 23 => .int .i64 (K : Int)
  | 24 => .slice (some ⟨gx, 0, none⟩) K cx
  | 25 => .slice (some ⟨gy, 0, none⟩) M cy
  | 26 => .int .i64 (K : Int)
  | 27 => .slice (some ⟨gy, 0, none⟩) K cy
  | 28 => .bool (decide (a = b))
  | 29 => .int .u8 (a : Int)
  | 30 => .int .u8 (b : Int)
  | 31 => .bool (decide (a = b))
  | 32 => .bool true
  | 33 => .bool true
  | 34 => .bool true
  | _ => undef

set_option maxRecDepth 100000 in
set_option maxHeartbeats 2000000 in
theorem words_walk (a b : Nat) (w : World) (ha : a < 256) (hb : b < 256) : Calls Try.prog 7 #[.int .u8 (a : Int), .int .u8 (b : Int)] w fun e w' => e = .returned (.bool true) ∧ Below w.heap.size w w' := by
  refine (callsIn_wide (n := 9)).1 ?_
  refine callsIn_of_wp Try.func7 rfl trivial ?_ rfl
  simp only [Try.ntmps7, List.size_toArray, List.length_cons, List.length_nil, Nat.reduceAdd, Nat.reduceSub, Array.replicate_succ, Array.replicate_zero, List.push_toArray, List.append_toArray, List.nil_append, List.cons_append]
  gi_wp2_with fail
  refine wpIn_region_any (by kernel_rfl) ?_
  refine anyIn_gen2 (w0 := w) (genW1 a b (strOf [BitVec.ofNat 8 a]) (strOf [BitVec.ofNat 8 b])) (genW1_mono a b _ _) [12, 13, 14, 15, 16, 17, 5, 6] depW1 (by kernel_rfl) rfl (by decide) ((Below.refl _ _).drew) ?step1 ?done1
  case step1 =>
    intro x W i d hW hdi hG
    match i, hdi, hG with
    | 0, hdi, _ =>
      obtain rfl := Option.some.inj hdi
      exact OI_value rfl rfl (about_none (by intro c h; cases h)) (by intro c h; cases h) (.int .u8 (a : Int)) W (by kernel_rfl) ⟨_, rfl, Below.refl _ _, rfl⟩
    | 1, hdi, hG =>
      obtain rfl := Option.some.inj hdi
      rw [updV_self (show x 0 = _ from hG 0 (by simp [depW1]))]
      exact OI_value rfl rfl (about_none (by intro c h; cases h)) (by intro c h; cases h) (.slice (some ⟨W.heap.size, 0, none⟩) 1 1) (W.alloc (.cells #[.int .u8 (a : Int)] 5)) (by kernel_rfl) ⟨_, rfl, (Below.refl _ W).alloc (Nat.le_refl _) _, _, rfl, Row.new _ _ _⟩
    | 2, hdi, hG =>
      obtain rfl := Option.some.inj hdi
      obtain ⟨g, h1, h2⟩ := hG 1 (by simp [depW1])
      rw [updV_self (show x 1 = _ from h1)]
      exact OI_value rfl rfl (about_none (by intro c h; cases h)) (by intro c h; cases h) (.string (strOf [BitVec.ofNat 8 a])) W (exec_conv 22 9 _ _ _ rfl (by kernel_rfl) W (conv_one a g ha W h2)) ⟨_, rfl, Below.refl _ _, rfl⟩
    | 3, hdi, _ =>
      obtain rfl := Option.some.inj hdi
      exact OI_value rfl rfl (about_none (by intro c h; cases h)) (by intro c h; cases h) (.int .u8 (b : Int)) W (by kernel_rfl) ⟨_, rfl, Below.refl _ _, rfl⟩
    | 4, hdi, hG =>
      obtain rfl := Option.some.inj hdi
      rw [updV_self (show x 3 = _ from hG 3 (by simp [depW1]))]
      exact OI_value rfl rfl (about_none (by intro c h; cases h)) (by intro c h; cases h) (.slice (some ⟨W.heap.size, 0, none⟩) 1 1) (W.alloc (.cells #[.int .u8 (b : Int)] 5)) (by kernel_rfl) ⟨_, rfl, (Below.refl _ W).alloc (Nat.le_refl _) _, _, rfl, Row.new _ _ _⟩
    | 5, hdi, hG =>
      obtain rfl := Option.some.inj hdi
      obtain ⟨g, h1, h2⟩ := hG 4 (by simp [depW1])
      rw [updV_self (show x 4 = _ from h1)]
      exact OI_value rfl rfl (about_none (by intro c h; cases h)) (by intro c h; cases h) (.string (strOf [BitVec.ofNat 8 b])) W (exec_conv 22 9 _ _ _ rfl (by kernel_rfl) W (conv_one b g hb W h2)) ⟨_, rfl, Below.refl _ _, rfl⟩
    | 6, hdi, hG =>
      obtain rfl := Option.some.inj hdi
      rw [updV_self (show x 2 = _ from hG 2 (by simp [depW1]))]
      exact OI_value rfl rfl (about_none (by intro c h; cases h)) (by intro c h; cases h) (.string (strOf [BitVec.ofNat 8 a])) W (by kernel_rfl) ⟨_, rfl, Below.refl _ _, rfl⟩
    | 7, hdi, hG =>
      obtain rfl := Option.some.inj hdi
      rw [updV_self (show x 5 = _ from hG 5 (by simp [depW1]))]
      exact OI_value rfl rfl (about_none (by intro c h; cases h)) (by intro c h; cases h) (.string (strOf [BitVec.ofNat 8 b])) W (by kernel_rfl) ⟨_, rfl, Below.refl _ _, rfl⟩
    | _ + 8, hdi, _ => simp at hdi
  case done1 =>
    intro x w1 b1 hG
    have x0 := hG 0 (by decide)
    have x2 := hG 2 (by decide)
    have x3 := hG 3 (by decide)
    have x5 := hG 5 (by decide)
    have x6 := hG 6 (by decide)
    have x7 := hG 7 (by decide)
    simp only [genW1] at x0 x2 x3 x5 x6 x7
    simp only [putsV, x0, x2, x3, x5, x6, x7, Act.put, List.setIfInBounds_toArray, List.set_cons_succ, List.set_cons_zero, Nat.reduceAdd]
    generalize x 1 = y1
    generalize x 4 = y4
    clear x0 x2 x3 x5 x6 x7 hG
    have hA : (BitVec.ofNat 8 a).toNat = a := by rw [BitVec.toNat_ofNat]; omega
    have hB : (BitVec.ofNat 8 b).toNat = b := by rw [BitVec.toNat_ofNat]; omega
    have hTA : Hf.txt (bOf (strOf [BitVec.ofNat 8 a])) = Hf.wb a := by rw [bOf_strOf, Hf.txt_one, hA]
    have hTB : Hf.txt (bOf (strOf [BitVec.ofNat 8 b])) = Hf.wb b := by rw [bOf_strOf, Hf.txt_one, hB]
    have hwa := Hf.word_ok (i := a) (by omega)
    have hwb := Hf.word_ok (i := b) (by omega)
    have hlaw := words_law (BitVec.ofNat 8 a) (BitVec.ofNat 8 b)
    rw [hA, hB] at hlaw
    have hLA : (Hf.txt (bOf (strOf [BitVec.ofNat 8 a]))).length = Hf.sz a := by rw [hTA, Hf.wb_length]
    have hLB : (Hf.txt (bOf (strOf [BitVec.ofNat 8 b]))).length = Hf.sz b := by rw [hTB, Hf.wb_length]
    have hsA : (strOf [BitVec.ofNat 8 a]).size = 1 := rfl
    have hsB : (strOf [BitVec.ofNat 8 b]).size = 1 := rfl
    have hab : decide (BitVec.ofNat 8 a = BitVec.ofNat 8 b) = decide (a = b) := by
      by_cases e : a = b
      · subst e; simp
      · rw [decide_eq_false e, decide_eq_false]
        intro h
        exact e (by rw [← hA, ← hB, h])
    rw [hab] at hlaw
    have HLAW := veil hlaw
    have HTA := veil hTA
    have HTB := veil hTB
    have HLA := veil hLA
    have HLB := veil hLB
    have HSA := veil hsA
    have HSB := veil hsB
    have n5 : 5 ≤ Hf.sz a := hwa.1
    have n30 : Hf.sz a ≤ 30 := hwa.2.1
    have m5 : 5 ≤ Hf.sz b := hwb.1
    have m30 : Hf.sz b ≤ 30 := hwb.2.1
    clear hA hB hTA hTB hwa hwb hlaw hLA hLB hsA hsB hab
    generalize strOf [BitVec.ofNat 8 a] = sa at *
    generalize strOf [BitVec.ofNat 8 b] = sb at *
    generalize Hf.sz a = N at *
    generalize Hf.sz b = M at *
    gi_wp2_with fail
    refine ⟨trivial, (callsIn_wide.2 (eight_any sa w1 (by rw [HSA.out]; decide))).mono ?_⟩
    rintro e2 w2 ⟨rfl, hb2⟩
    have b2 := b1.trans (hb2.mono b1.size)
    rw [HLA.out]
    clear hb2 b1
    gi_wp2_with fail
    refine ⟨trivial, (callsIn_wide.2 (eight_any sb w2 (by rw [HSB.out]; decide))).mono ?_⟩
    rintro e3 w3 ⟨rfl, hb3⟩
    have b3 := b2.trans (hb3.mono b2.size)
    rw [HLB.out]
    clear hb3 b2
    gi_wp2_with fail
    refine ⟨trivial, (callsIn_wide.2 (lawBits_any sa N w3 (by rw [HSA.out]; decide) HLA.out.symm)).mono ?_⟩
    rintro e4 w4 ⟨v4, rfl, hown4, hb4⟩
    have b4 := b3.trans (hb4.mono b3.size)
    clear hb4 b3
    gi_wp2_with fail
    refine ⟨trivial, (callsIn_wide.2 (lawBits_any sb M w4 (by rw [HSB.out]; decide) HLB.out.symm)).mono ?_⟩
    rintro e5 w5 ⟨v5, rfl, hown5, hb5⟩
    have b5 := b4.trans (hb5.mono b4.size)
    have hown4' := own_blk hown4 (fun g hg => hb5.block g (hown4.lt g hg).2)
    rw [HTA.out] at hown4'
    rw [HTB.out] at hown5
    obtain ⟨gx, cx, rfl, hcx, hgx⟩ := own_some hown4' (by omega)
    obtain ⟨gy, cy, rfl, hcy, hgy⟩ := own_some hown5 (by omega)
    have HCX := veil (show ∀ j, j < N → w5.cell? ⟨gx, j, none⟩ = some (.int .u8 (v8 (gb (bitBytes (Hf.wb a)) j))) from fun j hj => by
      have h1 := hown4'.1
      rw [vb_length] at h1
      have := hown4'.cells (g := gx) rfl j _ (vb_get _ j (by omega))
      rwa [add_off] at this)
    have HCY := veil (show ∀ j, j < M → w5.cell? ⟨gy, j, none⟩ = some (.int .u8 (v8 (gb (bitBytes (Hf.wb b)) j))) from fun j hj => by
      have h1 := hown5.1
      rw [vb_length] at h1
      have := hown5.cells (g := gy) rfl j _ (vb_get _ j (by omega))
      rwa [add_off] at this)
    have HXL := veil (show (bitBytes (Hf.wb a)).length = N by have := hown4'.1; rw [vb_length] at this; omega)
    have HYL := veil (show (bitBytes (Hf.wb b)).length = M by have := hown5.1; rw [vb_length] at this; omega)
    obtain ⟨K, hK⟩ : ∃ K, K = min N M := ⟨_, rfl⟩
    have hKN : K ≤ N := by omega
    have hKM : K ≤ M := by omega
    have hmin := run_minH (P := Try.prog) 3 3 3 N M w5
    rw [← hK] at hmin
    rw [← hK] at HLAW
    clear hown4 hown4' hown5 hb5 b4 hK
    gi_wp2_with (with_reducible (show wpListIn _ _ _ _ _ (⟨_, Op.call { callee := .builtin .min, args := _, argTypes := _ }, _, _, _, _⟩ :: _) _ _)
                 refine minIn_run rfl _ _ 3 rfl (.int .i64 (N : Int)) (.int .i64 (M : Int)) (.int .i64 (K : Int)) rfl rfl hmin ?_)
    refine wpIn_region_any (by kernel_rfl) ?_
    refine anyIn_gen2 (w0 := w5) (fun i _ v => v = valW5 a b N M K gx cx gy cy i) (fun _ _ _ _ _ h => h) [31, 32, 33, 34, 35, 36, 37, 38, 39, 40, 41, 42, 43, 44, 45, 46, 47, 48, 49, 50, 51, 52, 53, 54, 55, 56, 57, 58, 59, 60, 61, 62, 63, 64, 4] depW5 (by kernel_rfl) rfl (by decide) ((Below.refl _ _).drew) ?step5 ?done5
    case step5 =>
      intro x W i d hW hdi hG
      match i, hdi, hG with
      | 0, hdi, _ =>
        obtain rfl := Option.some.inj hdi
        refine OI_call rfl rfl (by intro c h; cases h) 13 #[] (fun _ _ => trivial) (by kernel_rfl) (by decide) ?_
        refine (callsIn_wide.2 (alive_any W)).mono ?_
        rintro e w' ⟨rfl, hb'⟩
        exact ⟨_, rfl, _, rfl, hb', rfl⟩
      | 1, hdi, hG =>
        obtain rfl := Option.some.inj hdi
        rw [updV_self (show x 0 = _ from hG 0 (by simp [depW5]))]
        with_reducible refine OI_value2 ?_ ?_ ?_ ?_ (.bool true) W ?_ ?_
        · decide
        · kernel_rfl
        · exact (about_none (by intro c h; cases h))
        · intro c h; cases h
        · kernel_rfl
        · exact ⟨_, rfl, Below.refl _ _, rfl⟩
      | 2, hdi, hG =>
        obtain rfl := Option.some.inj hdi
        rw [updV_self (show x 1 = _ from hG 1 (by simp [depW5]))]
        with_reducible refine OI_value2 ?_ ?_ ?_ ?_ (.int .i64 (N : Int)) W ?_ ?_
        · decide
        · kernel_rfl
        · exact (about_none (by intro c h; cases h))
        · intro c h; cases h
        · kernel_rfl
        · exact ⟨_, rfl, Below.refl _ _, rfl⟩
      | 3, hdi, hG =>
        obtain rfl := Option.some.inj hdi
        rw [updV_self (show x 1 = _ from hG 1 (by simp [depW5])), updV_self (show (updV x 1 _) 2 = _ from hG 2 (by simp [depW5]))]
        with_reducible refine OI_value2 ?_ ?_ ?_ ?_ (.bool true) W ?_ ?_
        · decide
        · kernel_rfl
        · exact (about_none (by intro c h; cases h))
        · intro c h; cases h
        · exact (run_geqC _ _ _ _ N 5 n5 rfl (by kernel_rfl) (by kernel_rfl) W)
        · exact ⟨_, rfl, Below.refl _ _, rfl⟩
      | 4, hdi, hG =>
        obtain rfl := Option.some.inj hdi
        rw [updV_self (show x 1 = _ from hG 1 (by simp [depW5])), updV_self (show (updV x 1 _) 3 = _ from hG 3 (by simp [depW5]))]
        with_reducible refine OI_value2 ?_ ?_ ?_ ?_ (.bool true) W ?_ ?_
        · decide
        · kernel_rfl
        · exact (about_none (by intro c h; cases h))
        · intro c h; cases h
        · kernel_rfl
        · exact ⟨_, rfl, Below.refl _ _, rfl⟩
      | 5, hdi, hG =>
        obtain rfl := Option.some.inj hdi
        rw [updV_self (show x 4 = _ from hG 4 (by simp [depW5]))]
        with_reducible refine OI_value2 ?_ ?_ ?_ ?_ (.bool true) W ?_ ?_
        · decide
        · kernel_rfl
        · exact (about_none (by intro c h; cases h))
        · intro c h; cases h
        · kernel_rfl
        · exact ⟨_, rfl, Below.refl _ _, rfl⟩
      | 6, hdi, hG =>
        obtain rfl := Option.some.inj hdi
        rw [updV_self (show x 5 = _ from hG 5 (by simp [depW5]))]
        with_reducible refine OI_value2 ?_ ?_ ?_ ?_ (.int .i64 (N : Int)) W ?_ ?_
        · decide
        · kernel_rfl
        · exact (about_none (by intro c h; cases h))
        · intro c h; cases h
        · kernel_rfl
        · exact ⟨_, rfl, Below.refl _ _, rfl⟩
      | 7, hdi, hG =>
        obtain rfl := Option.some.inj hdi
        rw [updV_self (show x 5 = _ from hG 5 (by simp [depW5])), updV_self (show (updV x 5 _) 6 = _ from hG 6 (by simp [depW5]))]
        with_reducible refine OI_value2 ?_ ?_ ?_ ?_ (.bool true) W ?_ ?_
        · decide
        · kernel_rfl
        · exact (about_none (by intro c h; cases h))
        · intro c h; cases h
        · exact (run_leqC _ _ _ _ N 30 n30 rfl (by kernel_rfl) (by kernel_rfl) W)
        · exact ⟨_, rfl, Below.refl _ _, rfl⟩
      | 8, hdi, hG =>
        obtain rfl := Option.some.inj hdi
        rw [updV_self (show x 5 = _ from hG 5 (by simp [depW5])), updV_self (show (updV x 5 _) 7 = _ from hG 7 (by simp [depW5]))]
        with_reducible refine OI_value2 ?_ ?_ ?_ ?_ (.bool true) W ?_ ?_
        · decide
        · kernel_rfl
        · exact (about_none (by intro c h; cases h))
        · intro c h; cases h
        · kernel_rfl
        · exact ⟨_, rfl, Below.refl _ _, rfl⟩
      | 9, hdi, hG =>
        obtain rfl := Option.some.inj hdi
        rw [updV_self (show x 8 = _ from hG 8 (by simp [depW5]))]
        with_reducible refine OI_value2 ?_ ?_ ?_ ?_ (.bool true) W ?_ ?_
        · decide
        · kernel_rfl
        · exact (about_none (by intro c h; cases h))
        · intro c h; cases h
        · kernel_rfl
        · exact ⟨_, rfl, Below.refl _ _, rfl⟩
      | 10, hdi, hG =>
        obtain rfl := Option.some.inj hdi
        rw [updV_self (show x 9 = _ from hG 9 (by simp [depW5]))]
        with_reducible refine OI_value2 ?_ ?_ ?_ ?_ (.slice (some ⟨gx, 0, none⟩) N cx) W ?_ ?_
        · decide
        · kernel_rfl
        · exact (about_none (by intro c h; cases h))
        · intro c h; cases h
        · kernel_rfl
        · exact ⟨_, rfl, Below.refl _ _, rfl⟩
      | 11, hdi, hG =>
        obtain rfl := Option.some.inj hdi
        rw [updV_self (show x 9 = _ from hG 9 (by simp [depW5])), updV_self (show (updV x 9 _) 10 = _ from hG 10 (by simp [depW5]))]
        with_reducible refine OI_value2 ?_ ?_ ?_ ?_ (.int .i64 (N : Int)) W ?_ ?_
        · decide
        · kernel_rfl
        · exact (about_builtin _ _ _ rfl)
        · intro c h; cases h
        · exact (run_lenS 22 _ (some ⟨gx, 0, none⟩) N cx 5 Try.underlying22 rfl (by kernel_rfl) W)
        · exact ⟨_, rfl, Below.refl _ _, rfl⟩
      | 12, hdi, hG =>
        obtain rfl := Option.some.inj hdi
        rw [updV_self (show x 9 = _ from hG 9 (by simp [depW5]))]
        with_reducible refine OI_value2 ?_ ?_ ?_ ?_ (.int .i64 (N : Int)) W ?_ ?_
        · decide
        · kernel_rfl
        · exact (about_none (by intro c h; cases h))
        · intro c h; cases h
        · kernel_rfl
        · exact ⟨_, rfl, Below.refl _ _, rfl⟩
      | 13, hdi, hG =>
        obtain rfl := Option.some.inj hdi
        rw [updV_self (show x 9 = _ from hG 9 (by simp [depW5])), updV_self (show (updV x 9 _) 11 = _ from hG 11 (by simp [depW5])), updV_self (show (updV (updV x 9 _) 11 _) 12 = _ from hG 12 (by simp [depW5]))]
        with_reducible refine OI_value2 ?_ ?_ ?_ ?_ (.bool true) W ?_ ?_
        · decide
        · kernel_rfl
        · exact (about_none (by intro c h; cases h))
        · intro c h; cases h
        · exact (run_eqlI _ _ _ _ N rfl (by kernel_rfl) (by kernel_rfl) W)
        · exact ⟨_, rfl, Below.refl _ _, rfl⟩
      | 14, hdi, hG =>
        obtain rfl := Option.some.inj hdi
        rw [updV_self (show x 9 = _ from hG 9 (by simp [depW5])), updV_self (show (updV x 9 _) 13 = _ from hG 13 (by simp [depW5]))]
        with_reducible refine OI_value2 ?_ ?_ ?_ ?_ (.bool true) W ?_ ?_
        · decide
        · kernel_rfl
        · exact (about_none (by intro c h; cases h))
        · intro c h; cases h
        · kernel_rfl
        · exact ⟨_, rfl, Below.refl _ _, rfl⟩
      | 15, hdi, hG =>
        obtain rfl := Option.some.inj hdi
        rw [updV_self (show x 14 = _ from hG 14 (by simp [depW5]))]
        with_reducible refine OI_value2 ?_ ?_ ?_ ?_ (.bool true) W ?_ ?_
        · decide
        · kernel_rfl
        · exact (about_none (by intro c h; cases h))
        · intro c h; cases h
        · kernel_rfl
        · exact ⟨_, rfl, Below.refl _ _, rfl⟩
      | 16, hdi, hG =>
        obtain rfl := Option.some.inj hdi
        rw [updV_self (show x 15 = _ from hG 15 (by simp [depW5]))]
        with_reducible refine OI_value2 ?_ ?_ ?_ ?_ (.slice (some ⟨gy, 0, none⟩) M cy) W ?_ ?_
        · decide
        · kernel_rfl
        · exact (about_none (by intro c h; cases h))
        · intro c h; cases h
        · kernel_rfl
        · exact ⟨_, rfl, Below.refl _ _, rfl⟩
      | 17, hdi, hG =>
        obtain rfl := Option.some.inj hdi
        rw [updV_self (show x 15 = _ from hG 15 (by simp [depW5])), updV_self (show (updV x 15 _) 16 = _ from hG 16 (by simp [depW5]))]
        with_reducible refine OI_value2 ?_ ?_ ?_ ?_ (.int .i64 (M : Int)) W ?_ ?_
        · decide
        · kernel_rfl
        · exact (about_builtin _ _ _ rfl)
        · intro c h; cases h
        · exact (run_lenS 22 _ (some ⟨gy, 0, none⟩) M cy 5 Try.underlying22 rfl (by kernel_rfl) W)
        · exact ⟨_, rfl, Below.refl _ _, rfl⟩
      | 18, hdi, hG =>
        obtain rfl := Option.some.inj hdi
        rw [updV_self (show x 15 = _ from hG 15 (by simp [depW5]))]
        with_reducible refine OI_value2 ?_ ?_ ?_ ?_ (.int .i64 (M : Int)) W ?_ ?_
        · decide
        · kernel_rfl
        · exact (about_none (by intro c h; cases h))
        · intro c h; cases h
        · kernel_rfl
        · exact ⟨_, rfl, Below.refl _ _, rfl⟩
      | 19, hdi, hG =>
        obtain rfl := Option.some.inj hdi
        rw [updV_self (show x 15 = _ from hG 15 (by simp [depW5])), updV_self (show (updV x 15 _) 17 = _ from hG 17 (by simp [depW5])), updV_self (show (updV (updV x 15 _) 17 _) 18 = _ from hG 18 (by simp [depW5]))]
        with_reducible refine OI_value2 ?_ ?_ ?_ ?_ (.bool true) W ?_ ?_
        · decide
        · kernel_rfl
        · exact (about_none (by intro c h; cases h))
        · intro c h; cases h
        · exact (run_eqlI _ _ _ _ M rfl (by kernel_rfl) (by kernel_rfl) W)
        · exact ⟨_, rfl, Below.refl _ _, rfl⟩
      | 20, hdi, hG =>
        obtain rfl := Option.some.inj hdi
        rw [updV_self (show x 15 = _ from hG 15 (by simp [depW5])), updV_self (show (updV x 15 _) 19 = _ from hG 19 (by simp [depW5]))]
        with_reducible refine OI_value2 ?_ ?_ ?_ ?_ (.bool true) W ?_ ?_
        · decide
        · kernel_rfl
        · exact (about_none (by intro c h; cases h))
        · intro c h; cases h
        · kernel_rfl
        · exact ⟨_, rfl, Below.refl _ _, rfl⟩
      | 21, hdi, hG =>
        obtain rfl := Option.some.inj hdi
        rw [updV_self (show x 20 = _ from hG 20 (by simp [depW5]))]
        with_reducible refine OI_value2 ?_ ?_ ?_ ?_ (.bool true) W ?_ ?_
        · decide
        · kernel_rfl
        · exact (about_none (by intro c h; cases h))
        · intro c h; cases h
        · kernel_rfl
        · exact ⟨_, rfl, Below.refl _ _, rfl⟩
      | 22, hdi, hG =>
        obtain rfl := Option.some.inj hdi
        rw [updV_self (show x 21 = _ from hG 21 (by simp [depW5]))]
        with_reducible refine OI_value2 ?_ ?_ ?_ ?_ (.slice (some ⟨gx, 0, none⟩) N cx) W ?_ ?_
        · decide
        · kernel_rfl
        · exact (about_none (by intro c h; cases h))
        · intro c h; cases h
        · kernel_rfl
        · exact ⟨_, rfl, Below.refl _ _, rfl⟩
      | 23, hdi, hG =>
        obtain rfl := Option.some.inj hdi
        rw [updV_self (show x 21 = _ from hG 21 (by simp [depW5]))]
        with_reducible refine OI_value2 ?_ ?_ ?_ ?_ (.int .i64 (K : Int)) W ?_ ?_
        · decide
        · kernel_rfl
        · exact (about_none (by intro c h; cases h))
        · intro c h; cases h
        · kernel_rfl
        · exact ⟨_, rfl, Below.refl _ _, rfl⟩
      | 24, hdi, hG =>
        obtain rfl := Option.some.inj hdi
        rw [updV_self (show x 21 = _ from hG 21 (by simp [depW5])), updV_self (show (updV x 21 _) 22 = _ from hG 22 (by simp [depW5])), updV_self (show (updV (updV x 21 _) 22 _) 23 = _ from hG 23 (by simp [depW5]))]
        with_reducible refine OI_value2 ?_ ?_ ?_ ?_ (.slice (some ⟨gx, 0, none⟩) K cx) W ?_ ?_
        · decide
        · kernel_rfl
        · exact (about_none (by intro c h; cases h))
        · intro c h; cases h
        · exact (run_sliceH _ _ gx N cx K (by omega) rfl (by kernel_rfl) (by kernel_rfl) W)
        · exact ⟨_, rfl, Below.refl _ _, rfl⟩
      | 25, hdi, hG =>
        obtain rfl := Option.some.inj hdi
        rw [updV_self (show x 21 = _ from hG 21 (by simp [depW5]))]
        with_reducible refine OI_value2 ?_ ?_ ?_ ?_ (.slice (some ⟨gy, 0, none⟩) M cy) W ?_ ?_
        · decide
        · kernel_rfl
        · exact (about_none (by intro c h; cases h))
        · intro c h; cases h
        · kernel_rfl
        · exact ⟨_, rfl, Below.refl _ _, rfl⟩
      | 26, hdi, hG =>
        obtain rfl := Option.some.inj hdi
        rw [updV_self (show x 21 = _ from hG 21 (by simp [depW5]))]
        with_reducible refine OI_value2 ?_ ?_ ?_ ?_ (.int .i64 (K : Int)) W ?_ ?_
        · decide
        · kernel_rfl
        · exact (about_none (by intro c h; cases h))
        · intro c h; cases h
        · kernel_rfl
        · exact ⟨_, rfl, Below.refl _ _, rfl⟩
      | 27, hdi, hG =>
        obtain rfl := Option.some.inj hdi
        rw [updV_self (show x 21 = _ from hG 21 (by simp [depW5])), updV_self (show (updV x 21 _) 25 = _ from hG 25 (by simp [depW5])), updV_self (show (updV (updV x 21 _) 25 _) 26 = _ from hG 26 (by simp [depW5]))]
        with_reducible refine OI_value2 ?_ ?_ ?_ ?_ (.slice (some ⟨gy, 0, none⟩) K cy) W ?_ ?_
        · decide
        · kernel_rfl
        · exact (about_none (by intro c h; cases h))
        · intro c h; cases h
        · exact (run_sliceH _ _ gy M cy K (by omega) rfl (by kernel_rfl) (by kernel_rfl) W)
        · exact ⟨_, rfl, Below.refl _ _, rfl⟩
      | 28, hdi, hG =>
        obtain rfl := Option.some.inj hdi
        rw [updV_self (show x 21 = _ from hG 21 (by simp [depW5])), updV_self (show (updV x 21 _) 24 = _ from hG 24 (by simp [depW5])), updV_self (show (updV (updV x 21 _) 24 _) 27 = _ from hG 27 (by simp [depW5]))]
        with_reducible refine OI_call2 ?_ ?_ ?_ 16 #[.slice (some ⟨gx, 0, none⟩) K cx, .slice (some ⟨gy, 0, none⟩) K cy] ?_ ?_ ?_ ?_
        · decide
        · kernel_rfl
        · intro c h; cases h
        · exact fun _ _ => trivial
        · kernel_rfl
        · decide
        have okx : (⟨some ⟨gx, 0, none⟩, K, cx, gx, 0, (bitBytes (Hf.wb a)).take K⟩ : SL).Ok W := ⟨by rw [List.length_take, HXL.out]; show min K N = K; omega, by show K ≤ cx; omega, (fun e => by cases e), fun _ => rfl, fun _ => Nat.lt_of_lt_of_le hgx hW.size, fun j hj => by
          have hj' : j < K := hj
          show W.cell? ⟨gx, 0 + j, none⟩ = some (.int .u8 (v8 (gb ((bitBytes (Hf.wb a)).take K) j)))
          rw [Nat.zero_add, hW.cell (p := ⟨gx, j, none⟩) hgx, HCX.out j (by omega)]
          unfold gb
          rw [List.getElem?_take, if_pos hj']⟩
        have oky : (⟨some ⟨gy, 0, none⟩, K, cy, gy, 0, (bitBytes (Hf.wb b)).take K⟩ : SL).Ok W := ⟨by rw [List.length_take, HYL.out]; show min K M = K; omega, by show K ≤ cy; omega, (fun e => by cases e), fun _ => rfl, fun _ => Nat.lt_of_lt_of_le hgy hW.size, fun j hj => by
          have hj' : j < K := hj
          show W.cell? ⟨gy, 0 + j, none⟩ = some (.int .u8 (v8 (gb ((bitBytes (Hf.wb b)).take K) j)))
          rw [Nat.zero_add, hW.cell (p := ⟨gy, j, none⟩) hgy, HCY.out j (by omega)]
          unfold gb
          rw [List.getElem?_take, if_pos hj']⟩
        refine (callsIn_wide.2 (same_bool _ _ W okx oky (by show K ≤ 8388608; omega) (by show K ≤ 9223372036854775807; omega))).mono ?_
        rintro e w' ⟨rfl, hb'⟩
        exact ⟨_, rfl, _, rfl, hb', congrArg Value.bool HLAW.out⟩
      | 29, hdi, hG =>
        obtain rfl := Option.some.inj hdi
        rw [updV_self (show x 21 = _ from hG 21 (by simp [depW5]))]
        with_reducible refine OI_value2 ?_ ?_ ?_ ?_ (.int .u8 (a : Int)) W ?_ ?_
        · decide
        · kernel_rfl
        · exact (about_none (by intro c h; cases h))
        · intro c h; cases h
        · kernel_rfl
        · exact ⟨_, rfl, Below.refl _ _, rfl⟩
      | 30, hdi, hG =>
        obtain rfl := Option.some.inj hdi
        rw [updV_self (show x 21 = _ from hG 21 (by simp [depW5]))]
        with_reducible refine OI_value2 ?_ ?_ ?_ ?_ (.int .u8 (b : Int)) W ?_ ?_
        · decide
        · kernel_rfl
        · exact (about_none (by intro c h; cases h))
        · intro c h; cases h
        · kernel_rfl
        · exact ⟨_, rfl, Below.refl _ _, rfl⟩
      | 31, hdi, hG =>
        obtain rfl := Option.some.inj hdi
        rw [updV_self (show x 21 = _ from hG 21 (by simp [depW5])), updV_self (show (updV x 21 _) 29 = _ from hG 29 (by simp [depW5])), updV_self (show (updV (updV x 21 _) 29 _) 30 = _ from hG 30 (by simp [depW5]))]
        with_reducible refine OI_value2 ?_ ?_ ?_ ?_ (.bool (decide (a = b))) W ?_ ?_
        · decide
        · kernel_rfl
        · exact (about_none (by intro c h; cases h))
        · intro c h; cases h
        · exact (run_eqlU _ _ _ _ a b rfl (by kernel_rfl) (by kernel_rfl) W)
        · exact ⟨_, rfl, Below.refl _ _, rfl⟩
      | 32, hdi, hG =>
        obtain rfl := Option.some.inj hdi
        rw [updV_self (show x 21 = _ from hG 21 (by simp [depW5])), updV_self (show (updV x 21 _) 28 = _ from hG 28 (by simp [depW5])), updV_self (show (updV (updV x 21 _) 28 _) 31 = _ from hG 31 (by simp [depW5]))]
        with_reducible refine OI_value2 ?_ ?_ ?_ ?_ (.bool true) W ?_ ?_
        · decide
        · kernel_rfl
        · exact (about_none (by intro c h; cases h))
        · intro c h; cases h
        · exact (run_eqlB _ _ _ (decide (a = b)) rfl (by kernel_rfl) (by kernel_rfl) W)
        · exact ⟨_, rfl, Below.refl _ _, rfl⟩
      | 33, hdi, hG =>
        obtain rfl := Option.some.inj hdi
        rw [updV_self (show x 21 = _ from hG 21 (by simp [depW5])), updV_self (show (updV x 21 _) 32 = _ from hG 32 (by simp [depW5]))]
        with_reducible refine OI_value2 ?_ ?_ ?_ ?_ (.bool true) W ?_ ?_
        · decide
        · kernel_rfl
        · exact (about_none (by intro c h; cases h))
        · intro c h; cases h
        · kernel_rfl
        · exact ⟨_, rfl, Below.refl _ _, rfl⟩
      | 34, hdi, hG =>
        obtain rfl := Option.some.inj hdi
        rw [updV_self (show x 33 = _ from hG 33 (by simp [depW5]))]
        with_reducible refine OI_value2 ?_ ?_ ?_ ?_ (.bool true) W ?_ ?_
        · decide
        · kernel_rfl
        · exact (about_none (by intro c h; cases h))
        · intro c h; cases h
        · kernel_rfl
        · exact ⟨_, rfl, Below.refl _ _, rfl⟩
      | _ + 35, hdi, _ => simp at hdi
    case done5 =>
      intro x W bW hG
      have x34 : x 34 = .bool true := hG 34 (by decide)
      simp only [putsV, x34, Act.put, List.setIfInBounds_toArray, List.set_cons_succ, List.set_cons_zero, Nat.reduceAdd]
      have b6 := b5.trans (bW.mono b5.size)
      clear hG x34 bW b5
      gi_wp2_with fail
      go_ret
      exact ⟨rfl, b6⟩
end Go.Proofs.Ytdieodhfkmnbcaa
