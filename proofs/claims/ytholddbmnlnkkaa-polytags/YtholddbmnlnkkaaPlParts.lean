/-
  What poly.parts tells: the numbers of the parts of bytes, one by one.
-/
import Derived.Test.YtholddbmnlnkkaaPlPart
import Derived.BigRegionIn
import Derived.Test.YtholddbmnlnkkaaHkIn
import Derived.OrdersIn
namespace Go.Proofs.Ytholddbmnlnkkaa
open Go Go.RowKit Go.Shelf
attribute [local go_sem] Oper.semAt_some

/-- The words of a number. -/
def w26 (v : Nat) : List Nat := [v % 67108864, v / 67108864 % 67108864, v / 4503599627370496 % 67108864, v / 302231454903657293676544 % 67108864, v / 20282409603651670423947251286016 % 67108864]
theorem w26_sm (v : Nat) : Sm (w26 v) := ⟨rfl, fun i => by
  match i with
  | 0 => exact Nat.mod_lt _ (by decide)
  | 1 => exact Nat.mod_lt _ (by decide)
  | 2 => exact Nat.mod_lt _ (by decide)
  | 3 => exact Nat.mod_lt _ (by decide)
  | 4 => exact Nat.mod_lt _ (by decide)
  | i + 5 => rw [gn_out (by simp [w26])]; decide⟩
theorem V5_w26 (v : Nat) (h : v < 1361129467683753853853498429727072845824) : V5 (w26 v) = v := by
  simp only [V5, w26, gn, List.getElem?_cons_zero, List.getElem?_cons_succ, Option.getD_some]
  omega
theorem sm_eq {ys : List Nat} (h : Sm ys) : ys = w26 (V5 ys) := by
  have h0 := h.lt 0
  have h1 := h.lt 1
  have h2 := h.lt 2
  have h3 := h.lt 3
  have h4 := h.lt 4
  obtain ⟨a, b, c, d, e, rfl⟩ := five h.len
  simp only [V5, w26, gn, List.getElem?_cons_zero, List.getElem?_cons_succ, Option.getD_some] at h0 h1 h2 h3 h4 ⊢
  congr 1
  · omega
  · congr 1
    · omega
    · congr 1
      · omega
      · congr 1
        · omega
        · congr 1
          omega
/-- Words as they are told. -/
abbrev Wn := { ys : List Nat // Sm ys }
def toW (v : Nat) : Wn := ⟨w26 v, w26_sm v⟩
def encW (x : Wn) : Array Value := #[.agg (ns x.1)]
/-- The i-th part. -/
def partAt (b : List By) (i : Nat) : List By := (b.drop (16 * i)).take 16
def partsTo (b : List By) (k : Nat) : List Wn := (List.range k).map fun i => toW (partN (partAt b i))
theorem partsTo_succ (b : List By) (k : Nat) : partsTo b (k + 1) = partsTo b k ++ [toW (partN (partAt b k))] := by
  unfold partsTo
  rw [List.range_succ, List.map_append]
  rfl
/-- How many parts. -/
def np (n : Nat) : Nat := (n + 15) / 16

theorem plain_builtin {F : Fence} {n : Nat} {P : Program} {ops : Array Oper} {rest : List Oper} {o : Oper} {a : Act} {w : World} {Q : Exit → Act → World → Prop} (hgd : o.guard = none) (b : Builtin) (args : Array Operand) (tys : Array TypeId) (ho : o.op = .call { callee := .builtin b, args := args, argTypes := tys }) (v : Value)
    (he : (execOp a.eval o).run P w = .ok (.value v) w) (h : wpListIn F n P ops Q rest (a.put o.dst v) w) : wpListIn F n P ops Q (o :: rest) a w :=
  wpListIn_plain hgd fun _ hK => ⟨(fun f hf => by rw [about_builtin _ _ _ ho] at hf; cases hf), (by rw [Oper.semAt_eq _ _ _ (by simp [ho]), he]; exact hK _ _ h)⟩
theorem Keep1.cell {st g o : Nat} {W W' : World} (h : Keep1 st W W') (hg : g < W.heap.size) (hne : g ≠ st) : W'.cell? ⟨g, o, none⟩ = W.cell? ⟨g, o, none⟩ := World.cell?_of_block (w := W) (h.block g hg hne)
theorem part_ok {q : SL} {w : World} (h : q.Ok w) (i m : Nat) (hi : 16 * i < q.len) (hm : m = min 16 (q.len - 16 * i)) : (SL.mk (some ⟨q.g, q.off + 16 * i, none⟩) m (q.cap - 16 * i) q.g (q.off + 16 * i) (partAt q.b i)).Ok w where
  hb := by
    show (partAt q.b i).length = m
    unfold partAt
    rw [List.length_take, List.length_drop, h.hb, hm]
  hcap := by
    show m ≤ q.cap - 16 * i
    have := h.hcap
    omega
  nil := fun e => by simp at e
  at_ := fun _ => rfl
  lt := fun _ => h.lt (by omega)
  cell := fun j hj => by
    have hj : j < m := hj
    show w.cell? ⟨q.g, q.off + 16 * i + j, none⟩ = some (.int .u8 (v8 (gb (partAt q.b i) j)))
    unfold partAt
    rw [gb_cut _ _ _ _ (by omega), Nat.add_assoc]
    exact h.cell _ (by omega)

set_option maxRecDepth 100000 in
set_option maxHeartbeats 1000000 in
theorem parts1_in (n : Nat) (hn1 : 1 ≤ n) (l Bn st : Nat) (q : SL) (hl : q.len ≤ 4194304) (J : List Wn → World → Prop)
    (W : World) (rB : Row W Bn 23 #[.slice q.a q.len q.cap]) (hq : q.Ok W) (hBs : Bn ≠ st) (hgs : 0 < q.len → q.g ≠ st)
    (hJ : ∀ s A B, J s A → Below W.heap.size A B → J s B)
    (hY : ∀ pre x W1, J pre W1 → YieldAt Fence.wide (n - 1) Try.prog l (encW x) W1 fun e W' => e = .returned (.bool true) ∧ J (pre ++ [x]) W' ∧ Keep1 st W1 W')
    (h0 : J [] W) :
    CallsIn Fence.wide n Try.prog 29 #[.func (.yield l) #[] #[], .pointer (some ⟨Bn, 0, none⟩)] W fun e W' => (∃ v, e = .returned v) ∧ J (partsTo q.b (np q.len)) W' := by
  have HQ := veil hq
  have HR := veil rB
  have HJ := veil hJ
  have HY := veil hY
  have HG := veil hgs
  have hcap := hq.hcap
  obtain ⟨N, hN⟩ : ∃ N, N = q.len := ⟨_, rfl⟩
  obtain ⟨C, hC⟩ : ∃ C, C = q.cap := ⟨_, rfl⟩
  have HN := veil hN
  have HC := veil hC
  have HA := veil hq.at_
  have HL := veil hq.lt
  rw [← hN, ← hC] at hcap
  rw [← hN] at hl
  clear hq rB hJ hY hgs hN hC
  refine callsIn_of_wp Try.func29 rfl trivial ?_ rfl
  simp only [Try.ntmps29, List.size_toArray, List.length_cons, List.length_nil, Nat.reduceAdd, Nat.reduceSub, Array.replicate_succ, Array.replicate_zero, List.push_toArray, List.append_toArray, List.nil_append, List.cons_append]
  gi_wp2_with fail
  gi_loopw [3] (fun iv wr => ∃ i : Nat, 16 * i < N + 16 ∧ iv = .int .i64 ((16 * i : Nat) : Int) ∧ J (partsTo q.b i) wr ∧ Keep1 st W wr)
    (fun iv _ => N + 16 - (intOf iv).toNat)
  case atStart => exact ⟨0, by omega, rfl, h0, Keep1.refl _ _⟩
  case round =>
    clear h0
    obtain ⟨i, hi, rfl, hJi, hkp⟩ := hrel
    have hsz := hkp.size
    have HJi := veil hJi
    have HKP := veil hkp
    have cB : wr.cell? ⟨Bn, 0, none⟩ = some (.slice q.a N C) := by
      rw [HN.out, HC.out]
      exact (hkp.row HR.out hBs).cell 0
    clear hJi hkp
    by_cases hlt : 16 * i < N
    · have hdk : decide (((16 * i : Nat) : Int) < (N : Int)) = true := by simp; omega
      obtain ⟨m, hm⟩ : ∃ m, m = min 16 (N - 16 * i) := ⟨_, rfl⟩
      have hm16 : m ≤ 16 := by omega
      have hmN : 16 * i + m ≤ N := by omega
      have e := HA.out (by rw [← HN.out]; omega)
      rw [e] at cB
      have hqw : q.Ok wr := by
        refine HQ.out.same (fun p => HKP.out.block _ (HL.out p) (HG.out p)) hsz
      have hok := part_ok hqw i m (by rw [← HN.out]; exact hlt) (by rw [← HN.out]; exact hm)
      rw [← HC.out] at hok
      have HOK := veil hok
      clear hqw hok
      have hHM := veil hm
      clear hm
      gi_wp2_with (first
        | (with_reducible (show wpListIn _ _ _ _ _ (⟨_, Op.call { callee := .builtin .min, args := _, argTypes := _ }, _, _, _, _⟩ :: _) _ _)
           refine plain_builtin rfl .min _ _ rfl (.int .i64 ((16 * i + m : Nat) : Int)) ?hmin ?_
           case hmin => (go_simp; have := hHM.out; split <;> omega)))
      refine ⟨trivial, (callsIn_wide.2 (partNumber_any _ wr HOK.out hm16)).mono ?_⟩
      rintro e3 w3 ⟨ys, rfl, hsm, hv, hb3⟩
      have hys : ys = (toW (partN (partAt q.b i))).1 := by
        rw [sm_eq hsm, hv]
        rfl
      have J3 := HJ.out _ _ _ HJi.out (hb3.mono hsz)
      obtain ⟨fn, tmps, assign, body, hy, hR⟩ := HY.out (partsTo q.b i) (toW (partN (partAt q.b i))) w3 J3
      unfold encW at hy
      rw [← hys] at hy
      rw [← partsTo_succ] at hR
      have k3 : Keep1 st W w3 := HKP.out.trans (Keep1.of_below hb3)
      have K3 := veil k3
      clear hsm hv hys J3 hb3 k3
      gi_wp2_with fail
      refine hR.mono ?_
      rintro e W5 ⟨rfl, hJ5, hk5⟩
      gi_wp2
      go_roundw
      case rel => exact ⟨i + 1, by omega, by go_num, hJ5, K3.out.trans hk5⟩
      case measure => simp only [intOf]; omega
    · have hdk : decide (((16 * i : Nat) : Int) < (N : Int)) = false := by simp; omega
      have HE : Hid (np q.len = i) := show _ = _ by rw [← HN.out]; unfold np; omega
      gi_wp2
      go_end0
      exact ⟨⟨_, rfl⟩, by rw [HE.out]; exact HJi.out⟩

theorem parts_tells (n : Nat) (hn1 : 1 ≤ n) (Bn st : Nat) (q : SL) (hl : q.len ≤ 4194304) (w : World) (rB : Row w Bn 23 #[.slice q.a q.len q.cap]) (hq : q.Ok w) (hBs : Bn ≠ st) (hgs : 0 < q.len → q.g ≠ st) :
    Tells Fence.wide n Try.prog 29 #[.pointer (some ⟨Bn, 0, none⟩)] encW st (partsTo q.b (np q.len)) w := fun l J W hW hJ hY h0 =>
  parts1_in n hn1 l Bn st q hl J W (rB.below hW rB.lt) (hq.below hW) hBs hgs hJ hY h0

set_option maxHeartbeats 400000 in
theorem parts_in (n : Nat) (a : Option Addr) (len cap : Nat) (w : World) :
    CallsIn Fence.wide n Try.prog 16 #[.slice a len cap] w fun e w' => e = .returned (.func (.func 29) #[] #[.pointer (some ⟨w.heap.size, 0, none⟩)]) ∧ w' = w.alloc (.cells #[.slice a len cap] 23) := by
  refine callsIn_of_wp Try.func16 rfl trivial ?_ rfl
  simp only [Try.ntmps16, List.size_toArray, List.length_cons, List.length_nil, Nat.reduceAdd, Nat.reduceSub, Array.replicate_succ, Array.replicate_zero, List.push_toArray, List.append_toArray, List.nil_append, List.cons_append]
  gi_wp2
  go_ret
  exact ⟨rfl, rfl⟩
end Go.Proofs.Ytholddbmnlnkkaa
