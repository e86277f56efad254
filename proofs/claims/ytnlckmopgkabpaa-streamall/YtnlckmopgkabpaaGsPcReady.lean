/-
  What ready tells: the bytes that can be read, one by one, each gone when the next one comes.
-/
import Derived.Test.YtnlckmopgkabpaaGsPcPut
import Derived.Test.YtnlckmopgkabpaaGs11
namespace Go.Proofs.Ytnlckmopgkabpaa
open Go Go.RowKit Go.Maps Go.Shelf

def encP (x : Nat × By) : Array Value := #[.int .u64 (x.1 : Int), .int .u8 (v8 x.2)]
def StepP (S : PS) (j : Nat) (x : Nat × By) (j' : Nat) : Prop := x.1 = S.read + j ∧ S.f (S.read + j) = some x.2 ∧ j' = j + 1
def EndP (S : PS) (j : Nat) : Prop := S.f (S.read + j) = none
structure AtP (S : PS) (B g m : Nat) (j : Nat) (W : World) : Prop where
  box : Row W B 29 #[.pointer (some ⟨g, 0, none⟩)]
  ok : PcOk W g m (Pc.mid S j)

set_option maxRecDepth 20000 in
set_option maxHeartbeats 2000000 in
theorem ready1_in (n : Nat) (hn1 : 1 ≤ n) (l : Nat) (B g m : Nat) (S : PS) (hS : S.Fine) (st : Nat → Prop) (w : World) (J : Nat → World → Prop) (Js : World → Prop) (W : World) (hR : ∀ s A, J s A → AtP S B g m s A) (hJ : ∀ s A B, J s A → Below A.heap.size A B → J s B)
    (hY : ∀ s x s' W1, StepP S s x s' → J s W1 → YieldAt Fence.wide (n - 1) Try.prog l (encP x) W1 fun e W' => (e = .returned (.bool true) ∧ J s' W' ∨ e = .returned (.bool false) ∧ Js W') ∧ KeepB w.heap.size st W1 W') (h0 : J 0 W) :
    CallsIn Fence.wide n Try.prog 40 #[.func (.yield l) #[] #[], .pointer (some ⟨B, 0, none⟩)] W fun e W' => (∃ v, e = .returned v) ∧ ((∃ s, EndP S s ∧ J s W') ∨ Js W') := by
  have HR := veil hR
  have HJ := veil hJ
  have HY := veil hY
  have HS := veil hS
  have cB : W.cell? ⟨B, 0, none⟩ = some (.pointer (some ⟨g, 0, none⟩)) := (hR 0 W h0).box.cell 0
  have c2 := (hR 0 W h0).ok.cells.2.2.1
  have e0 : ((Pc.mid S 0).read : Int) = (S.read : Int) := by show ((S.read + 0 : Nat) : Int) = _; omega
  rw [e0] at c2
  clear hR hJ hY hS e0
  refine callsIn_of_wp Try.func40 rfl trivial ?_ rfl
  simp only [Try.ntmps40, List.size_toArray, List.length_cons, List.length_nil, Nat.reduceAdd, Nat.reduceSub, Array.replicate_succ, Array.replicate_zero, List.push_toArray, List.append_toArray, List.nil_append, List.cons_append]
  gi_wp2_with fail
  clear cB c2
  gi_loopw [3] (fun av wr => ∃ j a : Nat, a = S.read + j ∧ av = .int .u64 (a : Int) ∧ J j wr)
    (fun av _ => S.come + 1 - (intOf av).toNat)
  case atStart => exact ⟨0, _, rfl, rfl, h0⟩
  case round =>
    clear h0
    obtain ⟨j, a, ha, rfl, hj⟩ := hrel
    have hat := HR.out j wr hj
    have cB : wr.cell? ⟨B, 0, none⟩ = some (.pointer (some ⟨g, 0, none⟩)) := hat.box.cell 0
    have c1 := hat.ok.cells.2.1
    have hac : a ≤ S.come := by rw [ha]; exact hat.ok.fine.rc
    have hcm := HS.out.come
    have hlk := hat.ok.map.look (k := a) (by omega)
    rw [ha, Pc.mid_at, ← ha] at hlk
    have hw : IntKind.u64.wrap ((a : Int) + 1) = ((a + 1 : Nat) : Int) := by rw [IntKind.wrap_u64]; omega
    have HJJ := veil hj
    have HA := veil ha
    clear hat hj hcm
    cases hf : S.f a with
    | none =>
      rw [hf] at hlk
      simp only [Option.isSome_none] at hlk
      have HE := veil (show EndP S j by unfold EndP; rw [← HA.out]; exact hf)
      clear hf ha hac
      gi_wp2
      refine ⟨(fun f h => by cases h), ?_⟩
      gi_wp2
      refine bodyPost_ret (results_none rfl _ _ _) rfl ?_
      exact ⟨⟨_, rfl⟩, .inl ⟨j, HE.out, HJJ.out⟩⟩
    | some y =>
      rw [hf] at hlk
      simp only [Option.isSome_some, ob] at hlk
      have hlt : a < S.come := (HS.out.held a (by rw [hf]; simp)).2
      have HLT := veil hlt
      obtain ⟨fn, tmps, assign, body, hy, hRR⟩ := HY.out j (a, y) (j + 1) wr ⟨ha, by rw [← ha]; exact hf, rfl⟩ HJJ.out
      unfold encP at hy
      simp only at hy
      have HRR := veil hRR
      clear hRR hf ha hac hlt
      generalize v8 y = yv at *
      gi_wp2_with fail
      refine HRR.out.mono ?_
      rintro e3 w3 ⟨⟨rfl, hJ3⟩ | ⟨rfl, hJ3⟩, hk3⟩
      · have HJ3 := veil hJ3
        clear hJ3 hk3
        gi_wp2
        go_roundw
        case rel => exact ⟨j + 1, a + 1, by have := HA.out; omega, by go_num, HJ3.out⟩
        case measure => have := HLT.out; simp [intOf]; omega
      · have HJ3 := veil hJ3
        clear hJ3 hk3
        gi_wp2
        refine bodyPost_ret (results_none rfl _ _ _) rfl ?_
        exact ⟨⟨_, rfl⟩, .inr HJ3.out⟩

theorem ready_tells (n : Nat) (hn1 : 1 ≤ n) (B g m : Nat) (S : PS) (hS : S.Fine) (st : Nat → Prop) (w : World) :
    TellsR Fence.wide n Try.prog 40 #[.pointer (some ⟨B, 0, none⟩)] encP st (AtP S B g m) (StepP S) (EndP S) 0 w := fun l J Js W _ hR hJ _ hY h0 =>
  ready1_in n hn1 l B g m S hS st w J Js W hR hJ hY h0

set_option maxHeartbeats 400000 in
theorem ready_in (n : Nat) (g : Nat) (w : World) :
    CallsIn Fence.wide n Try.prog 30 #[.pointer (some ⟨g, 0, none⟩)] w fun e w' => e = .returned (.func (.func 40) #[] #[.pointer (some ⟨w.heap.size, 0, none⟩)]) ∧ w' = w.alloc (.cells #[.pointer (some ⟨g, 0, none⟩)] 29) := by
  refine callsIn_of_wp Try.func30 rfl trivial ?_ rfl
  simp only [Try.ntmps30, List.size_toArray, List.length_cons, List.length_nil, Nat.reduceAdd, Nat.reduceSub, Array.replicate_succ, Array.replicate_zero, List.push_toArray, List.append_toArray, List.nil_append, List.cons_append]
  gi_wp2
  go_ret
  exact ⟨rfl, rfl⟩
end Go.Proofs.Ytnlckmopgkabpaa
