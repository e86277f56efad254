/-
  What the second form's bound gives of fields that came in.
-/
import Derived.Test.YtoajnhngcfjohaaGqTbOpen
import Derived.Test.YtoajnhngcfjohaaGqTbLast0
import Derived.Test.YtoajnhngcfjohaaRows
namespace Go.Proofs.Ytoajnhngcfjohaa
open Go Go.ChangeShapes Go.WideShapes Go.ChangeAt Go.RowKit

theorem bulk_part {H : Type} : ∀ {l : List (DataW H)} {j : Nat} {d : DataW H}, l[j]? = some d → Rows.uptoBulk d ≤ Rows.uptoBulkAll l
  | [], j, d, h => by simp at h
  | x :: l, 0, d, h => by
    simp only [List.getElem?_cons_zero, Option.some.injEq] at h
    subst h
    simp only [Rows.uptoBulkAll]
    omega
  | x :: l, j + 1, d, h => by
    rw [List.getElem?_cons_succ] at h
    have := bulk_part h
    simp only [Rows.uptoBulkAll]
    omega
theorem bulk_bound {H : Type} {l : List (DataW H)} (hk : Rows.uptoSmall H l = true) : Rows.uptoBulkAll l ≤ 1048576 := of_decide_eq_true hk
/-- As great as the fields' readings are together. -/
theorem bulk_tot {H : Type} : ∀ (l : List Tb.Fd) (ds : List (DataW H)), l.length = ds.length → (∀ (j : Nat) (f : Tb.Fd) (d : DataW H), l[j]? = some f → ds[j]? = some d → f.1.size + f.2.size + 1 ≤ Rows.uptoBulk d) → Tb.tot l ≤ Rows.uptoBulkAll ds
  | [], _, _, _ => Nat.zero_le _
  | f :: l, [], h, _ => by simp at h
  | f :: l, d :: ds, h, hj => by
    have h1 := bulk_tot l ds (by simpa using h) fun j f' d' a b => hj (j + 1) f' d' (by rw [List.getElem?_cons_succ]; exact a) (by rw [List.getElem?_cons_succ]; exact b)
    have h2 := hj 0 f d rfl rfl
    simp only [Tb.tot, Rows.uptoBulkAll]
    omega
section
variable {H : Type} {enc : TypeId × Value → H} {W : World}
set_option maxRecDepth 100000 in
theorem bulk_fd {fuel : Nat} {f : Tb.Fd} {x : DataW H × List MemPlace} (hf : DataW.trod enc Try.prog W 0 (fun _ => true) true fuel 23 f.cells.toList = some x) : f.1.size + f.2.size + 1 ≤ Rows.uptoBulk x.1 := by
  obtain ⟨xs, n, _, hxd, hlen, hxl, hfs⟩ := DataW.trod_struct Try.underlying23 hf
  have cS : Try.prog.cellsOf 9 = 1 := by kernel_rfl
  have hx : xs.length = 2 := hxl
  obtain ⟨p, q, rfl⟩ : ∃ p q, xs = [p, q] := by
    match xs, hx with
    | [p, q], _ => exact ⟨p, q, rfl⟩
  have e0 : DataW.trod enc Try.prog W 0 (fun _ => true) true n 9 (List.take (Try.prog.cellsOf 9) (List.drop 0 _)) = some p := hfs 0 _ rfl
  have e1 : DataW.trod enc Try.prog W 0 (fun _ => true) true n 9 (List.take (Try.prog.cellsOf 9) (List.drop 1 _)) = some q := hfs 1 _ rfl
  rw [cS] at e0 e1
  obtain ⟨a, h0, g0, _⟩ := DataW.trod_string Try.underlying9 e0
  obtain ⟨b, h1, g1, _⟩ := DataW.trod_string Try.underlying9 e1
  have ha : a = f.1 := by simp [Tb.Fd.cells] at h0; exact h0.symm
  have hb : b = f.2 := by simp [Tb.Fd.cells] at h1; exact h1.symm
  have hd : x.1 = .agg ([p, q].map (·.1)) := congrArg Prod.fst hxd
  rw [hd, g0, g1, ha, hb]
  simp only [List.map_cons, List.map_nil, Rows.uptoBulk, Rows.uptoBulkAll, Array.length_toList]
  show f.1.data.size + f.2.data.size + 1 ≤ _
  omega
end
end Go.Proofs.Ytoajnhngcfjohaa
