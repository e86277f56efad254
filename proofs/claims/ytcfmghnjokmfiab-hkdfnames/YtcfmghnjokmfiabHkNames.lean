/-
  HkdfNames: the bytes of a key by a name are those of its info: how many they are, the name behind tls13, the context, each with its length; for all keys, of 2000 bytes at most, all names, all contexts, all numbers.
-/
import Derived.Test.YtcfmghnjokmfiabHkNamesW
import Derived.Test.YtcfmghnjokmfiabHkLift
namespace Go.Proofs.Ytcfmghnjokmfiab
open Go Go.ChangeShapes Go.WideShapes Go.ChangeAt Go.RowKit

theorem open_cells {H : Type} {enc : TypeId × Value → H} {W : World} {fuel : Nat} {cs : List Value} {x : DataW H × List MemPlace} (hf : DataW.trod enc Try.prog W 0 (fun _ => true) true fuel 22 cs = some x) :
    ∃ q : SL, cs = [.slice q.a q.len q.cap] ∧ q.Ok W := by
  rcases open_ints Try.underlying22 Try.underlying5 (by kernel_rfl) hf with ⟨hcs, hx⟩ | ⟨x, l, c, zs, hcs, _, hl, hm, hz, hx, hcell, hwz⟩
  · obtain ⟨g, off, b, hr⟩ := isRowB_of (w := W) (a := none) (len := 0) (cap := 0) (.inl ⟨rfl, rfl, rfl⟩)
    exact ⟨⟨none, 0, 0, g, off, b⟩, hcs, ⟨hr.hlen, hr.hcap, hr.hnil, hr.at_, hr.hlt, hr.hcell⟩⟩
  · have hz' : zs.length = c := by simpa using hz
    obtain ⟨g, off, b, hr⟩ := isRowB_of (w := W) (a := some x) (len := l) (cap := c) (.inr ⟨_, zs, rfl, hl, hm, hz', hcell, hwz⟩)
    exact ⟨⟨some x, l, c, g, off, b⟩, hcs, ⟨hr.hlen, hr.hcap, hr.hnil, hr.at_, hr.hlt, hr.hcell⟩⟩

theorem three_cells {l : List Value} {a b c : Value} (h : l.length = 3) (h0 : (l.drop 0).take 1 = [a]) (h1 : (l.drop 1).take 1 = [b]) (h2 : (l.drop 2).take 1 = [c]) : l = [a, b, c] := by
  match l, h with
  | [x, y, z], _ => simp at h0 h1 h2; rw [h0, h1, h2]

theorem open_name {H : Type} {enc : TypeId × Value → H} {W : World} {base : Nat} {v : Value} {d : DataW H} {ps : List MemPlace} (hval : Value.okWide Try.prog W .any base 24 v) (h0 : DataW.Trod enc Try.prog W 0 (fun _ => true) true 24 v d ps) :
    ∃ (s : ByteArray) (c : SL) (N : Int), v = .agg #[.string s, .slice c.a c.len c.cap, .int .i64 N] ∧ c.Ok W := by
  unfold Value.okWide at hval
  rw [Try.underlying24] at hval
  obtain ⟨cs, rfl, _⟩ := hval
  obtain ⟨fuel, hf⟩ := h0
  obtain ⟨xs, n, _, _, hlen, hxl, hfs⟩ := DataW.trod_struct Try.underlying24 hf
  have hl3 : Try.prog.cellsOf 24 = 3 := by kernel_rfl
  have c9 : Try.prog.cellsOf 9 = 1 := by kernel_rfl
  have c22 : Try.prog.cellsOf 22 = 1 := by kernel_rfl
  have c3 : Try.prog.cellsOf 3 = 1 := by kernel_rfl
  have e0 : DataW.trod enc Try.prog W 0 (fun _ => true) true n 9 (List.take (Try.prog.cellsOf 9) (List.drop 0 _)) = xs[0]? := hfs 0 _ rfl
  have e1 : DataW.trod enc Try.prog W 0 (fun _ => true) true n 22 (List.take (Try.prog.cellsOf 22) (List.drop 1 _)) = xs[1]? := hfs 1 _ rfl
  have e2 : DataW.trod enc Try.prog W 0 (fun _ => true) true n 3 (List.take (Try.prog.cellsOf 3) (List.drop 2 _)) = xs[2]? := hfs 2 _ rfl
  have hx3 : xs.length = 3 := hxl
  rw [c9, List.getElem?_eq_getElem (by omega)] at e0
  rw [c22, List.getElem?_eq_getElem (by omega)] at e1
  rw [c3, List.getElem?_eq_getElem (by omega)] at e2
  obtain ⟨s, hs, _⟩ := DataW.trod_string Try.underlying9 e0
  obtain ⟨c, hc, hok⟩ := open_cells e1
  obtain ⟨N, hN, _⟩ := DataW.trod_int Try.underlying3 e2
  rw [hl3] at hlen
  have := three_cells hlen hs hc hN
  refine ⟨s, c, N, ?_, hok⟩
  congr 1
  apply Array.ext'
  exact this

/-! ### The row -/
set_option maxRecDepth 100000 in
theorem names_lifted (os : Os) (started : os.Started) (H : Type) (enc : TypeId × Value → H) :
    ReturnsInHanded {} Try.checked os 3 .any (Rows.hkdfNamesSpec.pre6 enc Try.prog Try.f3 Rows.hkdfNamesRow.domain false)
      (Rows.hkdfNamesSpec.post enc Try.prog Try.f3 false true false false) := by
  refine returnsInHanded_of_change (C := Try.checked) own started (by kernel_rfl) Try.func3
    (ChangeSpec.witness6 (enc := enc) (C := Try.checked) false ⟨#[], #[.slice none 0 0, .agg #[.string .empty, .slice none 0 0, .int .i64 0]], []⟩ 8 (by kernel_rfl) (by kernel_rfl) (by kernel_rfl) (by kernel_rfl)) ?_
  intro W base args ds gs before hval0 hW _ _
  have hval : ∀ (j : Nat) t v, Try.f3.params[j]? = some t → args[j]? = some v → Value.okWide Try.prog W .any base t v := hval0
  have hW' := hW
  obtain ⟨p, q, hA0, hV, rfl, hfz, hnd⟩ := hW
  have hA : DataW.TrodAll enc Try.prog W 0 (fun _ => true) true Try.f3.params.toList args.toList ds p := hA0
  rw [Try.params3] at hA hval
  obtain ⟨v0, vs0, d0, ds0, p0, q0, hargs, rfl, rfl, h0, r0⟩ := trodAll_cons hA
  obtain ⟨v1, vs1, d1, ds1, p1, q1, rfl, rfl, rfl, h1, r1⟩ := trodAll_cons r0
  obtain ⟨rfl, rfl, rfl⟩ := trodAll_nil r1
  obtain rfl : args = #[v0, v1] := by cases args; simp_all
  obtain ⟨rfl, rfl⟩ := trodVars_none hV
  obtain ⟨k, rfl, hk, _⟩ := open_sl (hval 0 22 v0 rfl rfl) h0
  obtain ⟨s, c, N, rfl, hc⟩ := open_name (hval 1 24 v1 rfl rfl) h1
  have lt0 : ∀ x ∈ p0, x.block < W.heap.size := by obtain ⟨m, hm⟩ := h0; exact DataW.trod_lt m _ _ _ hm
  have lt1 : ∀ x ∈ p1, x.block < W.heap.size := by obtain ⟨m, hm⟩ := h1; exact DataW.trod_lt m _ _ _ hm
  clear hA0 hval0
  simp only [List.append_nil] at hW'
  refine (names_walk k c s N W hk hc).mono fun e W' ⟨he, bel⟩ => ?_
  subst he
  exact ⟨_, rfl, _, _, _, [], _, [], hW', trodAll_mk1 (shut_bool Try.underlying4 _), (trodAll_cons_mk (Below.trod laidOut (by kernel_rfl) (of_decide_eq_true (by kernel_rfl)) h0 bel lt0) (trodAll_cons_mk (Below.trod laidOut (by kernel_rfl) (of_decide_eq_true (by kernel_rfl)) h1 bel lt1) trodAll_mk0)), rfl, bel.frame _, fun h => by cases h⟩

theorem names_holds : Rows.HkdfNamesSaid :=
  OpenClaim.holds_of_wide 3 Try.f3 rfl rfl rfl rfl rfl rfl rfl ⟨rfl, rfl, rfl, rfl, rfl⟩ rfl rfl rfl rfl rfl (by kernel_rfl) Try.func3 (by kernel_rfl)
    (of_decide_eq_true (by kernel_rfl)) (by unfold Func.isWrapper; first | (rw [if_pos (by decide +kernel)]; kernel_rfl) | (rw [if_neg (by decide +kernel)]; exact ⟨rfl, rfl⟩))
    (fun os started H enc _ => names_lifted os started H enc)
#print axioms names_holds
end Go.Proofs.Ytcfmghnjokmfiab
