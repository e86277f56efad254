/-
  Out of ShaLiftA, ShaLiftS, RgOpen, FrOpen.
-/
import Derived.Test.YtaighdppemnglaaGreatDoorGf1
import Derived.Test.YtaighdppemnglaaGreatDoorRows
import Derived.ProofKit
import Derived.OpenShut
import Derived.ShutString
import Derived.ChangeOld
import Derived.Test.YtaighdppemnglaaGreatDoorGf3
import Derived.Test.YtaighdppemnglaaGreatDoorGf5
import Derived.SizedLaws

/-! From what a row says of an array that came in to the words and bytes of the walks. -/
namespace Go.Proofs.YtaighdppemnglaaGreatDoor
open Go Go.ChangeShapes Go.WideShapes Go.ChangeAt Go.RowKit

theorem own : ownKnob Tryz.prog.godebug = none := by kernel_rfl
theorem laidOut : laidOutB Tryz.prog = true := by kernel_rfl

section
variable {H : Type} {enc : TypeId × Value → H} {P : Program} {w : World} {base : Nat} {spare : Nat → Bool} {held : Bool}

/-- An array of numbers, by its cells. -/
theorem open_array {r : Reach} {b0 : Nat} {t e : TypeId} {n : Nat} {k : IntKind} {v : Value} {d : DataW H} {ps : List MemPlace} (hu : P.underlying t = some (.array n e)) (he : P.underlying e = some (.int k)) (hce : P.cellsOf e = 1) (hct : P.cellsOf t = n)
    (hval : Value.okWide P w r b0 t v) (hd : DataW.Trod enc P w base spare held t v d ps) :
    ∃ cs : Array Value, v = .agg cs ∧ cs.size = n ∧ ∀ j, j < n → ∃ z, cs[j]? = some (.int k z) ∧ (Lit.int k z).wf = true := by
  unfold Value.okWide at hval
  rw [hu] at hval
  obtain ⟨cs, rfl, hsz, _⟩ := hval
  obtain ⟨fuel, hf⟩ := hd
  obtain ⟨xs, m, _, _, _, hl, hel⟩ := DataW.trod_array hu hf
  refine ⟨cs, rfl, by rw [hsz, hct], fun j hj => ?_⟩
  have h1 := hel j hj
  rw [List.getElem?_eq_getElem (by rw [hl]; exact hj), hce] at h1
  obtain ⟨z, hz, _, hw⟩ := DataW.trod_int he h1
  refine ⟨z, ?_, hw⟩
  have h2 := congrArg (·[0]?) hz
  simp only [List.getElem?_take, List.getElem?_drop, Nat.mul_one, Nat.add_zero, Nat.zero_lt_one, if_true, List.getElem?_cons_zero] at h2
  simpa [Value.cells] using h2

theorem open_words {r : Reach} {b0 : Nat} {t e : TypeId} {n : Nat} {v : Value} {d : DataW H} {ps : List MemPlace} (hu : P.underlying t = some (.array n e)) (he : P.underlying e = some (.int .u32)) (hce : P.cellsOf e = 1) (hct : P.cellsOf t = n)
    (hval : Value.okWide P w r b0 t v) (hd : DataW.Trod enc P w base spare held t v d ps) : ∃ s : List Wd, v = .agg (ws s) ∧ s.length = n := by
  obtain ⟨cs, rfl, hsz, hc⟩ := open_array hu he hce hct hval hd
  refine ⟨cs.toList.map fun v => wd (intOf v), ?_, by simp [hsz]⟩
  congr 1
  apply Array.ext
  · simp [ws]
  · intro j h1 h2
    obtain ⟨z, hz, hw⟩ := hc j (by omega)
    have hb := bounds_u32 hw
    rw [Array.getElem?_eq_getElem h1] at hz
    have hz' := Option.some.inj hz
    simp only [ws, List.map_map, List.getElem_toArray, List.getElem_map, Array.getElem_toList, Function.comp, hz', intOf]
    rw [u_wd z hb.1 (by omega)]

theorem open_bytes {r : Reach} {b0 : Nat} {t e : TypeId} {n : Nat} {v : Value} {d : DataW H} {ps : List MemPlace} (hu : P.underlying t = some (.array n e)) (he : P.underlying e = some (.int .u8)) (hce : P.cellsOf e = 1) (hct : P.cellsOf t = n)
    (hval : Value.okWide P w r b0 t v) (hd : DataW.Trod enc P w base spare held t v d ps) : ∃ b : List By, v = .agg (bs b) ∧ b.length = n := by
  obtain ⟨cs, rfl, hsz, hc⟩ := open_array hu he hce hct hval hd
  refine ⟨cs.toList.map fun v => BitVec.ofNat 8 (intOf v).toNat, ?_, by simp [hsz]⟩
  congr 1
  apply Array.ext
  · simp [bs]
  · intro j h1 h2
    obtain ⟨z, hz, hw⟩ := hc j (by omega)
    have hb := bounds_u8 hw
    rw [Array.getElem?_eq_getElem h1] at hz
    have hz' := Option.some.inj hz
    simp only [bs, List.map_map, List.getElem_toArray, List.getElem_map, Array.getElem_toList, Function.comp, hz', intOf]
    have : v8 (BitVec.ofNat 8 z.toNat) = z := by
      unfold v8
      rw [BitVec.toNat_ofNat]
      omega
    rw [this]
end
end Go.Proofs.YtaighdppemnglaaGreatDoor

/-! A slice of bytes that came in, as the walks ask it. -/
namespace Go.Proofs.YtaighdppemnglaaGreatDoor
open Go Go.ChangeShapes Go.WideShapes Go.ChangeAt Go.RowKit

structure IsRowB (w : World) (a : Option Addr) (len cap g off : Nat) (b : List By) : Prop where
  hlen : b.length = len
  hmost : len ≤ 9223372036854775807
  hcap : len ≤ cap
  hnil : a = none → len = 0 ∧ cap = 0
  at_ : 0 < len → a = some ⟨g, off, none⟩
  hlt : 0 < len → g < w.heap.size
  hcell : ∀ j : Nat, j < len → w.cell? ⟨g, off + j, none⟩ = some (.int .u8 (v8 (gb b j)))

theorem isRowB_of {w : World} {a : Option Addr} {len cap : Nat} (h : (a = none ∧ len = 0 ∧ cap = 0) ∨ ∃ (x : Addr) (zs : List Int), a = some x ∧ len ≤ cap ∧ cap ≤ maxLen ∧ zs.length = cap ∧ (∀ i, i < zs.length → w.cell? (x.add i) = some (.int .u8 (zs.getD i 0))) ∧ ∀ n ∈ zs, (Lit.int .u8 n).wf = true) :
    ∃ g off b, IsRowB w a len cap g off b := by
  rcases h with ⟨rfl, rfl, rfl⟩ | ⟨x, zs, rfl, hl, hm, hz, hc, hw⟩
  · exact ⟨0, 0, [], rfl, by omega, Nat.le_refl _, fun _ => ⟨rfl, rfl⟩, fun h => by omega, fun h => by omega, fun j h => by omega⟩
  · unfold maxLen at hm
    obtain ⟨g, off, spot⟩ := x
    have hlen : ((zs.take len).map fun z => (BitVec.ofNat 8 z.toNat : By)).length = len := by rw [List.length_map, List.length_take]; omega
    have hsp : 0 < len → spot = none := fun h0 => by
      have hc0 := hc 0 (by omega)
      simpa [Addr.add] using World.cell?_spot hc0
    have hcell : ∀ j : Nat, j < len → w.cell? ⟨g, off + j, none⟩ = some (.int .u8 (v8 (gb ((zs.take len).map fun z => (BitVec.ofNat 8 z.toNat : By)) j))) := fun j hj => by
      obtain rfl := hsp (by omega)
      have h1 := hc j (by omega)
      rw [add_at] at h1
      rw [h1]
      have hjz : j < zs.length := by omega
      have hmem : zs[j]'hjz ∈ zs := List.getElem_mem hjz
      have hb := bounds_u8 (hw _ hmem)
      unfold gb v8
      rw [List.getElem?_map, List.getElem?_take_of_lt hj, List.getElem?_eq_getElem hjz, List.getD_eq_getElem?_getD, List.getElem?_eq_getElem hjz]
      simp only [Option.map_some, Option.getD_some, BitVec.toNat_ofNat]
      congr 2
      omega
    refine ⟨g, off, (zs.take len).map fun z => (BitVec.ofNat 8 z.toNat : By), hlen, by omega, hl, fun h => (by cases h), fun h => by rw [hsp h], fun h => ?_, hcell⟩
    have h1 := hcell 0 h
    rcases Nat.lt_or_ge g w.heap.size with h2 | h2
    · exact h2
    · exfalso
      simp [World.cell?, Array.getElem?_eq_none h2] at h1
end Go.Proofs.YtaighdppemnglaaGreatDoor

/-! Ranges that came in. -/
namespace Go.Proofs.YtaighdppemnglaaGreatDoor
open Go Go.ChangeShapes Go.WideShapes Go.ChangeAt Go.RowKit

theorem pick_list {α : Type} {Pr : Nat → α → Prop} : ∀ (n : Nat), (∀ i, i < n → ∃ r, Pr i r) → ∃ l : List α, l.length = n ∧ ∀ i, i < n → ∃ r, l[i]? = some r ∧ Pr i r
  | 0, _ => ⟨[], rfl, fun i hi => absurd hi (Nat.not_lt_zero _)⟩
  | n + 1, h => by
    obtain ⟨l, h1, h2⟩ := pick_list n (fun i hi => h i (by omega))
    obtain ⟨r, hr⟩ := h n (by omega)
    refine ⟨l ++ [r], by rw [List.length_append, h1]; rfl, fun i hi => ?_⟩
    rcases Nat.lt_or_ge i n with q | q
    · obtain ⟨r', h3, h4⟩ := h2 i q
      exact ⟨r', by rw [List.getElem?_append_left (by omega)]; exact h3, h4⟩
    · obtain rfl : i = n := by omega
      exact ⟨r, by rw [List.getElem?_append_right (by omega), h1, Nat.sub_self]; rfl, hr⟩
section
variable {H : Type} {enc : TypeId × Value → H} {W : World}
theorem open_u64 {fuel : Nat} {cs : List Value} {x : DataW H × List MemPlace} (hf : DataW.trod enc Tryz.prog W 0 (fun _ => true) true fuel 34 cs = some x) : ∃ n : Nat, cs = [.int .u64 (n : Int)] ∧ n < 18446744073709551616 := by
  obtain ⟨n, h1, _, h3⟩ := DataW.trod_int Tryz.underlying34 hf
  have hb := bounds_u64 h3
  exact ⟨n.toNat, by rw [h1, Int.toNat_of_nonneg hb.1], by omega⟩
theorem two_cells {l : List Value} {a b : Value} (h : l.length = 2) (h0 : (l.drop 0).take 1 = [a]) (h1 : (l.drop 1).take 1 = [b]) : l = [a, b] := by
  match l, h with
  | [x, y], _ => simp at h0 h1; rw [h0, h1]
set_option maxRecDepth 100000 in
theorem open_rg {fuel : Nat} {cs : List Value} {x : DataW H × List MemPlace} (hf : DataW.trod enc Tryz.prog W 0 (fun _ => true) true fuel 114 cs = some x) :
    ∃ r : Nat × Nat, cs = [.int .u64 (r.1 : Int), .int .u64 (r.2 : Int)] ∧ r.1 < 18446744073709551616 ∧ r.2 < 18446744073709551616 := by
  obtain ⟨xs, n, _, hxd, hlen, hxl, hfs⟩ := DataW.trod_struct Tryz.underlying114 hf
  have hl : Tryz.prog.cellsOf 114 = 2 := by kernel_rfl
  have c1 : Tryz.prog.cellsOf 34 = 1 := by kernel_rfl
  have e0 : DataW.trod enc Tryz.prog W 0 (fun _ => true) true n 34 (List.take (Tryz.prog.cellsOf 34) (List.drop 0 _)) = xs[0]? := hfs 0 _ rfl
  have e1 : DataW.trod enc Tryz.prog W 0 (fun _ => true) true n 34 (List.take (Tryz.prog.cellsOf 34) (List.drop 1 _)) = xs[1]? := hfs 1 _ rfl
  have hx : xs.length = 2 := hxl
  rw [c1, List.getElem?_eq_getElem (by omega)] at e0
  rw [c1, List.getElem?_eq_getElem (by omega)] at e1
  obtain ⟨n0, h0, b0⟩ := open_u64 e0
  obtain ⟨n1, h1, b1⟩ := open_u64 e1
  rw [hl] at hlen
  exact ⟨(n0, n1), two_cells hlen h0 h1, b0, b1⟩
set_option maxRecDepth 100000 in
theorem open_rl7 {fuel : Nat} {cs : List Value} {x : DataW H × List MemPlace} (hf : DataW.trod enc Tryz.prog W 0 (fun _ => true) true fuel 35 cs = some x) :
    ∃ q : RL, cs = [.slice q.a q.len q.cap] ∧ q.Ok W ∧ ((∀ m ∈ x.1.weights Tryz.prog 35, m ≤ reachBytes) → q.len ≤ 140737488355328) := by
  rcases DataW.trod_slice Tryz.underlying35 hf with ⟨hcs, hx⟩ | ⟨a, len, cap, elems, rest, n, _, hcs, hx, _, hl, hm, hlen, hel, hsp, _⟩
  · exact ⟨⟨none, 0, 0, 0, 0, []⟩, hcs, ⟨rfl, Nat.le_refl _, fun _ => ⟨rfl, rfl⟩, fun p => absurd p (Nat.lt_irrefl _), fun p => absurd p (Nat.lt_irrefl _), fun _ h => absurd h (Nat.not_lt_zero _), fun _ => ⟨by show (0 : Nat) < _; decide, by show (0 : Nat) < _; decide⟩⟩, fun _ => Nat.zero_le _⟩
  · have hc2 : Tryz.prog.cellsOf 114 = 2 := by kernel_rfl
    have each : ∀ i, i < len → ∃ r : Nat × Nat, W.cell? ((a.add (i * 2)).add 0) = some (.int .u64 (r.1 : Int)) ∧ W.cell? ((a.add (i * 2)).add 1) = some (.int .u64 (r.2 : Int)) ∧ r.1 < 18446744073709551616 ∧ r.2 < 18446744073709551616 := by
      intro i hi
      have h := hel i hi
      rw [hc2, List.getElem?_eq_getElem (by omega), Option.bind_eq_some_iff] at h
      obtain ⟨cs', h1, h2⟩ := h
      obtain ⟨_, h3, h4⟩ := World.cells?_some h1
      obtain ⟨r, h5, h6, h7⟩ := open_rg h2
      rw [h5] at h4
      exact ⟨r, h4 0 (by decide), h4 1 (by decide), h6, h7⟩
    obtain ⟨l, hll, hl2⟩ := pick_list len each
    obtain ⟨g, off, spot⟩ := a
    have hspot : 0 < len → spot = none := fun p => by
      obtain ⟨r, h1, _⟩ := each 0 p
      have := World.cell?_spot h1
      simpa [Addr.add] using this
    refine ⟨⟨some ⟨g, off, spot⟩, len, cap, g, off, l⟩, hcs, ⟨hll, hl, (fun e => by cases e), fun p => by rw [hspot p], fun p => ?_, fun j hj => ?_, fun j => ?_⟩, fun hw => ?_⟩
    · obtain rfl := hspot p
      obtain ⟨r, h1, _⟩ := each 0 p
      rcases Nat.lt_or_ge g W.heap.size with q | q
      · exact q
      · exfalso
        simp [World.cell?, Addr.add, Array.getElem?_eq_none q] at h1
    · have hj' : j < len := hj
      obtain rfl := hspot (by omega)
      obtain ⟨r, h0, h1, h2, _⟩ := hl2 j hj'
      have e : gr l j = r := by unfold gr; rw [h0]; rfl
      rw [Addr.add_mid, Addr.add_mid] at h1 h2
      show W.cell? ⟨g, off + j * 2, none⟩ = some (.int .u64 ((gr l j).1 : Int)) ∧ W.cell? ⟨g, off + j * 2 + 1, none⟩ = some (.int .u64 ((gr l j).2 : Int))
      rw [e]
      exact ⟨by rw [← h1, Nat.add_zero], h2⟩
    · show (gr l j).1 < _ ∧ (gr l j).2 < _
      rcases Nat.lt_or_ge j len with q | q
      · obtain ⟨r, h0, _, _, h3, h4⟩ := hl2 j q
        have e : gr l j = r := by unfold gr; rw [h0]; rfl
        rw [e]
        exact ⟨h3, h4⟩
      · have e : gr l j = (0, 0) := by unfold gr; rw [List.getElem?_eq_none (by omega)]; rfl
        rw [e]
        exact ⟨by decide, by decide⟩
    · have e : x.1 = .slice (elems.map (·.1)) (rest.map (·.1)) := congrArg Prod.fst hx
      rw [e] at hw
      have h := hw _ (show ((elems.map (·.1)).length + (rest.map (·.1)).length) * Tryz.prog.bytesOf 114 ∈ _ by simp [DataW.weights, Tryz.underlying35])
      have hb : Tryz.prog.bytesOf 114 = 16 := by kernel_rfl
      rw [hb] at h
      have hr47 := reachBytes_lt
      simp only [List.length_map] at h
      show len ≤ _
      omega
end
section
variable {H : Type} {enc : TypeId × Value → H} {W : World} {base : Nat} {v : Value} {d : DataW H} {ps : List MemPlace}
set_option maxRecDepth 20000 in
theorem open_rl (hval : Value.okWide Tryz.prog W .any base 35 v) (h0 : DataW.Trod enc Tryz.prog W 0 (fun _ => true) true 35 v d ps) :
    ∃ q : RL, v = .slice q.a q.len q.cap ∧ q.Ok W ∧ ((∀ m ∈ d.weights Tryz.prog 35, m ≤ reachBytes) → q.len ≤ 140737488355328) := by
  obtain ⟨a0, len0, cap0, rfl⟩ := okWide_slice Tryz.underlying35 hval
  obtain ⟨fuel, hf⟩ := h0
  obtain ⟨q, hcs, h⟩ := open_rl7 hf
  refine ⟨q, ?_, h⟩
  have hcs' : [Value.slice a0 len0 cap0] = [Value.slice q.a q.len q.cap] := hcs
  exact List.head_eq_of_cons_eq hcs'
set_option maxRecDepth 20000 in
theorem open_u7 (hval : Value.okWide Tryz.prog W .any base 34 v) (h0 : DataW.Trod enc Tryz.prog W 0 (fun _ => true) true 34 v d ps) : ∃ n : Nat, v = .int .u64 (n : Int) ∧ n < 18446744073709551616 := by
  obtain ⟨a, rfl, _, _, hw⟩ := open_int Tryz.underlying34 hval h0
  have hb := bounds_u64 hw
  exact ⟨a.toNat, by rw [Int.toNat_of_nonneg hb.1], by omega⟩
set_option maxRecDepth 20000 in
theorem open_range (hval : Value.okWide Tryz.prog W .any base 114 v) (h0 : DataW.Trod enc Tryz.prog W 0 (fun _ => true) true 114 v d ps) : ∃ x y : Nat, v = .agg #[.int .u64 (x : Int), .int .u64 (y : Int)] ∧ x < 18446744073709551616 ∧ y < 18446744073709551616 := by
  unfold Value.okWide at hval
  rw [Tryz.underlying114] at hval
  obtain ⟨cs, rfl, hsz, _⟩ := hval
  obtain ⟨fuel, hf⟩ := h0
  obtain ⟨r, hcs, h1, h2⟩ := open_rg hf
  refine ⟨r.1, r.2, ?_, h1, h2⟩
  have hcs' : cs.toList = [.int .u64 (r.1 : Int), .int .u64 (r.2 : Int)] := hcs
  congr 1
  apply Array.ext'
  exact hcs'
end
end Go.Proofs.YtaighdppemnglaaGreatDoor

/-! Bytes, ranges and frames that came in. -/
namespace Go.Proofs.YtaighdppemnglaaGreatDoor
open Go Go.ChangeShapes Go.WideShapes Go.ChangeAt Go.RowKit

theorem weights_mem_all {H : Type} {P : Program} {e : TypeId} : ∀ {ds : List (DataW H)} {j : Nat} {d : DataW H}, ds[j]? = some d → ∀ n ∈ d.weights P e, n ∈ DataW.weightsAll P e ds
  | d0 :: ds, 0, d, hd, n, hn => by
    simp only [List.getElem?_cons_zero, Option.some.injEq] at hd
    subst hd
    simp only [DataW.weightsAll, List.mem_append]
    exact Or.inl hn
  | d0 :: ds, j + 1, d, hd, n, hn => by
    rw [List.getElem?_cons_succ] at hd
    simp only [DataW.weightsAll, List.mem_append]
    exact Or.inr (weights_mem_all hd n hn)
section
variable {H : Type} {enc : TypeId × Value → H} {W : World}
set_option maxRecDepth 100000 in
theorem open_sl7 {fuel : Nat} {cs : List Value} {x : DataW H × List MemPlace} (hf : DataW.trod enc Tryz.prog W 0 (fun _ => true) true fuel 26 cs = some x) :
    ∃ q : SL, cs = [.slice q.a q.len q.cap] ∧ q.Ok W ∧ (0 < q.len → q.Told) ∧ ((∀ m ∈ x.1.weights Tryz.prog 26, m ≤ reachBytes) → q.len ≤ 140737488355328) := by
  rcases open_ints Tryz.underlying26 Tryz.underlying5 (by kernel_rfl) hf with ⟨hcs, hx⟩ | ⟨x0, l, c, zs, hcs, _, hl, hm, hz, hx, hcell, hwz⟩
  · obtain ⟨g, off, b, hr⟩ := isRowB_of (w := W) (a := none) (len := 0) (cap := 0) (.inl ⟨rfl, rfl, rfl⟩)
    exact ⟨⟨none, 0, 0, g, off, b⟩, hcs, ⟨hr.hlen, hr.hcap, hr.hnil, hr.at_, hr.hlt, hr.hcell⟩, fun p => absurd p (Nat.lt_irrefl _), fun _ => Nat.zero_le _⟩
  · have hz' : zs.length = c := by simpa using hz
    obtain ⟨g, off, b, hr⟩ := isRowB_of (w := W) (a := some x0) (len := l) (cap := c) (.inr ⟨_, zs, rfl, hl, hm, hz', hcell, hwz⟩)
    refine ⟨⟨some x0, l, c, g, off, b⟩, hcs, ⟨hr.hlen, hr.hcap, hr.hnil, hr.at_, hr.hlt, hr.hcell⟩, fun p q hq => ?_, fun hw => ?_⟩
    · have := hr.at_ p
      have e1 : some x0 = some q := hq
      rw [this] at e1
      exact (Option.some.inj e1).symm
    have e : x.1 = .slice (lits .u8 (zs.take l)) (lits .u8 (zs.drop l)) := congrArg Prod.fst hx
    rw [e] at hw
    have h := hw _ (show ((lits .u8 (zs.take l) : List (DataW H)).length + (lits .u8 (zs.drop l) : List (DataW H)).length) * Tryz.prog.bytesOf 5 ∈ _ by simp [DataW.weights, Tryz.underlying26])
    have hb : Tryz.prog.bytesOf 5 = 1 := by kernel_rfl
    rw [hb] at h
    have hr47 := reachBytes_lt
    simp only [lits, List.length_map, List.length_take, List.length_drop] at h
    show l ≤ _
    omega
theorem eight_cells {l : List Value} {a b c d e f g h : Value} (hl : l.length = 8) (h0 : (l.drop 0).take 1 = [a]) (h1 : (l.drop 1).take 1 = [b]) (h2 : (l.drop 2).take 1 = [c]) (h3 : (l.drop 3).take 1 = [d]) (h4 : (l.drop 4).take 1 = [e]) (h5 : (l.drop 5).take 1 = [f]) (h6 : (l.drop 6).take 1 = [g]) (h7 : (l.drop 7).take 1 = [h]) : l = [a, b, c, d, e, f, g, h] := by
  match l, hl with
  | [x0, x1, x2, x3, x4, x5, x6, x7], _ => simp at h0 h1 h2 h3 h4 h5 h6 h7; rw [h0, h1, h2, h3, h4, h5, h6, h7]
set_option maxRecDepth 100000 in
theorem open_fr7 {fuel : Nat} {cs : List Value} {x : DataW H × List MemPlace} (hf : DataW.trod enc Tryz.prog W 0 (fun _ => true) true fuel 37 cs = some x) :
    ∃ f : FrM, cs = f.cells.toList ∧ f.Ok W ∧ ((∀ m ∈ x.1.weights Tryz.prog 37, m ≤ reachBytes) → f.data.len ≤ 140737488355328 ∧ f.ranges.len ≤ 140737488355328) := by
  obtain ⟨xs, n, _, hxd, hlen, hxl, hfs⟩ := DataW.trod_struct Tryz.underlying37 hf
  have hl : Tryz.prog.cellsOf 37 = 8 := by kernel_rfl
  have cU : Tryz.prog.cellsOf 34 = 1 := by kernel_rfl
  have cK : Tryz.prog.cellsOf 33 = 1 := by kernel_rfl
  have cB : Tryz.prog.cellsOf 4 = 1 := by kernel_rfl
  have cD : Tryz.prog.cellsOf 26 = 1 := by kernel_rfl
  have cR : Tryz.prog.cellsOf 35 = 1 := by kernel_rfl
  have hx : xs.length = 8 := hxl
  have e0 : DataW.trod enc Tryz.prog W 0 (fun _ => true) true n 33 (List.take (Tryz.prog.cellsOf 33) (List.drop 0 _)) = xs[0]? := hfs 0 _ rfl
  have e1 : DataW.trod enc Tryz.prog W 0 (fun _ => true) true n 34 (List.take (Tryz.prog.cellsOf 34) (List.drop 1 _)) = xs[1]? := hfs 1 _ rfl
  have e2 : DataW.trod enc Tryz.prog W 0 (fun _ => true) true n 34 (List.take (Tryz.prog.cellsOf 34) (List.drop 2 _)) = xs[2]? := hfs 2 _ rfl
  have e3 : DataW.trod enc Tryz.prog W 0 (fun _ => true) true n 34 (List.take (Tryz.prog.cellsOf 34) (List.drop 3 _)) = xs[3]? := hfs 3 _ rfl
  have e4 : DataW.trod enc Tryz.prog W 0 (fun _ => true) true n 34 (List.take (Tryz.prog.cellsOf 34) (List.drop 4 _)) = xs[4]? := hfs 4 _ rfl
  have e5 : DataW.trod enc Tryz.prog W 0 (fun _ => true) true n 4 (List.take (Tryz.prog.cellsOf 4) (List.drop 5 _)) = xs[5]? := hfs 5 _ rfl
  have e6 : DataW.trod enc Tryz.prog W 0 (fun _ => true) true n 26 (List.take (Tryz.prog.cellsOf 26) (List.drop 6 _)) = xs[6]? := hfs 6 _ rfl
  have e7 : DataW.trod enc Tryz.prog W 0 (fun _ => true) true n 35 (List.take (Tryz.prog.cellsOf 35) (List.drop 7 _)) = xs[7]? := hfs 7 _ rfl
  rw [cK, List.getElem?_eq_getElem (by omega)] at e0
  rw [cU, List.getElem?_eq_getElem (by omega)] at e1 e2 e3 e4
  rw [cB, List.getElem?_eq_getElem (by omega)] at e5
  rw [cD, List.getElem?_eq_getElem (by omega)] at e6
  rw [cR, List.getElem?_eq_getElem (by omega)] at e7
  obtain ⟨k0, h0, _, w0⟩ := DataW.trod_int Tryz.underlying33 e0
  obtain ⟨n1, h1, b1⟩ := open_u64 e1
  obtain ⟨n2, h2, b2⟩ := open_u64 e2
  obtain ⟨n3, h3, b3⟩ := open_u64 e3
  obtain ⟨n4, h4, b4⟩ := open_u64 e4
  obtain ⟨b5, h5, _⟩ := DataW.trod_bool Tryz.underlying4 e5
  obtain ⟨sd, h6, ok6, _, hw6⟩ := open_sl7 e6
  obtain ⟨sr, h7, ok7, hw7⟩ := open_rl7 e7
  have hb0 := bounds_u8 w0
  rw [hl] at hlen
  have hd : x.1 = .agg (xs.map (·.1)) := congrArg Prod.fst hxd
  refine ⟨⟨k0.toNat, n1, n2, n3, n4, b5, sd, sr⟩, ?_, ⟨ok6, ok7, by show k0.toNat < 256; omega, b1, b2, b3, b4⟩, fun hw => ⟨hw6 fun m hm => hw m ?_, hw7 fun m hm => hw m ?_⟩⟩
  · rw [eight_cells hlen h0 h1 h2 h3 h4 h5 h6 h7]
    unfold FrM.cells
    simp only
    rw [Int.toNat_of_nonneg hb0.1]
  all_goals
    rw [hd]
    unfold DataW.weights
    rw [Tryz.underlying37]
  · refine DataW.weights_mem_each (j := 6) (t := 26) rfl (d := (xs[6]'(by omega)).1) ?_ m hm
    rw [List.getElem?_map, List.getElem?_eq_getElem (by omega)]
    rfl
  · refine DataW.weights_mem_each (j := 7) (t := 35) rfl (d := (xs[7]'(by omega)).1) ?_ m hm
    rw [List.getElem?_map, List.getElem?_eq_getElem (by omega)]
    rfl
set_option maxRecDepth 100000 in
theorem open_fs7 {fuel : Nat} {cs : List Value} {x : DataW H × List MemPlace} (hf : DataW.trod enc Tryz.prog W 0 (fun _ => true) true fuel 22 cs = some x) :
    ∃ q : FS, cs = [.slice q.a q.len q.cap] ∧ q.Ok W ∧ ((∀ m ∈ x.1.weights Tryz.prog 22, m ≤ reachBytes) → q.len ≤ 140737488355328 ∧ ∀ j, j < q.len → (gf q.l j).data.len ≤ 140737488355328 ∧ (gf q.l j).ranges.len ≤ 140737488355328) := by
  rcases DataW.trod_slice Tryz.underlying22 hf with ⟨hcs, hx⟩ | ⟨a, len, cap, elems, rest, n, _, hcs, hx, _, hl, hm, hlen, hel, hsp, _⟩
  · exact ⟨⟨none, 0, 0, 0, 0, []⟩, hcs, ⟨rfl, Nat.le_refl _, fun _ => ⟨rfl, rfl⟩, fun p => absurd p (Nat.lt_irrefl _), fun p => absurd p (Nat.lt_irrefl _), fun _ h => absurd h (Nat.not_lt_zero _), fun _ h => absurd h (Nat.not_lt_zero _)⟩, fun _ => ⟨Nat.zero_le _, fun _ h => absurd h (Nat.not_lt_zero _)⟩⟩
  · have hc8 : Tryz.prog.cellsOf 37 = 8 := by kernel_rfl
    have each : ∀ i, i < len → ∃ f : FrM, (∀ j, j < 8 → W.cell? ((a.add (i * 8)).add j) = f.cells.toList[j]?) ∧ f.Ok W ∧ ∃ e, elems[i]? = some e ∧ ((∀ m ∈ e.1.weights Tryz.prog 37, m ≤ reachBytes) → f.data.len ≤ 140737488355328 ∧ f.ranges.len ≤ 140737488355328) := by
      intro i hi
      have h := hel i hi
      rw [hc8, List.getElem?_eq_getElem (by omega), Option.bind_eq_some_iff] at h
      obtain ⟨cs', h1, h2⟩ := h
      obtain ⟨_, h3, h4⟩ := World.cells?_some h1
      obtain ⟨f, h5, h6, h7⟩ := open_fr7 h2
      rw [h5] at h4
      exact ⟨f, h4, h6, _, List.getElem?_eq_getElem (by omega), h7⟩
    obtain ⟨l, hll, hl2⟩ := pick_list len each
    obtain ⟨g, off, spot⟩ := a
    have hspot : 0 < len → spot = none := fun p => by
      obtain ⟨f, h1, _⟩ := each 0 p
      have := World.cell?_spot (h1 0 (by decide))
      simpa [Addr.add] using this
    have getl : ∀ j, j < len → ∃ f, gf l j = f ∧ (∀ i, i < 8 → W.cell? (((⟨g, off, spot⟩ : Addr).add (j * 8)).add i) = f.cells.toList[i]?) ∧ f.Ok W ∧ ∃ e, elems[j]? = some e ∧ ((∀ m ∈ e.1.weights Tryz.prog 37, m ≤ reachBytes) → f.data.len ≤ 140737488355328 ∧ f.ranges.len ≤ 140737488355328) := by
      intro j hj
      obtain ⟨f, h0, h1⟩ := hl2 j hj
      exact ⟨f, by unfold gf; rw [h0]; rfl, h1⟩
    refine ⟨⟨some ⟨g, off, spot⟩, len, cap, g, off, l⟩, hcs, ⟨hll, hl, (fun e => by cases e), fun p => by rw [hspot p], fun p => ?_, fun j hj => ?_, fun j hj => ?_⟩, fun hw => ?_⟩
    · obtain rfl := hspot p
      obtain ⟨f, h1, _⟩ := each 0 p
      have h2 := h1 0 (by decide)
      rcases Nat.lt_or_ge g W.heap.size with q | q
      · exact q
      · exfalso
        simp [World.cell?, Addr.add, Array.getElem?_eq_none q, FrM.cells] at h2
    · have hj' : j < len := hj
      obtain rfl := hspot (by omega)
      obtain ⟨f, e, h1, _⟩ := getl j hj'
      show W.rangeAt g (off + j * 8) (gf l j).cells.toList
      rw [e]
      intro i u hu
      have hi : i < 8 := by have := (List.getElem?_eq_some_iff.1 hu).1; exact this
      have := h1 i hi
      rw [Addr.add_mid, Addr.add_mid] at this
      rw [this]
      exact hu
    · obtain ⟨f, e, _, h2, _⟩ := getl j hj
      show (gf l j).Ok W
      rw [e]
      exact h2
    · have e : x.1 = .slice (elems.map (·.1)) (rest.map (·.1)) := congrArg Prod.fst hx
      rw [e] at hw
      refine ⟨?_, fun j hj => ?_⟩
      · have h := hw _ (show ((elems.map (·.1)).length + (rest.map (·.1)).length) * Tryz.prog.bytesOf 37 ∈ _ by simp [DataW.weights, Tryz.underlying22])
        have hb : Tryz.prog.bytesOf 37 = 96 := by kernel_rfl
        rw [hb] at h
        have hr47 := reachBytes_lt
        simp only [List.length_map] at h
        show len ≤ _
        omega
      · obtain ⟨f, e2, _, _, y, hy, h3⟩ := getl j hj
        show (gf l j).data.len ≤ _ ∧ (gf l j).ranges.len ≤ _
        rw [e2]
        refine h3 fun m hm => hw m ?_
        unfold DataW.weights
        rw [Tryz.underlying22]
        refine List.mem_cons_of_mem _ (List.mem_append_left _ (weights_mem_all (j := j) (d := y.1) ?_ m hm))
        rw [List.getElem?_map, hy]
        rfl
end
end Go.Proofs.YtaighdppemnglaaGreatDoor
