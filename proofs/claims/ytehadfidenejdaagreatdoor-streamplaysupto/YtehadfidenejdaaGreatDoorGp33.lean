/-
  Out of ShaLiftS, RgOpen, SpOpen, RgDoorZ.
-/
import Derived.Test.YtehadfidenejdaaGreatDoorGp32
import Derived.Test.YtehadfidenejdaaGreatDoorGp15
import Derived.Test.YtehadfidenejdaaGreatDoorGp1
import Derived.SizedLaws
import Derived.OpenShut
import Derived.Test.YtehadfidenejdaaGreatDoorGp30
import Derived.Test.YtehadfidenejdaaGreatDoorRows
import Derived.Test.YtehadfidenejdaaGreatDoorTie
import Derived.Test.YtehadfidenejdaaGreatDoorCards
import Derived.ProofKit
import Derived.LaidMore
import Derived.LaidHandle
import Derived.ShutString
import Derived.ChangeOld
import Derived.Stop.Joined
import Derived.Stop.LaidErr
import Derived.Lib.LaidTab
import Derived.SevenTiedAt

/-! A slice of bytes that came in, as the walks ask it. -/
namespace Go.Proofs.YtehadfidenejdaaGreatDoor
open Go Go.ChangeShapes Go.WideShapes Go.ChangeAt Go.RowKit

structure IsRowB (w : World) (a : Option Addr) (len cap g off : Nat) (b : List By) : Prop where
  hlen : b.length = len
  hmost : len ≤ 9223372036854775807
  hcap : len ≤ cap
  hnil : a = none → len = 0 ∧ cap = 0
  at_ : 0 < len → a = some ⟨g, off, none⟩
  hlt : 0 < len → g < w.heap.size
  hcell : ∀ j : Nat, j < len → w.cell? ⟨g, off + j, none⟩ = some (.int .u8 (v8 (gb b j)))

theorem isRowB_of {w : World} {a : Option Addr} {len cap : Nat} (h : (a = none ∧ len = 0 ∧ cap = 0) ∨ ∃ (x : Addr) (zs : List Int), a = some x ∧ len ≤ cap ∧ cap ≤ maxLen ∧ zs.length = cap ∧ (∀ i, i < zs.length → w.cell? (x.add i) = some (.int .u8 (zs.getD i 0))) ∧ ∀ n ∈ zs, (Lit.int .u8 n).wf = true) :
    ∃ g off b, IsRowB w a len cap g off b := by
  rcases h with ⟨rfl, rfl, rfl⟩ | ⟨x, zs, rfl, hl, hm, hz, hc, hw⟩
  · exact ⟨0, 0, [], rfl, by omega, Nat.le_refl _, fun _ => ⟨rfl, rfl⟩, fun h => by omega, fun h => by omega, fun j h => by omega⟩
  · unfold maxLen at hm
    obtain ⟨g, off, spot⟩ := x
    have hlen : ((zs.take len).map fun z => (BitVec.ofNat 8 z.toNat : By)).length = len := by rw [List.length_map, List.length_take]; omega
    have hsp : 0 < len → spot = none := fun h0 => by
      have hc0 := hc 0 (by omega)
      simpa [Addr.add] using World.cell?_spot hc0
    have hcell : ∀ j : Nat, j < len → w.cell? ⟨g, off + j, none⟩ = some (.int .u8 (v8 (gb ((zs.take len).map fun z => (BitVec.ofNat 8 z.toNat : By)) j))) := fun j hj => by
      obtain rfl := hsp (by omega)
      have h1 := hc j (by omega)
      rw [add_at] at h1
      rw [h1]
      have hjz : j < zs.length := by omega
      have hmem : zs[j]'hjz ∈ zs := List.getElem_mem hjz
      have hb := bounds_u8 (hw _ hmem)
      unfold gb v8
      rw [List.getElem?_map, List.getElem?_take_of_lt hj, List.getElem?_eq_getElem hjz, List.getD_eq_getElem?_getD, List.getElem?_eq_getElem hjz]
      simp only [Option.map_some, Option.getD_some, BitVec.toNat_ofNat]
      congr 2
      omega
    refine ⟨g, off, (zs.take len).map fun z => (BitVec.ofNat 8 z.toNat : By), hlen, by omega, hl, fun h => (by cases h), fun h => by rw [hsp h], fun h => ?_, hcell⟩
    have h1 := hcell 0 h
    rcases Nat.lt_or_ge g w.heap.size with h2 | h2
    · exact h2
    · exfalso
      simp [World.cell?, Array.getElem?_eq_none h2] at h1
end Go.Proofs.YtehadfidenejdaaGreatDoor

/-! Ranges that came in. -/
namespace Go.Proofs.YtehadfidenejdaaGreatDoor
open Go Go.ChangeShapes Go.WideShapes Go.ChangeAt Go.RowKit

theorem pick_list {α : Type} {Pr : Nat → α → Prop} : ∀ (n : Nat), (∀ i, i < n → ∃ r, Pr i r) → ∃ l : List α, l.length = n ∧ ∀ i, i < n → ∃ r, l[i]? = some r ∧ Pr i r
  | 0, _ => ⟨[], rfl, fun i hi => absurd hi (Nat.not_lt_zero _)⟩
  | n + 1, h => by
    obtain ⟨l, h1, h2⟩ := pick_list n (fun i hi => h i (by omega))
    obtain ⟨r, hr⟩ := h n (by omega)
    refine ⟨l ++ [r], by rw [List.length_append, h1]; rfl, fun i hi => ?_⟩
    rcases Nat.lt_or_ge i n with q | q
    · obtain ⟨r', h3, h4⟩ := h2 i q
      exact ⟨r', by rw [List.getElem?_append_left (by omega)]; exact h3, h4⟩
    · obtain rfl : i = n := by omega
      exact ⟨r, by rw [List.getElem?_append_right (by omega), h1, Nat.sub_self]; rfl, hr⟩
section
variable {H : Type} {enc : TypeId × Value → H} {W : World}
theorem open_u64 {fuel : Nat} {cs : List Value} {x : DataW H × List MemPlace} (hf : DataW.trod enc Tryz.prog W 0 (fun _ => true) true fuel 22 cs = some x) : ∃ n : Nat, cs = [.int .u64 (n : Int)] ∧ n < 18446744073709551616 := by
  obtain ⟨n, h1, _, h3⟩ := DataW.trod_int Tryz.underlying22 hf
  have hb := bounds_u64 h3
  exact ⟨n.toNat, by rw [h1, Int.toNat_of_nonneg hb.1], by omega⟩
theorem two_cells {l : List Value} {a b : Value} (h : l.length = 2) (h0 : (l.drop 0).take 1 = [a]) (h1 : (l.drop 1).take 1 = [b]) : l = [a, b] := by
  match l, h with
  | [x, y], _ => simp at h0 h1; rw [h0, h1]
set_option maxRecDepth 100000 in
theorem open_rg {fuel : Nat} {cs : List Value} {x : DataW H × List MemPlace} (hf : DataW.trod enc Tryz.prog W 0 (fun _ => true) true fuel 93 cs = some x) :
    ∃ r : Nat × Nat, cs = [.int .u64 (r.1 : Int), .int .u64 (r.2 : Int)] ∧ r.1 < 18446744073709551616 ∧ r.2 < 18446744073709551616 := by
  obtain ⟨xs, n, _, hxd, hlen, hxl, hfs⟩ := DataW.trod_struct Tryz.underlying93 hf
  have hl : Tryz.prog.cellsOf 93 = 2 := by kernel_rfl
  have c1 : Tryz.prog.cellsOf 22 = 1 := by kernel_rfl
  have e0 : DataW.trod enc Tryz.prog W 0 (fun _ => true) true n 22 (List.take (Tryz.prog.cellsOf 22) (List.drop 0 _)) = xs[0]? := hfs 0 _ rfl
  have e1 : DataW.trod enc Tryz.prog W 0 (fun _ => true) true n 22 (List.take (Tryz.prog.cellsOf 22) (List.drop 1 _)) = xs[1]? := hfs 1 _ rfl
  have hx : xs.length = 2 := hxl
  rw [c1, List.getElem?_eq_getElem (by omega)] at e0
  rw [c1, List.getElem?_eq_getElem (by omega)] at e1
  obtain ⟨n0, h0, b0⟩ := open_u64 e0
  obtain ⟨n1, h1, b1⟩ := open_u64 e1
  rw [hl] at hlen
  exact ⟨(n0, n1), two_cells hlen h0 h1, b0, b1⟩
set_option maxRecDepth 100000 in
theorem open_rl7 {fuel : Nat} {cs : List Value} {x : DataW H × List MemPlace} (hf : DataW.trod enc Tryz.prog W 0 (fun _ => true) true fuel 26 cs = some x) :
    ∃ q : RL, cs = [.slice q.a q.len q.cap] ∧ q.Ok W ∧ ((∀ m ∈ x.1.weights Tryz.prog 26, m ≤ reachBytes) → q.len ≤ 140737488355328) := by
  rcases DataW.trod_slice Tryz.underlying26 hf with ⟨hcs, hx⟩ | ⟨a, len, cap, elems, rest, n, _, hcs, hx, _, hl, hm, hlen, hel, hsp, _⟩
  · exact ⟨⟨none, 0, 0, 0, 0, []⟩, hcs, ⟨rfl, Nat.le_refl _, fun _ => ⟨rfl, rfl⟩, fun p => absurd p (Nat.lt_irrefl _), fun p => absurd p (Nat.lt_irrefl _), fun _ h => absurd h (Nat.not_lt_zero _), fun _ => ⟨by show (0 : Nat) < _; decide, by show (0 : Nat) < _; decide⟩⟩, fun _ => Nat.zero_le _⟩
  · have hc2 : Tryz.prog.cellsOf 93 = 2 := by kernel_rfl
    have each : ∀ i, i < len → ∃ r : Nat × Nat, W.cell? ((a.add (i * 2)).add 0) = some (.int .u64 (r.1 : Int)) ∧ W.cell? ((a.add (i * 2)).add 1) = some (.int .u64 (r.2 : Int)) ∧ r.1 < 18446744073709551616 ∧ r.2 < 18446744073709551616 := by
      intro i hi
      have h := hel i hi
      rw [hc2, List.getElem?_eq_getElem (by omega), Option.bind_eq_some_iff] at h
      obtain ⟨cs', h1, h2⟩ := h
      obtain ⟨_, h3, h4⟩ := World.cells?_some h1
      obtain ⟨r, h5, h6, h7⟩ := open_rg h2
      rw [h5] at h4
      exact ⟨r, h4 0 (by decide), h4 1 (by decide), h6, h7⟩
    obtain ⟨l, hll, hl2⟩ := pick_list len each
    obtain ⟨g, off, spot⟩ := a
    have hspot : 0 < len → spot = none := fun p => by
      obtain ⟨r, h1, _⟩ := each 0 p
      have := World.cell?_spot h1
      simpa [Addr.add] using this
    refine ⟨⟨some ⟨g, off, spot⟩, len, cap, g, off, l⟩, hcs, ⟨hll, hl, (fun e => by cases e), fun p => by rw [hspot p], fun p => ?_, fun j hj => ?_, fun j => ?_⟩, fun hw => ?_⟩
    · obtain rfl := hspot p
      obtain ⟨r, h1, _⟩ := each 0 p
      rcases Nat.lt_or_ge g W.heap.size with q | q
      · exact q
      · exfalso
        simp [World.cell?, Addr.add, Array.getElem?_eq_none q] at h1
    · have hj' : j < len := hj
      obtain rfl := hspot (by omega)
      obtain ⟨r, h0, h1, h2, _⟩ := hl2 j hj'
      have e : gr l j = r := by unfold gr; rw [h0]; rfl
      rw [Addr.add_mid, Addr.add_mid] at h1 h2
      show W.cell? ⟨g, off + j * 2, none⟩ = some (.int .u64 ((gr l j).1 : Int)) ∧ W.cell? ⟨g, off + j * 2 + 1, none⟩ = some (.int .u64 ((gr l j).2 : Int))
      rw [e]
      exact ⟨by rw [← h1, Nat.add_zero], h2⟩
    · show (gr l j).1 < _ ∧ (gr l j).2 < _
      rcases Nat.lt_or_ge j len with q | q
      · obtain ⟨r, h0, _, _, h3, h4⟩ := hl2 j q
        have e : gr l j = r := by unfold gr; rw [h0]; rfl
        rw [e]
        exact ⟨h3, h4⟩
      · have e : gr l j = (0, 0) := by unfold gr; rw [List.getElem?_eq_none (by omega)]; rfl
        rw [e]
        exact ⟨by decide, by decide⟩
    · have e : x.1 = .slice (elems.map (·.1)) (rest.map (·.1)) := congrArg Prod.fst hx
      rw [e] at hw
      have h := hw _ (show ((elems.map (·.1)).length + (rest.map (·.1)).length) * Tryz.prog.bytesOf 93 ∈ _ by simp [DataW.weights, Tryz.underlying26])
      have hb : Tryz.prog.bytesOf 93 = 16 := by kernel_rfl
      rw [hb] at h
      have hr47 := reachBytes_lt
      simp only [List.length_map] at h
      show len ≤ _
      omega
end
section
variable {H : Type} {enc : TypeId × Value → H} {W : World} {base : Nat} {v : Value} {d : DataW H} {ps : List MemPlace}
set_option maxRecDepth 20000 in
theorem open_u7 (hval : Value.okWide Tryz.prog W .any base 22 v) (h0 : DataW.Trod enc Tryz.prog W 0 (fun _ => true) true 22 v d ps) : ∃ n : Nat, v = .int .u64 (n : Int) ∧ n < 18446744073709551616 := by
  obtain ⟨a, rfl, _, _, hw⟩ := open_int Tryz.underlying22 hval h0
  have hb := bounds_u64 hw
  exact ⟨a.toNat, by rw [Int.toNat_of_nonneg hb.1], by omega⟩
end
end Go.Proofs.YtehadfidenejdaaGreatDoor

/-! Acts of StreamPlays that came in, and how long their lists are. -/
namespace Go.Proofs.YtehadfidenejdaaGreatDoor
open Go Go.ChangeShapes Go.WideShapes Go.ChangeAt Go.RowKit

theorem bulk_one {H : Type} (d : DataW H) : 1 ≤ Rows.uptoBulk d := by
  cases d with
  | lit l => cases l <;> simp [Rows.uptoBulk]
  | nil => simp [Rows.uptoBulk]
  | ptr d => simp [Rows.uptoBulk]
  | slice elems spare => simp [Rows.uptoBulk]
  | agg parts => simp [Rows.uptoBulk]
  | iface t d => simp [Rows.uptoBulk]
  | map entries => simp [Rows.uptoBulk]
  | held h => simp [Rows.uptoBulk]
theorem bulk_part {H : Type} : ∀ {l : List (DataW H)} {j : Nat} {d : DataW H}, l[j]? = some d → Rows.uptoBulk d ≤ Rows.uptoBulkAll l
  | [], j, d, h => by simp at h
  | x :: l, 0, d, h => by
    simp only [List.getElem?_cons_zero, Option.some.injEq] at h
    subst h
    simp only [Rows.uptoBulkAll]
    omega
  | x :: l, j + 1, d, h => by
    rw [List.getElem?_cons_succ] at h
    have := bulk_part h
    simp only [Rows.uptoBulkAll]
    omega
theorem bulk_length {H : Type} : ∀ (l : List (DataW H)), l.length ≤ Rows.uptoBulkAll l
  | [] => Nat.zero_le _
  | x :: l => by
    have := bulk_length l
    have := bulk_one x
    simp only [Rows.uptoBulkAll, List.length_cons]
    omega
theorem bulk_slice {H : Type} (elems spare : List (DataW H)) : elems.length ≤ Rows.uptoBulk (.slice elems spare) ∧ Rows.uptoBulkAll elems ≤ Rows.uptoBulk (.slice elems spare) := by
  have h1 := bulk_length elems
  simp only [Rows.uptoBulk]
  omega
theorem bulk_bound {H : Type} {l : List (DataW H)} (hk : Rows.uptoSmall H l = true) : Rows.uptoBulkAll l ≤ 1048576 := of_decide_eq_true hk
section
variable {H : Type} {enc : TypeId × Value → H} {W : World}
/-- A list of ranges is as long as its reading. -/
theorem bulk_rl {fuel : Nat} {v : Value} {len : Nat} {a : Option Addr} {cap : Nat} {x : DataW H × List MemPlace} (hf : DataW.trod enc Tryz.prog W 0 (fun _ => true) true fuel 26 [v] = some x) (hv : v = .slice a len cap) : len ≤ Rows.uptoBulk x.1 := by
  subst hv
  rcases DataW.trod_slice Tryz.underlying26 hf with ⟨hcs, _⟩ | ⟨a', len', cap', elems, rest, n, _, hcs, hx, _, hl, hm, hlen, hel, hsp, _⟩
  · injection hcs with hcs
    injection hcs with _ h2
    rw [h2]
    exact Nat.zero_le _
  · injection hcs with hcs
    injection hcs with _ h2
    have e : x.1 = .slice (elems.map (·.1)) (rest.map (·.1)) := congrArg Prod.fst hx
    have := (bulk_slice (elems.map (·.1)) (rest.map (·.1))).1
    rw [List.length_map] at this
    rw [h2, e]
    omega
/-- A list of bytes is as long as its reading. -/
theorem bulk_sl {fuel : Nat} {v : Value} {len : Nat} {a : Option Addr} {cap : Nat} {x : DataW H × List MemPlace} (hf : DataW.trod enc Tryz.prog W 0 (fun _ => true) true fuel 24 [v] = some x) (hv : v = .slice a len cap) : len ≤ Rows.uptoBulk x.1 := by
  subst hv
  rcases DataW.trod_slice Tryz.underlying24 hf with ⟨hcs, _⟩ | ⟨a', len', cap', elems, rest, n, _, hcs, hx, _, hl, hm, hlen, hel, hsp, _⟩
  · injection hcs with hcs
    injection hcs with _ h2
    rw [h2]
    exact Nat.zero_le _
  · injection hcs with hcs
    injection hcs with _ h2
    have e : x.1 = .slice (elems.map (·.1)) (rest.map (·.1)) := congrArg Prod.fst hx
    have := (bulk_slice (elems.map (·.1)) (rest.map (·.1))).1
    rw [List.length_map] at this
    rw [h2, e]
    omega
set_option maxRecDepth 100000 in
theorem open_sl7 {fuel : Nat} {cs : List Value} {x : DataW H × List MemPlace} (hf : DataW.trod enc Tryz.prog W 0 (fun _ => true) true fuel 24 cs = some x) :
    ∃ q : SL, cs = [.slice q.a q.len q.cap] ∧ q.Ok W ∧ (0 < q.len → q.Told) ∧ ((∀ m ∈ x.1.weights Tryz.prog 24, m ≤ reachBytes) → q.len ≤ 140737488355328) := by
  rcases open_ints Tryz.underlying24 Tryz.underlying5 (by kernel_rfl) hf with ⟨hcs, hx⟩ | ⟨x0, l, c, zs, hcs, _, hl, hm, hz, hx, hcell, hwz⟩
  · obtain ⟨g, off, b, hr⟩ := isRowB_of (w := W) (a := none) (len := 0) (cap := 0) (.inl ⟨rfl, rfl, rfl⟩)
    exact ⟨⟨none, 0, 0, g, off, b⟩, hcs, ⟨hr.hlen, hr.hcap, hr.hnil, hr.at_, hr.hlt, hr.hcell⟩, fun p => absurd p (Nat.lt_irrefl _), fun _ => Nat.zero_le _⟩
  · have hz' : zs.length = c := by simpa using hz
    obtain ⟨g, off, b, hr⟩ := isRowB_of (w := W) (a := some x0) (len := l) (cap := c) (.inr ⟨_, zs, rfl, hl, hm, hz', hcell, hwz⟩)
    refine ⟨⟨some x0, l, c, g, off, b⟩, hcs, ⟨hr.hlen, hr.hcap, hr.hnil, hr.at_, hr.hlt, hr.hcell⟩, fun p q hq => ?_, fun hw => ?_⟩
    · have := hr.at_ p
      have e1 : some x0 = some q := hq
      rw [this] at e1
      exact (Option.some.inj e1).symm
    have e : x.1 = .slice (lits .u8 (zs.take l)) (lits .u8 (zs.drop l)) := congrArg Prod.fst hx
    rw [e] at hw
    have h := hw _ (show ((lits .u8 (zs.take l) : List (DataW H)).length + (lits .u8 (zs.drop l) : List (DataW H)).length) * Tryz.prog.bytesOf 5 ∈ _ by simp [DataW.weights, Tryz.underlying24])
    have hb : Tryz.prog.bytesOf 5 = 1 := by kernel_rfl
    rw [hb] at h
    have hr47 := reachBytes_lt
    simp only [lits, List.length_map, List.length_take, List.length_drop] at h
    show l ≤ _
    omega
theorem eight_cells {l : List Value} {a b c d e f g h : Value} (hl : l.length = 8) (h0 : (l.drop 0).take 1 = [a]) (h1 : (l.drop 1).take 1 = [b]) (h2 : (l.drop 2).take 1 = [c]) (h3 : (l.drop 3).take 1 = [d]) (h4 : (l.drop 4).take 1 = [e]) (h5 : (l.drop 5).take 1 = [f]) (h6 : (l.drop 6).take 1 = [g]) (h7 : (l.drop 7).take 1 = [h]) : l = [a, b, c, d, e, f, g, h] := by
  match l, hl with
  | [x0, x1, x2, x3, x4, x5, x6, x7], _ => simp at h0 h1 h2 h3 h4 h5 h6 h7; rw [h0, h1, h2, h3, h4, h5, h6, h7]
set_option maxRecDepth 100000 in
theorem open_fr7 {fuel : Nat} {cs : List Value} {x : DataW H × List MemPlace} (hf : DataW.trod enc Tryz.prog W 0 (fun _ => true) true fuel 28 cs = some x) :
    ∃ f : FrM, cs = f.cells.toList ∧ f.Ok W ∧ ((∀ m ∈ x.1.weights Tryz.prog 28, m ≤ reachBytes) → f.data.len ≤ 140737488355328 ∧ f.ranges.len ≤ 140737488355328) := by
  obtain ⟨xs, n, _, hxd, hlen, hxl, hfs⟩ := DataW.trod_struct Tryz.underlying28 hf
  have hl : Tryz.prog.cellsOf 28 = 8 := by kernel_rfl
  have cU : Tryz.prog.cellsOf 22 = 1 := by kernel_rfl
  have cK : Tryz.prog.cellsOf 25 = 1 := by kernel_rfl
  have cB : Tryz.prog.cellsOf 4 = 1 := by kernel_rfl
  have cD : Tryz.prog.cellsOf 24 = 1 := by kernel_rfl
  have cR : Tryz.prog.cellsOf 26 = 1 := by kernel_rfl
  have hx : xs.length = 8 := hxl
  have e0 : DataW.trod enc Tryz.prog W 0 (fun _ => true) true n 25 (List.take (Tryz.prog.cellsOf 25) (List.drop 0 _)) = xs[0]? := hfs 0 _ rfl
  have e1 : DataW.trod enc Tryz.prog W 0 (fun _ => true) true n 22 (List.take (Tryz.prog.cellsOf 22) (List.drop 1 _)) = xs[1]? := hfs 1 _ rfl
  have e2 : DataW.trod enc Tryz.prog W 0 (fun _ => true) true n 22 (List.take (Tryz.prog.cellsOf 22) (List.drop 2 _)) = xs[2]? := hfs 2 _ rfl
  have e3 : DataW.trod enc Tryz.prog W 0 (fun _ => true) true n 22 (List.take (Tryz.prog.cellsOf 22) (List.drop 3 _)) = xs[3]? := hfs 3 _ rfl
  have e4 : DataW.trod enc Tryz.prog W 0 (fun _ => true) true n 22 (List.take (Tryz.prog.cellsOf 22) (List.drop 4 _)) = xs[4]? := hfs 4 _ rfl
  have e5 : DataW.trod enc Tryz.prog W 0 (fun _ => true) true n 4 (List.take (Tryz.prog.cellsOf 4) (List.drop 5 _)) = xs[5]? := hfs 5 _ rfl
  have e6 : DataW.trod enc Tryz.prog W 0 (fun _ => true) true n 24 (List.take (Tryz.prog.cellsOf 24) (List.drop 6 _)) = xs[6]? := hfs 6 _ rfl
  have e7 : DataW.trod enc Tryz.prog W 0 (fun _ => true) true n 26 (List.take (Tryz.prog.cellsOf 26) (List.drop 7 _)) = xs[7]? := hfs 7 _ rfl
  rw [cK, List.getElem?_eq_getElem (by omega)] at e0
  rw [cU, List.getElem?_eq_getElem (by omega)] at e1 e2 e3 e4
  rw [cB, List.getElem?_eq_getElem (by omega)] at e5
  rw [cD, List.getElem?_eq_getElem (by omega)] at e6
  rw [cR, List.getElem?_eq_getElem (by omega)] at e7
  obtain ⟨k0, h0, _, w0⟩ := DataW.trod_int Tryz.underlying25 e0
  obtain ⟨n1, h1, b1⟩ := open_u64 e1
  obtain ⟨n2, h2, b2⟩ := open_u64 e2
  obtain ⟨n3, h3, b3⟩ := open_u64 e3
  obtain ⟨n4, h4, b4⟩ := open_u64 e4
  obtain ⟨b5, h5, _⟩ := DataW.trod_bool Tryz.underlying4 e5
  obtain ⟨sd, h6, ok6, _, hw6⟩ := open_sl7 e6
  obtain ⟨sr, h7, ok7, hw7⟩ := open_rl7 e7
  have hb0 := bounds_u8 w0
  rw [hl] at hlen
  have hd : x.1 = .agg (xs.map (·.1)) := congrArg Prod.fst hxd
  refine ⟨⟨k0.toNat, n1, n2, n3, n4, b5, sd, sr⟩, ?_, ⟨ok6, ok7, by show k0.toNat < 256; omega, b1, b2, b3, b4⟩, fun hw => ⟨hw6 fun m hm => hw m ?_, hw7 fun m hm => hw m ?_⟩⟩
  · rw [eight_cells hlen h0 h1 h2 h3 h4 h5 h6 h7]
    unfold FrM.cells
    simp only
    rw [Int.toNat_of_nonneg hb0.1]
  all_goals
    rw [hd]
    unfold DataW.weights
    rw [Tryz.underlying28]
  · refine DataW.weights_mem_each (j := 6) (t := 24) rfl (d := (xs[6]'(by omega)).1) ?_ m hm
    rw [List.getElem?_map, List.getElem?_eq_getElem (by omega)]
    rfl
  · refine DataW.weights_mem_each (j := 7) (t := 26) rfl (d := (xs[7]'(by omega)).1) ?_ m hm
    rw [List.getElem?_map, List.getElem?_eq_getElem (by omega)]
    rfl
set_option maxRecDepth 100000 in
theorem bulk_fr {fuel : Nat} {f : FrM} {x : DataW H × List MemPlace} (hf : DataW.trod enc Tryz.prog W 0 (fun _ => true) true fuel 28 f.cells.toList = some x) : f.data.len ≤ Rows.uptoBulk x.1 ∧ f.ranges.len ≤ Rows.uptoBulk x.1 := by
  obtain ⟨xs, n, _, hxd, hlen, hxl, hfs⟩ := DataW.trod_struct Tryz.underlying28 hf
  have cD : Tryz.prog.cellsOf 24 = 1 := by kernel_rfl
  have cR : Tryz.prog.cellsOf 26 = 1 := by kernel_rfl
  have hx : xs.length = 8 := hxl
  have e6 : DataW.trod enc Tryz.prog W 0 (fun _ => true) true n 24 (List.take (Tryz.prog.cellsOf 24) (List.drop 6 _)) = xs[6]? := hfs 6 _ rfl
  have e7 : DataW.trod enc Tryz.prog W 0 (fun _ => true) true n 26 (List.take (Tryz.prog.cellsOf 26) (List.drop 7 _)) = xs[7]? := hfs 7 _ rfl
  rw [cD, List.getElem?_eq_getElem (by omega)] at e6
  rw [cR, List.getElem?_eq_getElem (by omega)] at e7
  have h6 := bulk_sl (v := .slice f.data.a f.data.len f.data.cap) e6 rfl
  have h7 := bulk_rl (v := .slice f.ranges.a f.ranges.len f.ranges.cap) e7 rfl
  have hd : x.1 = .agg (xs.map (·.1)) := congrArg Prod.fst hxd
  rw [hd]
  have g6 : Rows.uptoBulk (xs[6]'(by omega)).1 ≤ Rows.uptoBulkAll (xs.map (·.1)) := bulk_part (j := 6) (by rw [List.getElem?_map, List.getElem?_eq_getElem (by omega)]; rfl)
  have g7 : Rows.uptoBulk (xs[7]'(by omega)).1 ≤ Rows.uptoBulkAll (xs.map (·.1)) := bulk_part (j := 7) (by rw [List.getElem?_map, List.getElem?_eq_getElem (by omega)]; rfl)
  simp only [Rows.uptoBulk]
  omega
theorem six_parts {l t : List Value} {a b c d e : Value} (hl : l.length = 13) (h0 : (l.drop 0).take 1 = [a]) (h1 : (l.drop 1).take 1 = [b]) (h2 : (l.drop 2).take 1 = [c]) (h3 : (l.drop 3).take 1 = [d]) (h4 : (l.drop 4).take 1 = [e]) (h5 : (l.drop 5).take 8 = t) : l = a :: b :: c :: d :: e :: t := by
  match l, hl with
  | [x0, x1, x2, x3, x4, x5, x6, x7, x8, x9, x10, x11, x12], _ => simp at h0 h1 h2 h3 h4 h5; rw [h0, h1, h2, h3, h4, ← h5]
set_option maxRecDepth 100000 in
theorem open_a16 {fuel : Nat} {cs : List Value} {x : DataW H × List MemPlace} (hf : DataW.trod enc Tryz.prog W 0 (fun _ => true) true fuel 30 cs = some x) :
    ∃ f : A16, cs = f.cells.toList ∧ f.Ok W ∧ f.Small (Rows.uptoBulk x.1) := by
  obtain ⟨xs, n, _, hxd, hlen, hxl, hfs⟩ := DataW.trod_struct Tryz.underlying30 hf
  have hl : Tryz.prog.cellsOf 30 = 13 := by kernel_rfl
  have cU : Tryz.prog.cellsOf 22 = 1 := by kernel_rfl
  have cK : Tryz.prog.cellsOf 5 = 1 := by kernel_rfl
  have cI : Tryz.prog.cellsOf 3 = 1 := by kernel_rfl
  have cB : Tryz.prog.cellsOf 4 = 1 := by kernel_rfl
  have cD : Tryz.prog.cellsOf 24 = 1 := by kernel_rfl
  have cF : Tryz.prog.cellsOf 28 = 8 := by kernel_rfl
  have hx : xs.length = 6 := hxl
  have e0 : DataW.trod enc Tryz.prog W 0 (fun _ => true) true n 5 (List.take (Tryz.prog.cellsOf 5) (List.drop 0 _)) = xs[0]? := hfs 0 _ rfl
  have e1 : DataW.trod enc Tryz.prog W 0 (fun _ => true) true n 24 (List.take (Tryz.prog.cellsOf 24) (List.drop 1 _)) = xs[1]? := hfs 1 _ rfl
  have e2 : DataW.trod enc Tryz.prog W 0 (fun _ => true) true n 4 (List.take (Tryz.prog.cellsOf 4) (List.drop 2 _)) = xs[2]? := hfs 2 _ rfl
  have e3 : DataW.trod enc Tryz.prog W 0 (fun _ => true) true n 3 (List.take (Tryz.prog.cellsOf 3) (List.drop 3 _)) = xs[3]? := hfs 3 _ rfl
  have e4 : DataW.trod enc Tryz.prog W 0 (fun _ => true) true n 22 (List.take (Tryz.prog.cellsOf 22) (List.drop 4 _)) = xs[4]? := hfs 4 _ rfl
  have e5 : DataW.trod enc Tryz.prog W 0 (fun _ => true) true n 28 (List.take (Tryz.prog.cellsOf 28) (List.drop 5 _)) = xs[5]? := hfs 5 _ rfl
  rw [cK, List.getElem?_eq_getElem (by omega)] at e0
  rw [cD, List.getElem?_eq_getElem (by omega)] at e1
  rw [cB, List.getElem?_eq_getElem (by omega)] at e2
  rw [cI, List.getElem?_eq_getElem (by omega)] at e3
  rw [cU, List.getElem?_eq_getElem (by omega)] at e4
  rw [cF, List.getElem?_eq_getElem (by omega)] at e5
  obtain ⟨k0, h0, _, w0⟩ := DataW.trod_int Tryz.underlying5 e0
  obtain ⟨sb, h1, ok1, _, _⟩ := open_sl7 e1
  obtain ⟨b2, h2, _⟩ := DataW.trod_bool Tryz.underlying4 e2
  obtain ⟨k3, h3, _, w3⟩ := DataW.trod_int Tryz.underlying3 e3
  obtain ⟨n4, h4, b4⟩ := open_u64 e4
  obtain ⟨fr, h5, ok5, _⟩ := open_fr7 e5
  have hb0 := bounds_u8 w0
  have hb3 : -9223372036854775808 ≤ k3 ∧ k3 ≤ 9223372036854775807 := by have := bounds_i64 w3; omega
  rw [hl] at hlen
  rw [h1] at e1
  rw [h5] at e5
  have s1 := bulk_sl (v := .slice sb.a sb.len sb.cap) e1 rfl
  have s5 := bulk_fr e5
  have hd : x.1 = .agg (xs.map (·.1)) := congrArg Prod.fst hxd
  have g1 : Rows.uptoBulk (xs[1]'(by omega)).1 ≤ Rows.uptoBulkAll (xs.map (·.1)) := bulk_part (j := 1) (by rw [List.getElem?_map, List.getElem?_eq_getElem (by omega)]; rfl)
  have g5 : Rows.uptoBulk (xs[5]'(by omega)).1 ≤ Rows.uptoBulkAll (xs.map (·.1)) := bulk_part (j := 5) (by rw [List.getElem?_map, List.getElem?_eq_getElem (by omega)]; rfl)
  have hB : Rows.uptoBulkAll (xs.map (·.1)) ≤ Rows.uptoBulk x.1 := by rw [hd]; simp only [Rows.uptoBulk]; omega
  refine ⟨⟨k0.toNat, sb, b2, k3, n4, fr⟩, ?_, ⟨ok5, ok1, by show k0.toNat < 256; omega, b4, hb3⟩, ⟨by show sb.len ≤ _; omega, by show fr.data.len ≤ _; omega, by show fr.ranges.len ≤ _; omega⟩⟩
  rw [six_parts hlen h0 h1 h2 h3 h4 h5]
  unfold A16.cells FrM.cells
  simp only
  rw [Int.toNat_of_nonneg hb0.1]
set_option maxRecDepth 100000 in
theorem open_s16 {fuel : Nat} {cs : List Value} {x : DataW H × List MemPlace} (hf : DataW.trod enc Tryz.prog W 0 (fun _ => true) true fuel 23 cs = some x) :
    ∃ q : S16, cs = [.slice q.a q.len q.cap] ∧ q.Ok W ∧ q.len ≤ Rows.uptoBulk x.1 ∧ ∀ j, j < q.len → (gc q.l j).Small (Rows.uptoBulk x.1) := by
  rcases DataW.trod_slice Tryz.underlying23 hf with ⟨hcs, hx⟩ | ⟨a, len, cap, elems, rest, n, _, hcs, hx, _, hl, hm, hlen, hel, hsp, _⟩
  · exact ⟨⟨none, 0, 0, 0, 0, []⟩, hcs, ⟨rfl, Nat.le_refl _, fun _ => ⟨rfl, rfl⟩, fun p => absurd p (Nat.lt_irrefl _), fun p => absurd p (Nat.lt_irrefl _), fun _ h => absurd h (Nat.not_lt_zero _), fun _ h => absurd h (Nat.not_lt_zero _)⟩, Nat.zero_le _, fun _ h => absurd h (Nat.not_lt_zero _)⟩
  · have hc7 : Tryz.prog.cellsOf 30 = 13 := by kernel_rfl
    have each : ∀ i, i < len → ∃ f : A16, (∀ j, j < 13 → W.cell? ((a.add (i * 13)).add j) = f.cells.toList[j]?) ∧ f.Ok W ∧ ∃ e, elems[i]? = some e ∧ f.Small (Rows.uptoBulk e.1) := by
      intro i hi
      have h := hel i hi
      rw [hc7, List.getElem?_eq_getElem (by omega), Option.bind_eq_some_iff] at h
      obtain ⟨cs', h1, h2⟩ := h
      obtain ⟨_, h3, h4⟩ := World.cells?_some h1
      obtain ⟨f, h5, h6, h7⟩ := open_a16 h2
      rw [h5] at h4
      exact ⟨f, h4, h6, _, List.getElem?_eq_getElem (by omega), h7⟩
    obtain ⟨l, hll, hl2⟩ := pick_list len each
    obtain ⟨g, off, spot⟩ := a
    have hspot : 0 < len → spot = none := fun p => by
      obtain ⟨f, h1, _⟩ := each 0 p
      have := World.cell?_spot (h1 0 (by decide))
      simpa [Addr.add] using this
    have getl : ∀ j, j < len → ∃ f, gc l j = f ∧ (∀ i, i < 13 → W.cell? (((⟨g, off, spot⟩ : Addr).add (j * 13)).add i) = f.cells.toList[i]?) ∧ f.Ok W ∧ ∃ e, elems[j]? = some e ∧ f.Small (Rows.uptoBulk e.1) := by
      intro j hj
      obtain ⟨f, h0, h1⟩ := hl2 j hj
      exact ⟨f, by unfold gc; rw [h0]; rfl, h1⟩
    have e : x.1 = .slice (elems.map (·.1)) (rest.map (·.1)) := congrArg Prod.fst hx
    have hb := bulk_slice (elems.map (·.1)) (rest.map (·.1))
    rw [List.length_map] at hb
    refine ⟨⟨some ⟨g, off, spot⟩, len, cap, g, off, l⟩, hcs, ⟨hll, hl, (fun e => by cases e), fun p => by rw [hspot p], fun p => ?_, fun j hj => ?_, fun j hj => ?_⟩, ?_, fun j hj => ?_⟩
    · obtain rfl := hspot p
      obtain ⟨f, h1, _⟩ := each 0 p
      have h2 := h1 0 (by decide)
      rcases Nat.lt_or_ge g W.heap.size with q | q
      · exact q
      · exfalso
        simp [World.cell?, Addr.add, Array.getElem?_eq_none q, A16.cells] at h2
    · have hj' : j < len := hj
      obtain rfl := hspot (by omega)
      obtain ⟨f, e, h1, _⟩ := getl j hj'
      show W.rangeAt g (off + j * 13) (gc l j).cells.toList
      rw [e]
      intro i u hu
      have hi : i < 13 := by have := (List.getElem?_eq_some_iff.1 hu).1; exact this
      have := h1 i hi
      rw [Addr.add_mid, Addr.add_mid] at this
      rw [this]
      exact hu
    · obtain ⟨f, e, _, h2, _⟩ := getl j hj
      show (gc l j).Ok W
      rw [e]
      exact h2
    · rw [e]
      show len ≤ _
      omega
    · obtain ⟨f, e2, _, _, y, hy, h3⟩ := getl j hj
      show (gc l j).Small _
      rw [e2]
      have h9 : Rows.uptoBulk y.1 ≤ Rows.uptoBulkAll (elems.map (·.1)) := bulk_part (j := j) (by rw [List.getElem?_map, hy]; rfl)
      rw [e]
      exact ⟨by have := h3.b; omega, by have := h3.d; omega, by have := h3.r; omega⟩
set_option maxRecDepth 100000 in
theorem open_acts16 {base : Nat} {v : Value} {d : DataW H} {ps : List MemPlace} (hval : Value.okWide Tryz.prog W .any base 23 v) (h0 : DataW.Trod enc Tryz.prog W 0 (fun _ => true) true 23 v d ps) :
    ∃ q : S16, v = .slice q.a q.len q.cap ∧ q.Ok W ∧ q.len ≤ Rows.uptoBulk d ∧ ∀ j, j < q.len → (gc q.l j).Small (Rows.uptoBulk d) := by
  obtain ⟨a0, len0, cap0, rfl⟩ := okWide_slice Tryz.underlying23 hval
  obtain ⟨fuel, hf⟩ := h0
  obtain ⟨q, hcs, h⟩ := open_s16 hf
  refine ⟨q, ?_, h⟩
  have hcs' : [Value.slice a0 len0 cap0] = [Value.slice q.a q.len q.cap] := hcs
  exact List.head_eq_of_cons_eq hcs'
end
end Go.Proofs.YtehadfidenejdaaGreatDoor

/-! What a row says of three laid variables, at the door. -/
namespace Go.Proofs.YtehadfidenejdaaGreatDoor
open Go Go.ChangeShapes Go.WideShapes Go.ChangeAt Go.RowKit

abbrev laid3 : List (String × DataW Unit) := [("math/bits.deBruijn32tab", Rows.laid_math_bits_deBruijn32tab), ("math/bits.deBruijn64tab", Rows.laid_math_bits_deBruijn64tab), ("internal/strconv.uint64pow10", Rows.laid_internal_strconv_uint64pow10)]
/-- The door's own heap meets the conditions. -/
theorem door_met3 (os : Os) (args : Array Value) : laidMetH Tryz.prog laid3 ((World.doorLaid Tryz.prog 400 os).forCall (fun _ _ => 0) ⟨#[], args, []⟩).memory :=
  laidMetH_of_parts3 (fuel := 8) (laidMet_of_run' 8 (by kernel_rfl) (by kernel_rfl)) (by kernel_rfl) (by kernel_rfl)
end Go.Proofs.YtehadfidenejdaaGreatDoor
