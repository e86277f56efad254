/-
  Out of KyBook, KySame.
-/
import Derived.Test.YtjccjlhnjihfjaaDoorGh5
import Derived.RangeFuncBox
import Derived.Deep.RegionHeld3
import Derived.Maps.AppendAt
import Derived.ArgAppend
import Derived.BigQuiet
import Derived.Deep.AppendLies
import Derived.Deep.RegionLaw
import Derived.BigRegion
import Derived.Test.YtjccjlhnjihfjaaDoorGh2

/-! A Book of lists of bytes whose blocks may be longer than their capacity. Out of HfBook, over KyWide. -/

/-! What a Book of lists of bytes does to memory: marks, and filling. -/
namespace Go.Proofs.YtjccjlhnjihfjaaDoor
open Go.RowKit

/-- The mark of the list with this place, as it is written. -/
def mark (i : Nat) : Value := .int .u8 (1 + ((i : Int) + 1) % 250)

set_option maxHeartbeats 400000 in
theorem mark_any (n : Int) (w : World) (h0 : 0 ≤ n) (h1 : n ≤ 3000000) :
    Calls Tryd.prog 76 #[.int .i64 n] w fun e w' => e = .returned (.int .u8 (1 + n % 250)) ∧ w' = w := by
  go_enter Tryd.func76, Tryd.ntmps76
  go_wp2
  go_ret
  exact ⟨rfl, rfl⟩

/-- No list lies where another one lies, nor where the book does. -/
structure Sep (S B h m : Nat) (E : Nat → Value) : Prop where
  SB : S ≤ B
  Sh : S ≤ h
  Bh : B ≠ h
  eB : ∀ i, i < m → (E i).ownBlock ≠ some B
  eh : ∀ i, i < m → (E i).ownBlock ≠ some h
  ee : ∀ i j, i < m → j < m → i ≠ j → (E i).ownBlock = none ∨ (E i).ownBlock ≠ (E j).ownBlock

/-- The book holds m lists in block h; each owns its elements; old memory is as it was. -/
structure St (S B h m cap : Nat) (E : Nat → Value) (N : Nat → Nat) (Lg : Nat → Value) (X : Nat → List Value) (w0 W : World) : Prop where
  sS : S ≤ W.heap.size
  bB : B < W.heap.size
  bh : h < W.heap.size
  book : W.cell? ⟨B, 1, none⟩ = some (.slice (some ⟨h, 0, none⟩) m cap)
  l : ∀ i, i < m → W.cell? ⟨h, i * 3, none⟩ = some (E i)
  g : ∀ i, i < m → W.cell? ⟨h, i * 3 + 1, none⟩ = some (Lg i)
  n : ∀ i, i < m → W.cell? ⟨h, i * 3 + 2, none⟩ = some (.int .i64 ((i : Int) + 1))
  fz : ∀ j, W.frozen? ⟨h, j, none⟩ = false
  rows : ∀ i, i < m → RowW W S 5 1 (E i) (N i) (X i)
  below : Below S w0 W
  em : ∀ j, 2 ≤ j → j < 13 → W.cell? ⟨B, j, none⟩ = some (.slice none 0 0)

theorem St.grown {S B h m cap : Nat} {E : Nat → Value} {N : Nat → Nat} {Lg : Nat → Value} {X : Nat → List Value} {w0 W W' : World} {row : Option Nat} (st : St S B h m cap E N Lg X w0 W) (hg : W.grownBy W' row)
    (hS : ∀ k, row = some k → S ≤ k) (hB : row ≠ some B) (hh : row ≠ some h) (he : ∀ i, i < m → (E i).ownBlock = none ∨ (E i).ownBlock ≠ row) : St S B h m cap E N Lg X w0 W' where
  sS := Nat.le_trans st.sS hg.size
  bB := Nat.lt_of_lt_of_le st.bB hg.size
  bh := Nat.lt_of_lt_of_le st.bh hg.size
  book := hg.cell st.book (fun e => hB e.symm)
  l := fun i hi => hg.cell (st.l i hi) (fun e => hh e.symm)
  g := fun i hi => hg.cell (st.g i hi) (fun e => hh e.symm)
  n := fun i hi => hg.cell (st.n i hi) (fun e => hh e.symm)
  fz := fun j => (World.frozen?_of_block (w := W) (a := ⟨h, j, none⟩) (hg.block h st.bh (fun e => hh e.symm))).trans (st.fz j)
  rows := fun i hi => (st.rows i hi).kept hg (he i hi)
  below := st.below.grown hg st.sS hS
  em := fun j h1 h2 => hg.cell (st.em j h1 h2) (fun e => hB e.symm)

theorem St.alloc {S B h m cap : Nat} {E : Nat → Value} {N : Nat → Nat} {Lg : Nat → Value} {X : Nat → List Value} {w0 W : World} (st : St S B h m cap E N Lg X w0 W) (o : Obj) : St S B h m cap E N Lg X w0 (W.alloc o) :=
  st.grown (World.grownBy_alloc W o none) (fun _ e => by cases e) (by simp) (by simp) (fun i _ => by
    by_cases h : (E i).ownBlock = none
    · exact .inl h
    · exact .inr h)

theorem St.drew {S B h m cap : Nat} {E : Nat → Value} {N : Nat → Nat} {Lg : Nat → Value} {X : Nat → List Value} {w0 W : World} (st : St S B h m cap E N Lg X w0 W) : St S B h m cap E N Lg X w0 W.drew :=
  ⟨st.sS, st.bB, st.bh, st.book, st.l, st.g, st.n, st.fz, st.rows, st.below.drew, st.em⟩

/-- One element of one list is written. -/
theorem St.store {S B h m cap : Nat} {E : Nat → Value} {N : Nat → Nat} {Lg : Nat → Value} {X : Nat → List Value} {w0 W : World} (st : St S B h m cap E N Lg X w0 W) (sep : Sep S B h m E) {i g c : Nat} (hi : i < m) (he : E i = .slice (some ⟨g, 0, none⟩) (N i) c) (k : Nat) (u : Value) :
    St S B h m cap E N Lg (fun j => if j = i then (X i).set k u else X j) w0 (W.setCell ⟨g, k, none⟩ u) := by
  have hob : (E i).ownBlock = some g := by rw [he]; rfl
  have hSg : S ≤ g := ((st.rows i hi).lt g hob).1
  have hgr : W.grownBy (W.setCell ⟨g, k, none⟩ u) (some g) := ⟨rfl, rfl, rfl, by simp, fun b _ hb => Below.heap_setCell _ _ _ b (fun e => hb (by rw [e]))⟩
  have hgB : some g ≠ some B := fun e => sep.eB i hi (hob.trans e)
  have hgh : some g ≠ some h := fun e => sep.eh i hi (hob.trans e)
  refine ⟨Nat.le_trans st.sS hgr.size, Nat.lt_of_lt_of_le st.bB hgr.size, Nat.lt_of_lt_of_le st.bh hgr.size, hgr.cell st.book (fun e => hgB e.symm), fun j hj => hgr.cell (st.l j hj) (fun e => hgh e.symm), fun j hj => hgr.cell (st.g j hj) (fun e => hgh e.symm), fun j hj => hgr.cell (st.n j hj) (fun e => hgh e.symm), fun j => (World.frozen?_of_block (w := W) (a := ⟨h, j, none⟩) (hgr.block h st.bh (fun e => hgh e.symm))).trans (st.fz j), fun j hj => ?_, st.below.setCell (p := ⟨g, k, none⟩) hSg u, fun j h1 h2 => hgr.cell (st.em j h1 h2) (fun e => hgB e.symm)⟩
  by_cases hji : j = i
  · subst hji
    rw [if_pos rfl]
    have hr := st.rows j hj
    rw [he] at hr ⊢
    exact (hr.stored k u).1
  · rw [if_neg hji]
    refine (st.rows j hj).kept hgr ?_
    rcases sep.ee j i hj hi hji with h | h
    · exact .inl h
    · exact .inr (by rw [← hob]; exact h)

/-- What a value that owns a row looks like. -/
theorem kbOwn_shape {W : World} {S : Nat} {v : Value} {n : Nat} {xs : List Value} (h : RowW W S 5 1 v n xs) : (v = .slice none 0 0 ∧ n = 0) ∨ ∃ g c, v = .slice (some ⟨g, 0, none⟩) n c ∧ n ≤ c := by
  rcases h.2 with ⟨h1, h2⟩ | ⟨g, c, _, h1, _, _, h2, _⟩
  · exact .inl ⟨h1, h2⟩
  · exact .inr ⟨g, c, h1, h2⟩

theorem set_step (xs : List Value) (k n : Nat) (u : Value) (hl : xs.length = n) (hk : k < n) (h : xs.take k = List.replicate k u) : (xs.set k u).take (k + 1) = List.replicate (k + 1) u := by
  have hk2 : k < (xs.set k u).length := by rw [List.length_set]; omega
  rw [List.take_succ_eq_append_getElem hk2, List.getElem_set_self, List.take_set_of_le (Nat.le_refl _), h, List.replicate_succ']

set_option maxHeartbeats 4000000 in
theorem fill_any (S B h m cap : Nat) (E : Nat → Value) (N : Nat → Nat) (Lg : Nat → Value) (X : Nat → List Value) (w0 W : World) (hm2 : m ≤ 1000) (hN : ∀ i, i < m → N i ≤ 140737488351240) (hLg : ∀ i, i < m → Lg i = .slice none 0 0) (sep : Sep S B h m E) (st : St S B h m cap E N Lg X w0 W) :
    Calls Tryd.prog 29 #[.pointer (some ⟨B, 0, none⟩)] W fun e w' => e = .returned (.tuple #[]) ∧ St S B h m cap E N Lg (fun i => List.replicate (N i) (mark i)) w0 w' := by
  have hc := st.book
  have HST : Hid (St S B h m cap E N Lg X w0 W) := st
  clear st
  go_enter Tryd.func29, Tryd.ntmps29
  go_wp2
  go_loopw [2] (fun i wr => ∃ (k : Nat) (Y : Nat → List Value), k ≤ m ∧ i = .int .i64 k ∧ St S B h m cap E N Lg Y w0 wr ∧ ∀ j, j < k → Y j = List.replicate (N j) (mark j)) (fun i _ => m - (intOf i).toNat)
  case atStart => exact ⟨0, X, Nat.zero_le _, rfl, HST.out, fun j hj => absurd hj (Nat.not_lt_zero _)⟩
  case round =>
    obtain ⟨k, Y, hk, rfl, st, hY⟩ := hrel
    have hcb := st.book
    by_cases hlt : k < m
    · have c0 := st.l k hlt
      have c1 := st.g k hlt
      have c2 := st.n k hlt
      have hNk := hN k hlt
      have HSR : Hid (St S B h m cap E N Lg Y w0 wr) := st
      have HY : Hid (∀ j, j < k → Y j = List.replicate (N j) (mark j)) := hY
      rw [hLg k hlt] at c1
      have hlen := (st.rows k hlt).1
      rw [Nat.mul_one] at hlen
      have hbh := st.bh
      rcases kbOwn_shape (st.rows k hlt) with ⟨hv, hn⟩ | ⟨g, c, hv, hnc⟩
      · rw [hv] at c0
        clear st hY
        go_wp2
        refine wp_loop_rounds 1 ?_
        rw [rounds_succ]
        go_wp2
        go_roundw
        case rel =>
          refine ⟨k + 1, Y, by omega, by go_num, HSR.out.alloc _, fun j hj => ?_⟩
          rcases Nat.lt_or_ge j k with h1 | h1
          · exact HY.out j h1
          · obtain rfl : j = k := by omega
            rw [hn, List.replicate_zero]
            exact List.eq_nil_of_length_eq_zero (by rw [hlen, hn])
        case measure => simp [intOf]; omega
      · rw [hv] at c0
        have hgl : g < wr.heap.size := ((st.rows k hlt).lt g (by rw [hv]; rfl)).2
        clear st hY
        go_wp2
        obtain ⟨wo, rfl⟩ : ∃ wo : World, wo = wr := ⟨_, rfl⟩
        have HA := HSR.out.alloc (.cells #[.slice (some ⟨g, 0, none⟩) (N k) c, .slice none 0 0, .int .i64 ((k : Int) + 1)] 82)
        go_loopw [4] (fun i wq => ∃ (q : Nat) (Z : List Value), q ≤ N k ∧ i = .int .i64 q ∧ St S B h m cap E N Lg (fun j => if j = k then Z else Y j) w0 wq ∧ Z.length = N k ∧ Z.take q = List.replicate q (mark k) ∧ wq.cell? ⟨wo.heap.size, 0, none⟩ = some (.slice (some ⟨g, 0, none⟩) (N k) c) ∧ wq.cell? ⟨wo.heap.size, 2, none⟩ = some (.int .i64 ((k : Int) + 1))) (fun i _ => N k - (intOf i).toNat)
        case atStart =>
          refine ⟨0, Y k, Nat.zero_le _, rfl, ?_, hlen, rfl, by simp, by simp⟩
          have e : (fun j => if j = k then Y k else Y j) = Y := by
            funext j
            by_cases hj : j = k
            · rw [if_pos hj, hj]
            · rw [if_neg hj]
          rw [e]
          exact HA
        case round =>
          obtain ⟨q, Z, hq, rfl, st2, hZl, hZ, hp0, hp2⟩ := hrel
          have HS2 : Hid (St S B h m cap E N Lg (fun j => if j = k then Z else Y j) w0 wr) := st2
          by_cases hqn : q < N k
          · have hrow := st2.rows k hlt
            simp only [if_true] at hrow
            rw [hv] at hrow
            have hcg : wr.cell? ⟨g, q, none⟩ = some (Z[q]'(by omega)) := by rw [hrow.cellAt q (by omega), List.getElem?_eq_getElem]
            have hfg := hrow.frozenAt q
            obtain ⟨old, hold⟩ : ∃ old, wr.cell? ⟨g, q, none⟩ = some old := ⟨_, hcg⟩
            have HZ : Hid (Z.take q = List.replicate q (mark k)) := hZ
            have HZl : Hid (Z.length = N k) := hZl
            have i1 : (0 : Int) ≤ (q : Int) := by omega
            have i2 : (q : Int) < (N k : Int) := by omega
            have hk0 : ∀ u, (wr.setCell ⟨g, q, none⟩ u).cell? ⟨wo.heap.size, 0, none⟩ = some (.slice (some ⟨g, 0, none⟩) (N k) c) := fun u => (World.cell?_of_block (w := wr) (a := ⟨wo.heap.size, 0, none⟩) (Below.heap_setCell wr ⟨g, q, none⟩ u wo.heap.size (by show wo.heap.size ≠ g; omega))).trans hp0
            have hk2 : ∀ u, (wr.setCell ⟨g, q, none⟩ u).cell? ⟨wo.heap.size, 2, none⟩ = some (.int .i64 ((k : Int) + 1)) := fun u => (World.cell?_of_block (w := wr) (a := ⟨wo.heap.size, 2, none⟩) (Below.heap_setCell wr ⟨g, q, none⟩ u wo.heap.size (by show wo.heap.size ≠ g; omega))).trans hp2
            clear st2 hrow hcg hZ hZl HA
            go_wp2
            go_region_held3 (fun w' => w'.cell? ⟨wo.heap.size, 0, none⟩ = some (.slice (some ⟨g, 0, none⟩) (N k) c) ∧ w'.cell? ⟨wo.heap.size, 2, none⟩ = some (.int .i64 ((k : Int) + 1))) (first | go_keep | exact ⟨hk0 _, hk2 _⟩) (first | (go_at_call 76; refine (mark_any _ _ (by omega) (by omega)).mono ?_; rintro e9 w9 ⟨rfl, rfl⟩))
            go_wp2
            go_roundw
            case rel =>
              have hst := (HS2.out.store sep hlt hv q (mark k)).drew
              simp only [if_true] at hst
              have e : (fun j => if j = k then Z.set q (mark k) else if j = k then Z else Y j) = (fun j => if j = k then Z.set q (mark k) else Y j) := by
                funext j
                by_cases hj : j = k
                · rw [if_pos hj, if_pos hj]
                · rw [if_neg hj, if_neg hj, if_neg hj]
              rw [e] at hst
              exact ⟨q + 1, Z.set q (mark k), by omega, by go_num, hst, by rw [List.length_set]; exact HZl.out, set_step Z q (N k) (mark k) HZl.out hqn HZ.out, hk0 _, hk2 _⟩
            case measure => simp [intOf]; omega
          · have hqe : q = N k := by omega
            have HZF : Hid (Z = List.replicate (N k) (mark k)) := by
              rw [hqe, List.take_of_length_le (by omega)] at hZ
              exact hZ
            clear st2 hZ hZl HA
            go_wp2
            go_roundw
            case rel =>
              refine ⟨k + 1, _, by omega, by go_num, HS2.out, fun j hj => ?_⟩
              by_cases hjk : j = k
              · simp only [hjk, if_true]; exact HZF.out
              · simp only [hjk, if_false]; exact HY.out j (by omega)
            case measure => simp [intOf]; omega
    · have hkm : k = m := by omega
      subst hkm
      have HSR : Hid (St S B h k cap E N Lg Y w0 wr) := st
      have HY : Hid (∀ j, j < k → Y j = List.replicate (N j) (mark j)) := hY
      clear st hY
      go_wp2
      go_end0
      have hst := HSR.out
      refine ⟨rfl, hst.sS, hst.bB, hst.bh, hst.book, hst.l, hst.g, hst.n, hst.fz, fun i hi => ?_, hst.below, hst.em⟩
      have := hst.rows i hi
      rw [HY.out i hi] at this
      exact this
end Go.Proofs.YtjccjlhnjihfjaaDoor

/-! What a Book of lists of bytes does to memory: what is put behind each list. -/
namespace Go.Proofs.YtjccjlhnjihfjaaDoor
open Go.RowKit

theorem wpList_append_two {P : Program} (w : World) {ops : Array Oper} {rest : List Oper} {o : Oper} {a : Act} {Q : Exit → Act → World → Prop} (hgd : o.guard = none) (s x : Operand) (t : TypeId)
    (ho : o.op = .call { callee := .builtin .append, args := #[s, x], argTypes := #[t, t] })
    (base : Nat) (e : TypeId) (i : TypeInfo) (z : Value) (size bytes : Nat) (ht : P.underlying t = some (.slice e)) (hi : P.info? e = some i) (hz : i.zero = some z)
    (hsize : i.size = size) (hby : i.bytes = bytes) (hzs : z.cells.size = size) (hsz : 0 < size)
    (v : Value) (n : Nat) (xs : List Value) (hs : a.eval s = v) (hown : RowW w base e size v n xs)
    (ad : Addr) (m c : Nat) (news : List Value) (hx : a.eval x = .slice (some ad) m c) (hl : news.length = m * size) (hnews : ∀ j u, news[j]? = some u → w.cell? (ad.add j) = some u) (h1 : ∀ u ∈ news, u.oneCell' = true) (hm : 0 < m)
    (h63 : n + m ≤ maxLen) (hbytes : (n + m) * bytes ≤ 140737488355328) (hbase : base ≤ w.heap.size)
    (h : ∀ g cap w', RowW w' base e size (.slice (some ⟨g, 0, none⟩) (n + m) cap) (n + m) (xs ++ news) → ((v = .slice (some ⟨g, 0, none⟩) n cap ∧ w.grownBy w' (some g)) ∨ (g = w.heap.size ∧ w.grownBy w' none)) → wpList P ops Q rest (a.put o.dst (.slice (some ⟨g, 0, none⟩) (n + m) cap)) w') :
    wpList P ops Q (o :: rest) a w := by
  refine wpList_plain hgd fun K hK => ?_
  obtain ⟨g, cap, w', hr, h2, h3⟩ := run_append_two (P := P) w base t o.type e i z size bytes ht hi hz hsize hby hzs hsz v n xs hown ad m c news hl hnews h1 hm h63 hbytes hbase
  unfold Oper.wp execOp
  simp only [ho, resolve, invoke, builtin, Sem.run_bind, Sem.run_pure, Result.andThen_ok, List.map_toArray, List.map_cons, List.map_nil, hs, hx, hr]
  exact hK _ _ (h g cap w' h2 h3)

/-- A beginning of a row is owned as the row is. -/
theorem own_prefix {W : World} {S g c n k : Nat} {xs : List Value} (h : RowW W S 5 1 (.slice (some ⟨g, 0, none⟩) (n + k) c) (n + k) xs) : RowW W S 5 1 (.slice (some ⟨g, 0, none⟩) n c) n (xs.take n) := by
  refine ⟨by rw [List.length_take, h.1]; omega, ?_⟩
  rcases h.2 with ⟨h1, _⟩ | ⟨g', c', cur, hv, hb, hg, hn, hc, hs, ht⟩
  · cases h1
  · cases hv
    refine .inr ⟨g, c, cur, rfl, hb, hg, by omega, hc, hs, ?_⟩
    rw [← ht, List.take_take]
    congr 1
    omega

/-- Old memory but one list's row is as it was: so is the book. -/
theorem St.grown_at {S B h m cap : Nat} {E : Nat → Value} {N : Nat → Nat} {Lg : Nat → Value} {X : Nat → List Value} {w0 W W' : World} {row : Option Nat} (st : St S B h m cap E N Lg X w0 W) (hg : W.grownBy W' row) (k : Nat)
    (hS : ∀ k, row = some k → S ≤ k) (hB : row ≠ some B) (hh : row ≠ some h) (he : ∀ i, i < m → i ≠ k → (E i).ownBlock = none ∨ (E i).ownBlock ≠ row) (hk : k < m → RowW W' S 5 1 (E k) (N k) (X k)) : St S B h m cap E N Lg X w0 W' where
  sS := Nat.le_trans st.sS hg.size
  bB := Nat.lt_of_lt_of_le st.bB hg.size
  bh := Nat.lt_of_lt_of_le st.bh hg.size
  book := hg.cell st.book (fun e => hB e.symm)
  l := fun i hi => hg.cell (st.l i hi) (fun e => hh e.symm)
  g := fun i hi => hg.cell (st.g i hi) (fun e => hh e.symm)
  n := fun i hi => hg.cell (st.n i hi) (fun e => hh e.symm)
  fz := fun j => (World.frozen?_of_block (w := W) (a := ⟨h, j, none⟩) (hg.block h st.bh (fun e => hh e.symm))).trans (st.fz j)
  rows := fun i hi => by
    by_cases hik : i = k
    · rw [hik] at hi ⊢; exact hk hi
    · exact (st.rows i hi).kept hg (he i hi hik)
  below := st.below.grown hg st.sS hS
  em := fun j h1 h2 => hg.cell (st.em j h1 h2) (fun e => hB e.symm)

/-- The longer list is kept. -/
theorem St.lay {S B h m cap : Nat} {E : Nat → Value} {N : Nat → Nat} {Lg : Nat → Value} {X : Nat → List Value} {w0 W : World} (st : St S B h m cap E N Lg X w0 W) (sep : Sep S B h m E) {k : Nat} (hk : k < m) (u : Value) :
    St S B h m cap E N (fun j => if j = k then u else Lg j) X w0 (W.setCell ⟨h, k * 3 + 1, none⟩ u) := by
  have hgr : W.grownBy (W.setCell ⟨h, k * 3 + 1, none⟩ u) (some h) := ⟨rfl, rfl, rfl, by simp, fun b _ hb => Below.heap_setCell _ _ _ b (fun e => hb (by rw [e]))⟩
  have hBh : some B ≠ some h := fun e => sep.Bh (by injection e)
  refine ⟨Nat.le_trans st.sS hgr.size, Nat.lt_of_lt_of_le st.bB hgr.size, Nat.lt_of_lt_of_le st.bh hgr.size, hgr.cell st.book hBh, fun j hj => ?_, fun j hj => ?_, fun j hj => ?_, fun j => ?_, fun j hj => (st.rows j hj).kept hgr (.inr (sep.eh j hj)), st.below.setCell (p := ⟨h, k * 3 + 1, none⟩) sep.Sh u, fun j h1 h2 => hgr.cell (st.em j h1 h2) hBh⟩
  · rw [World.cell?_setCell_other _ _ _ _ (by intro e; injection e; omega)]
    exact st.l j hj
  · by_cases hjk : j = k
    · subst hjk
      rw [if_pos rfl]
      exact World.cell?_setCell_same _ _ _ (st.g j hj)
    · rw [if_neg hjk, World.cell?_setCell_other _ _ _ _ (by intro e; injection e; omega)]
      exact st.g j hj
  · rw [World.cell?_setCell_other _ _ _ _ (by intro e; injection e; omega)]
    exact st.n j hj
  · rw [World.frozen?_setCell]
    exact st.fz j

/-- Each of the first k lists has its longer one, apart from all else. -/
structure Gr (S B h m k : Nat) (E : Nat → Value) (N : Nat → Nat) (Lg : Nat → Value) (W : World) : Prop where
  rows : ∀ j, j < k → RowW W S 5 1 (Lg j) (N j + 40) (List.replicate (N j + 40) (mark j))
  nB : ∀ j, j < k → (Lg j).ownBlock ≠ some B
  nh : ∀ j, j < k → (Lg j).ownBlock ≠ some h
  ne : ∀ j i, j < k → i < m → i ≠ j → (Lg j).ownBlock ≠ (E i).ownBlock

theorem Gr.grown {S B h m k : Nat} {E : Nat → Value} {N : Nat → Nat} {Lg : Nat → Value} {W W' : World} {row : Option Nat} (gr : Gr S B h m k E N Lg W) (hg : W.grownBy W' row) (hr : ∀ j, j < k → (Lg j).ownBlock ≠ row) : Gr S B h m k E N Lg W' :=
  ⟨fun j hj => (gr.rows j hj).kept hg (.inr (hr j hj)), gr.nB, gr.nh, gr.ne⟩

/-- What one more element behind a list leaves. -/
theorem grow_step {S B h m cap k q H : Nat} {E : Nat → Value} {N : Nat → Nat} {Lg : Nat → Value} {w0 W W' : World} {v : Value} {g c : Nat} (hk : k < m) (sep : Sep S B h m E) (st : St S B h m cap E N Lg (fun i => List.replicate (N i) (mark i)) w0 W) (gr : Gr S B h m k E N Lg W)
    (hv : (v = E k ∧ q = 0) ∨ (∃ g1 c1, v = .slice (some ⟨g1, 0, none⟩) (N k + q) c1 ∧ ((∃ n1, E k = .slice (some ⟨g1, 0, none⟩) n1 c1) ∨ H ≤ g1)))
    (hH : H ≤ W.heap.size) (hHB : B < H) (hHh : h < H) (hHE : ∀ i, i < m → ∀ b, (E i).ownBlock = some b → b < H) (hHL : ∀ j, j < k → ∀ b, (Lg j).ownBlock = some b → b < H)
    (hown' : RowW W' S 5 1 (.slice (some ⟨g, 0, none⟩) (N k + q + 1) c) (N k + q + 1) (List.replicate (N k + q) (mark k) ++ [mark k]))
    (hat : (v = .slice (some ⟨g, 0, none⟩) (N k + q) c ∧ W.grownBy W' (some g)) ∨ (g = W.heap.size ∧ W.grownBy W' none)) :
    St S B h m cap E N Lg (fun i => List.replicate (N i) (mark i)) w0 W' ∧ Gr S B h m k E N Lg W' ∧
      ((∃ n1, E k = .slice (some ⟨g, 0, none⟩) n1 c) ∨ H ≤ g) ∧
      RowW W' S 5 1 (.slice (some ⟨g, 0, none⟩) (N k + (q + 1)) c) (N k + (q + 1)) (List.replicate (N k + (q + 1)) (mark k)) ∧ H ≤ W'.heap.size ∧ (∀ a : Addr, a.block < H → (∀ n1, E k ≠ .slice (some ⟨a.block, 0, none⟩) n1 c) → W'.cell? a = W.cell? a) := by
  have ho : RowW W' S 5 1 (.slice (some ⟨g, 0, none⟩) (N k + (q + 1)) c) (N k + (q + 1)) (List.replicate (N k + (q + 1)) (mark k)) := by
    have e : List.replicate (N k + (q + 1)) (mark k) = List.replicate (N k + q) (mark k) ++ [mark k] := by
      rw [show N k + (q + 1) = (N k + q) + 1 by omega, List.replicate_succ']
    rw [e]
    exact hown'
  have hSg : S ≤ g := (ho.lt g rfl).1
  rcases hat with ⟨hvg, hgr⟩ | ⟨hgn, hgr⟩
  · have hplace : (∃ n1, E k = .slice (some ⟨g, 0, none⟩) n1 c) ∨ H ≤ g := by
      rcases hv with ⟨h1, h2⟩ | ⟨g1, c1, h1, h2⟩
      · left
        exact ⟨_, h1.symm.trans hvg⟩
      · rw [hvg] at h1
        injection h1 with e1 e2 e3
        injection e1 with e1
        injection e1 with e1
        subst e1 e3
        exact h2
    have hob : ∀ b, b < H → (∀ n1, E k ≠ .slice (some ⟨b, 0, none⟩) n1 c) → b ≠ g := by
      intro b hb hne e
      subst e
      rcases hplace with ⟨n1, h1⟩ | h1
      · exact hne n1 h1
      · omega
    have hgB : some g ≠ some B := by
      intro e; injection e with e
      refine hob B hHB (fun n1 hE => sep.eB k hk (by rw [hE]; rfl)) e.symm
    have hgh : some g ≠ some h := by
      intro e; injection e with e
      refine hob h hHh (fun n1 hE => sep.eh k hk (by rw [hE]; rfl)) e.symm
    refine ⟨st.grown_at hgr k (fun b e => by injection e with e; omega) hgB hgh (fun i hi hik => ?_) (fun _ => ?_), gr.grown hgr (fun j hj e => ?_), hplace, ho, Nat.le_trans hH hgr.size, fun a ha hne => ?_⟩
    · cases hEi : (E i).ownBlock with
      | none => exact .inl rfl
      | some b =>
        right
        intro e
        injection e with e
        subst e
        refine hob b (hHE i hi b hEi) (fun n1 hE => ?_) rfl
        rcases sep.ee i k hi hk hik with h1 | h1
        · rw [hEi] at h1; cases h1
        · exact h1 (by rw [hEi, hE]; rfl)
    · rcases hplace with ⟨n1, h1⟩ | h1
      · have hn1 : n1 = N k := by
          rcases kbOwn_shape (st.rows k hk) with ⟨h2, _⟩ | ⟨g2, c2, h2, _⟩
          · rw [h1] at h2; cases h2
          · rw [h1] at h2; injection h2
        rw [h1, hn1]
        have := own_prefix ho
        rw [List.take_replicate, Nat.min_eq_left (by omega)] at this
        exact this
      · refine (st.rows k hk).kept hgr ?_
        cases hEk : (E k).ownBlock with
        | none => exact .inl rfl
        | some b => right; intro e; injection e with e; have := hHE k hk b hEk; omega
    · cases hLj : (Lg j).ownBlock with
      | none => rw [hLj] at e; cases e
      | some b =>
        rw [hLj] at e; injection e with e; subst e
        refine hob b (hHL j hj b hLj) (fun n1 hE => ?_) rfl
        exact gr.ne j k hj hk (by omega) (by rw [hLj, hE]; rfl)
    · exact World.cell?_of_block (hgr.block a.block (by omega) (by intro e; injection e with e; exact hob a.block ha hne e))
  · refine ⟨st.grown hgr (fun b e => by cases e) (by simp) (by simp) (fun i _ => ?_), gr.grown hgr (fun j hj e => ?_), .inr (by omega), ho, Nat.le_trans hH hgr.size, fun a ha _ => ?_⟩
    · cases hEi : (E i).ownBlock with
      | none => exact .inl rfl
      | some b => right; simp
    · rcases (gr.rows j hj).2 with ⟨_, h0⟩ | ⟨g2, c2, _, h2, _⟩
      · omega
      · rw [h2] at e; cases e
    · exact World.cell?_of_block (hgr.block a.block (by omega) (by simp))

set_option maxRecDepth 20000 in
set_option maxHeartbeats 4000000 in
theorem bk_grow_any (S B h m cap : Nat) (E : Nat → Value) (N : Nat → Nat) (Lg : Nat → Value) (w0 W : World) (hm2 : m ≤ 1000) (hN : ∀ i, i < m → N i ≤ 140737488351240) (hLg : ∀ i, i < m → Lg i = .slice none 0 0) (sep : Sep S B h m E) (st : St S B h m cap E N Lg (fun i => List.replicate (N i) (mark i)) w0 W) :
    Calls Tryd.prog 41 #[.pointer (some ⟨B, 0, none⟩)] W fun e w' => e = .returned (.tuple #[]) ∧ ∃ Lg', St S B h m cap E N Lg' (fun i => List.replicate (N i) (mark i)) w0 w' ∧ Gr S B h m m E N Lg' w' := by
  obtain ⟨i0, hi, hz0, hz1, hz2⟩ := info_parts Tryd.infoByte
  have hc := st.book
  have HST : Hid (St S B h m cap E N Lg (fun i => List.replicate (N i) (mark i)) w0 W) := st
  clear st
  go_enter Tryd.func41, Tryd.ntmps41
  go_wp2
  go_loopw [2] (fun i wr => ∃ (k : Nat) (L : Nat → Value), k ≤ m ∧ i = .int .i64 k ∧ St S B h m cap E N L (fun i => List.replicate (N i) (mark i)) w0 wr ∧ Gr S B h m k E N L wr ∧ ∀ j, k ≤ j → j < m → L j = .slice none 0 0) (fun i _ => m - (intOf i).toNat)
  case atStart => exact ⟨0, Lg, Nat.zero_le _, rfl, HST.out, ⟨fun j hj => absurd hj (Nat.not_lt_zero _), fun j hj => absurd hj (Nat.not_lt_zero _), fun j hj => absurd hj (Nat.not_lt_zero _), fun j i hj => absurd hj (Nat.not_lt_zero _)⟩, fun j _ hj => hLg j hj⟩
  case round =>
    obtain ⟨k, L, hk, rfl, st, gr, hnil⟩ := hrel
    have hcb := st.book
    by_cases hlt : k < m
    · have c0 := st.l k hlt
      have c1 := st.g k hlt
      have c2 := st.n k hlt
      have hNk := hN k hlt
      have HSR : Hid (St S B h m cap E N L (fun i => List.replicate (N i) (mark i)) w0 wr) := st
      have HGR : Hid (Gr S B h m k E N L wr) := gr
      have HNL : Hid (∀ j, k ≤ j → j < m → L j = .slice none 0 0) := hnil
      rw [hnil k (Nat.le_refl _) hlt] at c1
      have hbh := st.bh
      obtain ⟨ao, c, hE⟩ : ∃ ao c, E k = .slice ao (N k) c := by
        rcases kbOwn_shape (st.rows k hlt) with ⟨h1, h2⟩ | ⟨g, c, h1, _⟩
        · exact ⟨none, 0, by rw [h1, h2]⟩
        · exact ⟨some ⟨g, 0, none⟩, c, h1⟩
      have HE : Hid (E k = .slice ao (N k) c) := hE
      rw [hE] at c0
      clear st gr hnil hE
      go_wp2_with fail
      obtain ⟨wo, rfl⟩ : ∃ wo : World, wo = wr := ⟨_, rfl⟩
      have HA := HSR.out.alloc (.cells #[.slice ao (N k) c, .slice none 0 0, .int .i64 ((k : Int) + 1)] 82)
      have HG := HGR.out.grown (World.grownBy_alloc wo (.cells #[.slice ao (N k) c, .slice none 0 0, .int .i64 ((k : Int) + 1)] 82) none) (fun j hj e => by
        rcases (HGR.out.rows j hj).2 with ⟨_, h0⟩ | ⟨g2, c2, _, h2, _⟩
        · omega
        · rw [h2] at e; cases e)
      have HSz : Hid (wo.heap.size + 1 = (wo.alloc (.cells #[.slice ao (N k) c, .slice none 0 0, .int .i64 ((k : Int) + 1)] 82)).heap.size) := by show _ = _; simp
      go_loopw [4, 5] (fun t i wq => ∃ (q : Nat) (ao3 : Option Addr) (c3 : Nat), q ≤ 40 ∧ i = .int .i64 q ∧ t = .slice ao3 (N k + q) c3 ∧ St S B h m cap E N L (fun i => List.replicate (N i) (mark i)) w0 wq ∧ Gr S B h m k E N L wq ∧
          ((.slice ao3 (N k + q) c3 = E k ∧ q = 0) ∨ (∃ g1 c1, Value.slice ao3 (N k + q) c3 = .slice (some ⟨g1, 0, none⟩) (N k + q) c1 ∧ ((∃ n1, E k = .slice (some ⟨g1, 0, none⟩) n1 c1) ∨ wo.heap.size + 1 ≤ g1))) ∧
          RowW wq S 5 1 (.slice ao3 (N k + q) c3) (N k + q) (List.replicate (N k + q) (mark k)) ∧ wo.heap.size + 1 ≤ wq.heap.size ∧ wq.cell? ⟨wo.heap.size, 2, none⟩ = some (.int .i64 ((k : Int) + 1))) (fun _ i _ => 40 - (intOf i).toNat)
      case atStart =>
        refine ⟨0, ao, c, Nat.zero_le _, rfl, rfl, HA, HG, .inl ⟨HE.out.symm, rfl⟩, ?_, Nat.le_of_eq HSz.out, by simp⟩
        have := HA.rows k hlt
        rw [HE.out] at this
        exact this
      case round =>
        obtain ⟨q, ao3, c3, hq, rfl, rfl, st2, gr2, hsh, hown, hsz, hp2⟩ := hrel
        have HS2 : Hid (St S B h m cap E N L (fun i => List.replicate (N i) (mark i)) w0 wr) := st2
        have HG2 : Hid (Gr S B h m k E N L wr) := gr2
        have HSH : Hid ((.slice ao3 (N k + q) c3 = E k ∧ q = 0) ∨ (∃ g1 c1, Value.slice ao3 (N k + q) c3 = .slice (some ⟨g1, 0, none⟩) (N k + q) c1 ∧ ((∃ n1, E k = .slice (some ⟨g1, 0, none⟩) n1 c1) ∨ wo.heap.size + 1 ≤ g1))) := hsh
        have HOW : Hid (RowW wr S 5 1 (.slice ao3 (N k + q) c3) (N k + q) (List.replicate (N k + q) (mark k))) := hown
        have hSz2 := st2.sS
        have hbB2 := st2.bB
        clear st2 gr2 hsh hown HA HG HSz
        by_cases hq40 : q < 40
        · go_wp2_with fail
          refine (mark_any _ _ (by omega) (by omega)).mono ?_
          rintro e9 w9 ⟨rfl, rfl⟩
          go_wp2_with (at_builtin; refine wpList_append_two _ rfl _ _ 28 rfl S 5 i0 (.int .u8 0) 1 1 Tryd.underlying28 hi hz0 hz1 hz2 rfl (by decide) _ _ _ rfl (HOW.out.alloc _) ⟨w9.heap.size, 0, none⟩ 1 1 [mark k] rfl rfl (cell_one_new _ _ _) (by simp [mark, Value.oneCell']) (by decide) (by unfold maxLen; omega) (by omega) (by simp; omega) ?_; intro g1 c1 w1 hown1 hat1)
          have hne1 : ∀ n1, E k ≠ .slice (some ⟨wo.heap.size, 0, none⟩) n1 c1 := fun n1 hE1 => by
            have := (HSR.out.rows k hlt).lt wo.heap.size (by rw [hE1]; rfl)
            omega
          obtain ⟨st3, gr3, hpl, how3, hsz3, hcell3⟩ := grow_step (H := wo.heap.size + 1) hlt sep (HS2.out.alloc (.cells #[mark k] 5)) (HG2.out.grown (World.grownBy_alloc w9 (.cells #[mark k] 5) none) (fun j hj e => by
            rcases (HG2.out.rows j hj).2 with ⟨_, h0⟩ | ⟨g2, c2, _, h2, _⟩
            · omega
            · rw [h2] at e; cases e)) HSH.out (by simp; omega) (by have := HSR.out.bB; omega) (by omega) (fun i hi b hb => by have := (HSR.out.rows i hi).lt b hb; omega) (fun j hj b hb => by have := (HGR.out.rows j hj).lt b hb; omega) hown1 hat1
          have hp3 : w1.cell? ⟨wo.heap.size, 2, none⟩ = some (.int .i64 ((k : Int) + 1)) := by
            rw [hcell3 ⟨wo.heap.size, 2, none⟩ (Nat.lt_succ_self _) hne1]
            exact (World.cell?_alloc_old _ _ _ (by show wo.heap.size ≠ _; omega)).trans hp2
          clear hown1 hat1 hne1 hcell3
          have HS3 : Hid (St S B h m cap E N L (fun i => List.replicate (N i) (mark i)) w0 w1) := st3
          have HG3 : Hid (Gr S B h m k E N L w1) := gr3
          have HO3 : Hid (RowW w1 S 5 1 (.slice (some ⟨g1, 0, none⟩) (N k + (q + 1)) c1) (N k + (q + 1)) (List.replicate (N k + (q + 1)) (mark k))) := how3
          have HPL : Hid ((∃ n1, E k = .slice (some ⟨g1, 0, none⟩) n1 c1) ∨ wo.heap.size + 1 ≤ g1) := hpl
          clear st3 gr3 how3 hpl
          go_wp2_with fail
          go_roundw
          case rel => exact ⟨q + 1, _, c1, by omega, by go_num, rfl, HS3.out, HG3.out, .inr ⟨g1, c1, rfl, HPL.out⟩, HO3.out, hsz3, hp3⟩
          case measure => simp [intOf]; omega
        · have hqe : q = 40 := by omega
          subst hqe
          have hcb2 := HS2.out.book
          have hg2 : wr.cell? ⟨h, k * 3 + 1, none⟩ = some (.slice none 0 0) := by rw [HS2.out.g k hlt, HNL.out k (Nat.le_refl _) hlt]
          have hfz2 := HS2.out.fz (k * 3 + 1)
          go_wp2_with fail
          go_roundw
          case rel =>
            refine ⟨k + 1, _, by omega, by go_num, HS2.out.lay sep hlt _, ?_, fun j hj hjm => ?_⟩
            · have hgr : wr.grownBy (wr.setCell ⟨h, k * 3 + 1, none⟩ (.slice ao3 (N k + 40) c3)) (some h) := ⟨rfl, rfl, rfl, by simp, fun b _ hb => Below.heap_setCell _ _ _ b (fun e => hb (by rw [e]))⟩
              have hlg : ∀ j, j < k + 1 → j ≠ k → j < k := fun j h1 h2 => by omega
              obtain ⟨gg, cc, hgg⟩ : ∃ gg cc, Value.slice ao3 (N k + 40) c3 = .slice (some ⟨gg, 0, none⟩) (N k + 40) cc := by
                rcases kbOwn_shape HOW.out with ⟨_, h0⟩ | ⟨gg, cc, h1, _⟩
                · omega
                · exact ⟨gg, cc, h1⟩
              have hplace : (∃ n1, E k = .slice (some ⟨gg, 0, none⟩) n1 cc) ∨ wo.heap.size + 1 ≤ gg := by
                rcases HSH.out with ⟨_, h0⟩ | ⟨g1, c1, h1, h2⟩
                · omega
                · rw [hgg] at h1
                  injection h1 with e1 e2 e3
                  injection e1 with e1
                  injection e1 with e1
                  subst e1 e3
                  exact h2
              have hob : ∀ b, b < wo.heap.size + 1 → (∀ n1, E k ≠ .slice (some ⟨b, 0, none⟩) n1 cc) → (Value.slice ao3 (N k + 40) c3).ownBlock ≠ some b := by
                intro b hb hne e
                rw [hgg] at e
                injection e with e
                subst e
                rcases hplace with ⟨n1, h1⟩ | h1
                · exact hne n1 h1
                · have h2 : gg < wo.heap.size + 1 := hb
                  omega
              have hkB := hob B (by have := HSR.out.bB; omega) (fun n1 hE => sep.eB k hlt (by rw [hE]; rfl))
              have hkh := hob h (by omega) (fun n1 hE => sep.eh k hlt (by rw [hE]; rfl))
              refine ⟨fun j hj => ?_, fun j hj => ?_, fun j hj => ?_, fun j i hj hi hij => ?_⟩
              · by_cases hjk : j = k
                · subst hjk; rw [if_pos rfl]; exact HOW.out.kept hgr (.inr hkh)
                · rw [if_neg hjk]; exact (HG2.out.rows j (hlg j hj hjk)).kept hgr (.inr (HG2.out.nh j (hlg j hj hjk)))
              · by_cases hjk : j = k
                · subst hjk; rw [if_pos rfl]; exact hkB
                · rw [if_neg hjk]; exact HG2.out.nB j (hlg j hj hjk)
              · by_cases hjk : j = k
                · subst hjk; rw [if_pos rfl]; exact hkh
                · rw [if_neg hjk]; exact HG2.out.nh j (hlg j hj hjk)
              · by_cases hjk : j = k
                · subst hjk
                  rw [if_pos rfl]
                  intro e
                  cases hEi : (E i).ownBlock with
                  | none => rw [hEi, hgg] at e; cases e
                  | some b =>
                    rw [hEi] at e
                    refine hob b (by have := (HSR.out.rows i hi).lt b hEi; omega) (fun n1 hE => ?_) e
                    rcases sep.ee i j hi hlt hij with h1 | h1
                    · rw [hEi] at h1; cases h1
                    · exact h1 (by rw [hEi, hE]; rfl)
                · rw [if_neg hjk]; exact HG2.out.ne j i (hlg j hj hjk) hi hij
            · rw [if_neg (by omega)]; exact HNL.out j (by omega) hjm
          case measure => simp [intOf]; omega
    · have hkm : k = m := by omega
      subst hkm
      have HSR : Hid (St S B h k cap E N L (fun i => List.replicate (N i) (mark i)) w0 wr) := st
      have HGR : Hid (Gr S B h k k E N L wr) := gr
      clear st gr hnil
      go_wp2_with fail
      go_end0
      exact ⟨rfl, L, HSR.out, HGR.out⟩
end Go.Proofs.YtjccjlhnjihfjaaDoor

/-! What a Book of lists of bytes looks at in the end: every mark is there. -/
namespace Go.Proofs.YtjccjlhnjihfjaaDoor
open Go.RowKit

set_option maxHeartbeats 400000 in
theorem is_any (n : Int) (w : World) (h0 : 0 ≤ n) (h1 : n ≤ 3000000) :
    Calls Tryd.prog 88 #[.int .u8 (1 + n % 250), .int .i64 n] w fun e w' => e = .returned (.bool true) ∧ w' = w := by
  go_enter Tryd.func88, Tryd.ntmps88
  go_wp2
  go_ret
  exact ⟨by simp, rfl⟩

theorem cell_rep {W : World} {S g c n q : Nat} {u : Value} (h : RowW W S 5 1 (.slice (some ⟨g, 0, none⟩) n c) n (List.replicate n u)) (hq : q < n) : W.cell? ⟨g, q, none⟩ = some u := by
  rw [h.cellAt q (by simpa using hq), List.getElem?_replicate, if_pos hq]

theorem World.grownBy.drewN {a b : World} {row : Option Nat} (h : a.grownBy b row) (n : Nat) : a.grownBy (b.drewN n) row := ⟨h.os, h.tape, h.output, h.size, h.block⟩

set_option maxRecDepth 20000 in
set_option maxHeartbeats 4000000 in
theorem look_any (S B h m cap : Nat) (E : Nat → Value) (N : Nat → Nat) (Lg : Nat → Value) (w0 W : World) (hm2 : m ≤ 1000) (hN : ∀ i, i < m → N i ≤ 140737488351240) (st : St S B h m cap E N Lg (fun i => List.replicate (N i) (mark i)) w0 W) (gr : Gr S B h m m E N Lg W) :
    Calls Tryd.prog 53 #[.pointer (some ⟨B, 0, none⟩)] W fun e w' => e = .returned (.bool true) ∧ W.grownBy w' none := by
  have HST : Hid (St S B h m cap E N Lg (fun i => List.replicate (N i) (mark i)) w0 W) := st
  have HGR : Hid (Gr S B h m m E N Lg W) := gr
  have hc := st.book
  have hbB := st.bB
  have hbh := st.bh
  clear st gr
  go_enter Tryd.func53, Tryd.ntmps53
  go_wp2_with fail
  go_loopw [3] (fun i wr => ∃ k : Nat, k ≤ m ∧ i = .int .i64 k ∧ W.grownBy wr none) (fun i _ => m - (intOf i).toNat)
  case atStart => exact ⟨0, Nat.zero_le _, rfl, rfl, rfl, rfl, Nat.le_refl _, fun _ _ _ => rfl⟩
  case round =>
    obtain ⟨k, hk, rfl, hg⟩ := hrel
    have hcb : wr.cell? ⟨B, 1, none⟩ = some (.slice (some ⟨h, 0, none⟩) m cap) := hg.cell hc (by simp)
    have hsz := hg.size
    by_cases hlt : k < m
    · obtain ⟨ao, c, hE⟩ : ∃ ao c, E k = .slice ao (N k) c := by
        rcases kbOwn_shape (HST.out.rows k hlt) with ⟨h1, h2⟩ | ⟨g, c, h1, _⟩
        · exact ⟨none, 0, by rw [h1, h2]⟩
        · exact ⟨some ⟨g, 0, none⟩, c, h1⟩
      obtain ⟨gg, cc, hL⟩ : ∃ gg cc, Lg k = .slice (some ⟨gg, 0, none⟩) (N k + 40) cc := by
        rcases kbOwn_shape (HGR.out.rows k hlt) with ⟨_, h0⟩ | ⟨gg, cc, h1, _⟩
        · omega
        · exact ⟨gg, cc, h1⟩
      have HE : Hid (E k = .slice ao (N k) c) := hE
      have HL : Hid (Lg k = .slice (some ⟨gg, 0, none⟩) (N k + 40) cc) := hL
      have c0 : wr.cell? ⟨h, k * 3, none⟩ = some (.slice ao (N k) c) := (hg.cell (HST.out.l k hlt) (by simp)).trans (by rw [hE])
      have c1 : wr.cell? ⟨h, k * 3 + 1, none⟩ = some (.slice (some ⟨gg, 0, none⟩) (N k + 40) cc) := (hg.cell (HST.out.g k hlt) (by simp)).trans (by rw [hL])
      have c2 : wr.cell? ⟨h, k * 3 + 2, none⟩ = some (.int .i64 ((k : Int) + 1)) := hg.cell (HST.out.n k hlt) (by simp)
      have hNk := hN k hlt
      have HG : Hid (W.grownBy wr none) := hg
      have hne : decide (((N k + 40 : Nat) : Int) = ((N k : Nat) : Int) + 40) = true := by simp
      clear hg hE hL
      go_wp2_with fail
      obtain ⟨wo, rfl⟩ : ∃ wo : World, wo = wr := ⟨_, rfl⟩
      have HA : Hid (W.grownBy (wo.alloc (.cells #[.slice ao (N k) c, .slice (some ⟨gg, 0, none⟩) (N k + 40) cc, .int .i64 ((k : Int) + 1)] 82)) none) := HG.out.trans (World.grownBy_alloc _ _ _)
      go_loopw [5] (fun i wq => ∃ q : Nat, q ≤ N k + 40 ∧ i = .int .i64 q ∧ W.grownBy wq none ∧ wq.cell? ⟨wo.heap.size, 0, none⟩ = some (.slice ao (N k) c) ∧ wq.cell? ⟨wo.heap.size, 1, none⟩ = some (.slice (some ⟨gg, 0, none⟩) (N k + 40) cc) ∧ wq.cell? ⟨wo.heap.size, 2, none⟩ = some (.int .i64 ((k : Int) + 1))) (fun i _ => N k + 40 - (intOf i).toNat)
      case atStart => exact ⟨0, Nat.zero_le _, rfl, HA.out, by simp, by simp, by simp⟩
      case round =>
        obtain ⟨q, hq, rfl, hg2, p0, p1, p2⟩ := hrel
        have HG2 : Hid (W.grownBy wr none) := hg2
        clear HA
        by_cases hq2 : q < N k + 40
        · have hrow : RowW wr S 5 1 (.slice (some ⟨gg, 0, none⟩) (N k + 40) cc) (N k + 40) (List.replicate (N k + 40) (mark k)) := by
            have := HGR.out.rows k hlt
            rw [HL.out] at this
            exact this.kept hg2 (.inr (by simp [Value.ownBlock]))
          have hcg : wr.cell? ⟨gg, q, none⟩ = some (.int .u8 (1 + ((k : Int) + 1) % 250)) := cell_rep hrow hq2
          have i1 : (0 : Int) ≤ (q : Int) := by omega
          have i2 : (q : Int) < ((N k + 40 : Nat) : Int) := by omega
          by_cases hq3 : q < N k
          · obtain ⟨g, hao⟩ : ∃ g, ao = some ⟨g, 0, none⟩ := by
              rcases kbOwn_shape (HST.out.rows k hlt) with ⟨h1, h2⟩ | ⟨g, c4, h1, _⟩
              · omega
              · rw [HE.out] at h1; injection h1 with e1 e2 e3; exact ⟨g, e1⟩
            subst hao
            have hrow2 : RowW wr S 5 1 (.slice (some ⟨g, 0, none⟩) (N k) c) (N k) (List.replicate (N k) (mark k)) := by
              have := HST.out.rows k hlt
              rw [HE.out] at this
              exact this.kept hg2 (.inr (by simp [Value.ownBlock]))
            have hcl : wr.cell? ⟨g, q, none⟩ = some (.int .u8 (1 + ((k : Int) + 1) % 250)) := cell_rep hrow2 hq3
            have i3 : (q : Int) < ((N k : Nat) : Int) := by omega
            clear hrow hrow2 hg2
            go_wp2_with fail
            go_quiet (first | (go_at_call 88; exact Calls.quiet_of_same (is_any _ _ (by omega) (by omega))))
            go_wp2_with fail
            go_roundw
            case rel => exact ⟨q + 1, by omega, by go_num, World.grownBy.drewN HG2.out _, p0, p1, p2⟩
            case measure => simp [intOf]; omega
          · have i3 : decide ((q : Int) < ((N k : Nat) : Int)) = false := by simp; omega
            clear hrow hg2
            go_wp2_with fail
            go_quiet (first | (go_at_call 88; exact Calls.quiet_of_same (is_any _ _ (by omega) (by omega))))
            go_wp2_with fail
            go_roundw
            case rel => exact ⟨q + 1, by omega, by go_num, World.grownBy.drewN HG2.out _, p0, p1, p2⟩
            case measure => simp [intOf]; omega
        · clear hg2
          go_wp2_with fail
          go_roundw
          case rel => exact ⟨k + 1, by omega, by go_num, HG2.out⟩
          case measure => simp [intOf]; omega
    · have HG : Hid (W.grownBy wr none) := hg
      clear hg
      go_wp2_with fail
      go_ret
      exact ⟨rfl, HG.out⟩
end Go.Proofs.YtjccjlhnjihfjaaDoor

/-! What a Book of lists of bytes holds while lists are told to it. -/
namespace Go.Proofs.YtjccjlhnjihfjaaDoor
open Go.RowKit

theorem Tryd.infoHeld : (Tryd.prog.info? 82).map (fun i => (i.zero, i.size, i.bytes)) = some (some (.agg #[.slice none 0 0, .slice none 0 0, .int .i64 0]), 3, 56) := by kernel_rfl

/-- The entries, one behind the other. -/
def ents (E : Nat → Value) : Nat → List Value
  | 0 => []
  | m + 1 => ents E m ++ [E m, .slice none 0 0, .int .i64 ((m : Int) + 1)]

theorem ents_length (E : Nat → Value) : ∀ m, (ents E m).length = m * 3
  | 0 => rfl
  | m + 1 => by rw [ents, List.length_append, ents_length E m]; simp; omega

theorem ents_at (E : Nat → Value) : ∀ m i, i < m → (ents E m)[i * 3]? = some (E i) ∧ (ents E m)[i * 3 + 1]? = some (.slice none 0 0) ∧ (ents E m)[i * 3 + 2]? = some (.int .i64 ((i : Int) + 1))
  | 0, i, h => absurd h (Nat.not_lt_zero _)
  | m + 1, i, h => by
    rw [ents]
    by_cases him : i < m
    · have hl := ents_length E m
      obtain ⟨h1, h2, h3⟩ := ents_at E m i him
      rw [List.getElem?_append_left (by omega), List.getElem?_append_left (by omega), List.getElem?_append_left (by omega)]
      exact ⟨h1, h2, h3⟩
    · have him2 : i = m := by omega
      subst him2
      have hl := ents_length E i
      rw [List.getElem?_append_right (by omega), List.getElem?_append_right (by omega), List.getElem?_append_right (by omega), hl, Nat.sub_self, Nat.add_sub_cancel_left, Nat.add_sub_cancel_left]
      exact ⟨rfl, rfl, rfl⟩

theorem ents_congr {E F : Nat → Value} : ∀ m, (∀ i, i < m → E i = F i) → ents E m = ents F m
  | 0, _ => rfl
  | m + 1, h => by rw [ents, ents, ents_congr m (fun i hi => h i (by omega)), h m (by omega)]

/-- One more is told. -/
def upd {α : Type} (f : Nat → α) (m : Nat) (x : α) : Nat → α := fun i => if i = m then x else f i

theorem upd_at {α : Type} (f : Nat → α) (m : Nat) (x : α) : upd f m x m = x := if_pos rfl
theorem upd_lt {α : Type} (f : Nat → α) {m i : Nat} (x : α) (h : i < m) : upd f m x i = f i := if_neg (by omega)

/-- The book in block B, told nn lists so far, m of them written; all lists are older than the book. -/
structure Bk (S B nn m : Nat) (V : Value) (E : Nat → Value) (N : Nat → Nat) (X : Nat → List Value) (w0 W : World) : Prop where
  SB : S ≤ B
  bB : B < W.heap.size
  n : W.cell? ⟨B, 0, none⟩ = some (.int .i64 nn)
  b : W.cell? ⟨B, 1, none⟩ = some V
  em : ∀ j, 2 ≤ j → j < 13 → W.cell? ⟨B, j, none⟩ = some (.slice none 0 0)
  fz : ∀ j, W.frozen? ⟨B, j, none⟩ = false
  ent : W.ownsRow S 82 3 V m (ents E m)
  vB : ∀ k, V.ownBlock = some k → B < k
  eB : ∀ i, i < m → ∀ k, (E i).ownBlock = some k → k < B
  ee : ∀ i j, i < m → j < m → i ≠ j → (E i).ownBlock = none ∨ (E i).ownBlock ≠ (E j).ownBlock
  rows : ∀ i, i < m → RowW W S 5 1 (E i) (N i) (X i)
  below : Below S w0 W

/-- All but the book's own cells, and its entries, is as it was. -/
theorem Bk.tick {S B nn m : Nat} {V : Value} {E : Nat → Value} {N : Nat → Nat} {X : Nat → List Value} {w0 W : World} (st : Bk S B nn m V E N X w0 W) (nn' : Nat) : Bk S B nn' m V E N X w0 (W.setCell ⟨B, 0, none⟩ (.int .i64 nn')) := by
  have hgr : W.grownBy (W.setCell ⟨B, 0, none⟩ (.int .i64 nn')) (some B) := ⟨rfl, rfl, rfl, by simp, fun b _ hb => Below.heap_setCell _ _ _ b (fun e => hb (by rw [e]))⟩
  refine ⟨st.SB, Nat.lt_of_lt_of_le st.bB hgr.size, World.cell?_setCell_same _ _ _ st.n, ?_, fun j h1 h2 => ?_, fun j => ?_, st.ent.kept hgr ?_, st.vB, st.eB, st.ee, fun i hi => (st.rows i hi).kept hgr (.inr ?_), st.below.setCell (p := ⟨B, 0, none⟩) st.SB _⟩
  · rw [World.cell?_setCell_other _ _ _ _ (by intro e; injection e; omega)]; exact st.b
  · rw [World.cell?_setCell_other _ _ _ _ (by intro e; injection e; omega)]; exact st.em j h1 h2
  · rw [World.frozen?_setCell]; exact st.fz j
  · right
    intro e
    have := st.vB B e
    omega
  · intro e
    have := st.eB i hi B e
    omega

/-- Lists that lie below the book stay what they were. -/
def Holds (S B : Nat) (W W' : World) : Prop := ∀ (v : Value) (n : Nat) (xs : List Value), RowW W S 5 1 v n xs → (∀ k, v.ownBlock = some k → k < B) → RowW W' S 5 1 v n xs

/-- What lies aside of the book and of its entries stays as it was, and the entries come not to lie there. -/
def Aside (B : Nat) (V V' : Value) (W W' : World) : Prop := ∀ k, k < W.heap.size → k ≠ B → V.ownBlock ≠ some k → W'.heap[k]? = W.heap[k]? ∧ V'.ownBlock ≠ some k

/-- The longer list of entries is laid into the book. -/
theorem Bk.told {S B nn m c H : Nat} {V : Value} {E : Nat → Value} {N : Nat → Nat} {X : Nat → List Value} {w0 W W' : World} {g nl : Nat} {l : Value} {xl : List Value} (st : Bk S B nn m V E N X w0 W) (hl : RowW W S 5 1 l nl xl) (hlB : ∀ k, l.ownBlock = some k → k < B) (hle : ∀ i, i < m → (E i).ownBlock = none ∨ (E i).ownBlock ≠ l.ownBlock) (hSW : S ≤ W.heap.size)
    (hH : W.heap.size ≤ H) (hgr : W.grownBy W' V.ownBlock) (hat : V.ownBlock = some g ∨ g = H) (hown : W'.ownsRow S 82 3 (.slice (some ⟨g, 0, none⟩) (m + 1) c) (m + 1) (ents E m ++ [l, .slice none 0 0, .int .i64 ((m : Int) + 1)])) :
    Bk S B nn (m + 1) (.slice (some ⟨g, 0, none⟩) (m + 1) c) (upd E m l) (upd N m nl) (upd X m xl) w0 (W'.setCell ⟨B, 1, none⟩ (.slice (some ⟨g, 0, none⟩) (m + 1) c)) ∧ Holds S B W (W'.setCell ⟨B, 1, none⟩ (.slice (some ⟨g, 0, none⟩) (m + 1) c)) := by
  have hVB : some B ≠ V.ownBlock := by
    intro e
    have := st.vB B e.symm
    omega
  have hBg : B < g := by
    rcases hat with h | h
    · exact st.vB g h
    · have := st.bB; omega
  have hgr2 : W'.grownBy (W'.setCell ⟨B, 1, none⟩ (.slice (some ⟨g, 0, none⟩) (m + 1) c)) (some B) := ⟨rfl, rfl, rfl, by simp, fun b _ hb => Below.heap_setCell _ _ _ b (fun e => hb (by rw [e]))⟩
  have hold : ∀ {v : Value} {n : Nat} {xs : List Value}, RowW W S 5 1 v n xs → (∀ k, v.ownBlock = some k → k < B) → RowW (W'.setCell ⟨B, 1, none⟩ (.slice (some ⟨g, 0, none⟩) (m + 1) c)) S 5 1 v n xs := by
    intro v n xs hv hk
    refine (hv.kept hgr ?_).kept hgr2 (.inr ?_)
    · cases hvo : v.ownBlock with
      | none => exact .inl rfl
      | some k =>
        right
        intro e
        have h1 := hk k hvo
        have h2 := st.vB k e.symm
        omega
    · intro e
      have := hk B e
      omega
  refine ⟨?_, fun v n xs h1 h2 => hold h1 h2⟩
  refine ⟨st.SB, Nat.lt_of_lt_of_le (Nat.lt_of_lt_of_le st.bB hgr.size) hgr2.size, ?_, World.cell?_setCell_same _ _ _ (hgr.cell st.b hVB), fun j h1 h2 => ?_, fun j => ?_, ?_, fun k e => ?_, fun i hi k e => ?_, fun i j hi hj hij => ?_, fun i hi => ?_, (st.below.grown hgr hSW (fun k e => by have := st.vB k e; have := st.SB; omega)).setCell (p := ⟨B, 1, none⟩) st.SB _⟩
  · rw [World.cell?_setCell_other _ _ _ _ (by intro e; injection e; omega)]; exact hgr.cell st.n hVB
  · rw [World.cell?_setCell_other _ _ _ _ (by intro e; injection e; omega)]; exact hgr.cell (st.em j h1 h2) hVB
  · rw [World.frozen?_setCell]; exact (World.frozen?_of_block (w := W) (a := ⟨B, j, none⟩) (hgr.block B st.bB hVB)).trans (st.fz j)
  · have e : ents (upd E m l) (m + 1) = ents E m ++ [l, .slice none 0 0, .int .i64 ((m : Int) + 1)] := by
      rw [ents, upd_at, ents_congr m (F := E) (fun i hi => upd_lt E l hi)]
    rw [e]
    refine hown.kept hgr2 (.inr ?_)
    intro e
    injection e with e
    have e2 : g = B := e
    omega
  · injection e with e
    have e2 : g = k := e
    omega
  · by_cases him : i = m
    · rw [him, upd_at] at e; exact hlB k e
    · rw [upd_lt E l (by omega)] at e; exact st.eB i (by omega) k e
  · by_cases him : i = m
    · by_cases hjm : j = m
      · omega
      · rw [him, upd_at, upd_lt E l (by omega)]
        cases hlo : l.ownBlock with
        | none => exact .inl rfl
        | some k =>
          right
          rcases hle j (by omega) with h1 | h1
          · rw [h1]; simp
          · rw [hlo] at h1; exact fun e => h1 e.symm
    · rw [upd_lt E l (by omega)]
      by_cases hjm : j = m
      · rw [hjm, upd_at]; exact hle i (by omega)
      · rw [upd_lt E l (by omega)]; exact st.ee i j (by omega) (by omega) hij
  · by_cases him : i = m
    · rw [him, upd_at, upd_at, upd_at]; exact hold hl hlB
    · rw [upd_lt E l (by omega), upd_lt N nl (by omega), upd_lt X xl (by omega)]; exact hold (st.rows i (by omega)) (st.eB i (by omega))

set_option maxRecDepth 20000 in
set_option maxHeartbeats 2000000 in
theorem keep_any (S B m : Nat) (V : Value) (E : Nat → Value) (N : Nat → Nat) (X : Nat → List Value) (w0 W : World) (l : Value) (nl : Nat) (xl : List Value) (hm : m ≤ 1000) (st : Bk S B m m V E N X w0 W) (hl : RowW W S 5 1 l nl xl) (hlB : ∀ k, l.ownBlock = some k → k < B) (hle : ∀ i, i < m → (E i).ownBlock = none ∨ (E i).ownBlock ≠ l.ownBlock) :
    Calls Tryd.prog 28 #[.pointer (some ⟨B, 0, none⟩), l] W fun e w' => e = .returned (.tuple #[]) ∧ ∃ V', Bk S B (m + 1) (m + 1) V' (upd E m l) (upd N m nl) (upd X m xl) w0 w' ∧ Holds S B W w' ∧ Aside B V V' W w' := by
  obtain ⟨i0, hi, hz0, hz1, hz2⟩ := info_parts Tryd.infoHeld
  obtain ⟨al, cl, rfl⟩ : ∃ al cl, l = .slice al nl cl := by
    rcases kbOwn_shape hl with ⟨h1, h2⟩ | ⟨g, c, h1, _⟩
    · exact ⟨none, 0, by rw [h1, h2]⟩
    · exact ⟨some ⟨g, 0, none⟩, c, h1⟩
  obtain ⟨av, cv, rfl⟩ : ∃ av cv, V = .slice av m cv := by
    rcases st.ent.2 with ⟨h1, h2⟩ | ⟨g, c, _, h1, _⟩
    · exact ⟨none, 0, by rw [h1, h2]⟩
    · exact ⟨some ⟨g, 0, none⟩, c, h1⟩
  have HST : Hid (Bk S B m m (.slice av m cv) E N X w0 W) := st
  have HL : Hid (RowW W S 5 1 (.slice al nl cl) nl xl) := hl
  have HLB : Hid (∀ k, (Value.slice al nl cl).ownBlock = some k → k < B) := hlB
  have HLE : Hid (∀ i, i < m → (E i).ownBlock = none ∨ (E i).ownBlock ≠ (Value.slice al nl cl).ownBlock) := hle
  have hcn := st.n
  have hcb := st.b
  have hfz0 := st.fz 0
  have hfz1 := st.fz 1
  have hbB := st.bB
  have hSB := st.SB
  clear st hl hlB hle
  go_enter Tryd.func28, Tryd.ntmps28
  go_wp2_with fail
  obtain ⟨W1, hW1⟩ : ∃ W1, W1 = W.setCell ⟨B, 0, none⟩ (.int .i64 ((m : Int) + 1)) := ⟨_, rfl⟩
  rw [← hW1]
  have HT : Hid (Bk S B (m + 1) m (.slice av m cv) E N X w0 W1) := by
    rw [hW1]
    exact HST.out.tick (m + 1)
  have hgr0 : W.grownBy W1 (some B) := by
    rw [hW1]
    exact ⟨rfl, rfl, rfl, by simp, fun b _ hb => Below.heap_setCell _ _ _ b (fun e => hb (by rw [e]))⟩
  have HL1 : Hid (RowW W1 S 5 1 (.slice al nl cl) nl xl) := HL.out.kept hgr0 (.inr (fun e => by have := HLB.out B e; omega))
  have HH : Hid (Holds S B W W1) := fun v n xs h1 h2 => h1.kept hgr0 (.inr (fun e => by have := h2 B e; omega))
  have hn1 : W1.cell? ⟨B, 0, none⟩ = some (.int .i64 ((m : Int) + 1)) := HT.out.n
  have hb1 : W1.cell? ⟨B, 1, none⟩ = some (.slice av m cv) := HT.out.b
  have hf1 : W1.frozen? ⟨B, 1, none⟩ = false := HT.out.fz 1
  have hbB1 : B < W1.heap.size := HT.out.bB
  have hVB : some B ≠ (Value.slice av m cv).ownBlock := by
    intro e
    have := HT.out.vB B e.symm
    omega
  have hbA : ∀ o, (W1.alloc o).cell? ⟨B, 1, none⟩ = some (.slice av m cv) := fun o => (World.cell?_alloc_old _ _ _ (by show B ≠ _; omega)).trans hb1
  have hfA : ∀ o, (W1.alloc o).frozen? ⟨B, 1, none⟩ = false := fun o => (World.frozen?_of_block (w := W1) (a := ⟨B, 1, none⟩) ((World.grownBy_alloc W1 o none).block B hbB1 (by simp))).trans hf1
  have HAS : Hid (∀ k, k < W.heap.size → k ≠ B → W1.heap[k]? = W.heap[k]?) := fun k hk hkB => hgr0.block k hk (fun e => hkB (Option.some.inj e))
  have HSZ : Hid (W1.heap.size = W.heap.size) := show _ = _ by rw [hW1]; simp
  clear hgr0 hW1 hcn hcb hfz0 hfz1 hbB HST HL
  go_region_law (refine step_append_lies _ (by rfl) _ _ 36 (by rfl) S 82 i0 _ 3 56 Tryd.underlying36 hi hz0 hz1 hz2 (by rfl) (by decide) (.slice av m cv) m (ents E m) (by rfl) (by exact (HT.out.ent.alloc _)) ⟨W1.heap.size, 0, none⟩ 1 1 [.slice al nl cl, .slice none 0 0, .int .i64 ((m : Int) + 1)] (by rfl) (by rfl) (by exact World.news_of_block (cs := #[.slice al nl cl, .slice none 0 0, .int .i64 ((m : Int) + 1)]) (fr := (0, 0)) (heap_alloc_new W1 _)) (by simp [Value.oneCell']) (by decide) (by unfold maxLen; omega) (by omega) (by simp; omega) (W1.heap.size + 1) (by simp) ?_; intro g c w1 hown hgrow hat hglt; have hk1 : w1.cell? ⟨B, 1, none⟩ = some (.slice av m cv) := hgrow.cell (a := ⟨B, 1, none⟩) (by exact hbA _) hVB; have hk2 : w1.frozen? ⟨B, 1, none⟩ = false := (World.frozen?_of_block (a := ⟨B, 1, none⟩) (hgrow.block B (by simp; omega) hVB)).trans (by exact hfA _))
  all_goals
    go_wp2_with fail
    go_end0
    obtain ⟨k1, k2⟩ := HT.out.told HL1.out HLB.out HLE.out (by omega) (Nat.le_succ _) ((World.grownBy_alloc W1 (.cells #[.slice al nl cl, .slice none 0 0, .int .i64 ((m : Int) + 1)] 82) _).trans ⟨hgrow.os, hgrow.tape, hgrow.output, hgrow.size, hgrow.block⟩) hat hown
    refine ⟨rfl, .slice (some ⟨g, 0, none⟩) (m + 1) c, k1, fun v n xs h1 h2 => k2 v n xs (HH.out v n xs h1 h2) h2, fun k hk hkB hkV => ⟨?_, fun e => ?_⟩⟩
    · have hk1 : k < W1.heap.size := by rw [HSZ.out]; exact hk
      rw [Below.heap_setCell _ _ _ k (fun e => hkB e), hgrow.block k (by simp; omega) (fun e => hkV e.symm)]
      exact (heap_alloc_old W1 _ hk1).trans (HAS.out k hk hkB)
    · have e2 : g = k := Option.some.inj e
      rcases hat with h | h
      · exact hkV (by rw [h, e2])
      · have := HSZ.out
        omega

theorem bytes_any (S B m : Nat) (V : Value) (E : Nat → Value) (N : Nat → Nat) (X : Nat → List Value) (w0 W : World) (l : Value) (nl : Nat) (xl : List Value) (hm : m ≤ 1000) (st : Bk S B m m V E N X w0 W) (hl : RowW W S 5 1 l nl xl) (hlB : ∀ k, l.ownBlock = some k → k < B) (hle : ∀ i, i < m → (E i).ownBlock = none ∨ (E i).ownBlock ≠ l.ownBlock) :
    Calls Tryd.prog 11 #[.pointer (some ⟨B, 0, none⟩), l] W fun e w' => e = .returned (.tuple #[]) ∧ ∃ V', Bk S B (m + 1) (m + 1) V' (upd E m l) (upd N m nl) (upd X m xl) w0 w' ∧ Holds S B W w' ∧ Aside B V V' W w' := by
  go_enter Tryd.func11, Tryd.ntmps11
  go_wp2_with fail
  refine (keep_any S B m V E N X w0 W l nl xl hm st hl hlB hle).mono ?_
  rintro e w' ⟨rfl, h⟩
  go_wp2_with fail
  go_end0
  exact ⟨rfl, h⟩

/-- An empty book. -/
theorem Bk.new (S : Nat) (E : Nat → Value) (N : Nat → Nat) (X : Nat → List Value) (w0 W : World) (hS : S ≤ W.heap.size) (hb : Below S w0 W) (t : TypeId) :
    Bk S W.heap.size 0 0 (.slice none 0 0) E N X w0 (W.alloc (.cells #[.int .i64 0, .slice none 0 0, .slice none 0 0, .slice none 0 0, .slice none 0 0, .slice none 0 0, .slice none 0 0, .slice none 0 0, .slice none 0 0, .slice none 0 0, .slice none 0 0, .slice none 0 0, .slice none 0 0] t)) := by
  refine ⟨hS, by simp, by simp, by simp, fun j h1 h2 => ?_, fun j => ?_, World.ownsRow_nil _ _ _ _, fun k e => (by cases e), fun i hi => absurd hi (Nat.not_lt_zero _), fun i j hi => absurd hi (Nat.not_lt_zero _), fun i hi => absurd hi (Nat.not_lt_zero _), hb.alloc hS _⟩
  · have : j = 2 ∨ j = 3 ∨ j = 4 ∨ j = 5 ∨ j = 6 ∨ j = 7 ∨ j = 8 ∨ j = 9 ∨ j = 10 ∨ j = 11 ∨ j = 12 := by omega
    rcases this with rfl | rfl | rfl | rfl | rfl | rfl | rfl | rfl | rfl | rfl | rfl <;> simp
  · exact World.frozen?_alloc_new _ _ _ _

/-- What the book is when its lists are filled. -/
theorem Bk.st {S B m : Nat} {V : Value} {E : Nat → Value} {N : Nat → Nat} {X : Nat → List Value} {w0 W : World} (st : Bk S B m m V E N X w0 W) (hm : 0 < m) :
    ∃ h cap, Sep S B h m E ∧ St S B h m cap E N (fun _ => .slice none 0 0) X w0 W := by
  obtain ⟨h, cap, rfl, hSh, hlt⟩ := st.ent.form hm
  have hBh := st.vB h rfl
  have hcell := st.ent.cells (g := h) rfl
  have hadd : ∀ j, (⟨h, 0, none⟩ : Addr).add j = ⟨h, j, none⟩ := fun j => by rw [Addr.add_lit]; simp
  refine ⟨h, cap, ⟨st.SB, hSh, by omega, fun i hi e => ?_, fun i hi e => ?_, st.ee⟩, ⟨by have := st.SB; have := st.bB; omega, st.bB, hlt, st.b, fun i hi => ?_, fun i hi => ?_, fun i hi => ?_, fun j => st.ent.frozenAt j, st.rows, st.below, st.em⟩⟩
  · have := st.eB i hi B e; omega
  · have := st.eB i hi h e; omega
  · have := hcell (i * 3) _ (ents_at E m i hi).1; rw [hadd] at this; exact this
  · have := hcell (i * 3 + 1) _ (ents_at E m i hi).2.1; rw [hadd] at this; exact this
  · have := hcell (i * 3 + 2) _ (ents_at E m i hi).2.2; rw [hadd] at this; exact this
end Go.Proofs.YtjccjlhnjihfjaaDoor

/-! What a Book does with kinds of lists of which it holds none: nothing. -/
namespace Go.Proofs.YtjccjlhnjihfjaaDoor
open Go.RowKit

set_option maxHeartbeats 400000 in
theorem fillNumber_none (B : Nat) (W : World) (hc : W.cell? ⟨B, 2, none⟩ = some (.slice none 0 0)) :
    Calls Tryd.prog 30 #[.pointer (some ⟨B, 0, none⟩)] W fun e w' => e = .returned (.tuple #[]) ∧ w' = W := by
  go_enter Tryd.func30, Tryd.ntmps30
  go_wp2_with fail
  refine wp_loop_rounds 1 ?_
  rw [rounds_succ]
  go_wp2_with fail
  go_end0
  exact ⟨rfl, rfl⟩

set_option maxHeartbeats 400000 in
theorem growNumber_none (B : Nat) (W : World) (hc : W.cell? ⟨B, 2, none⟩ = some (.slice none 0 0)) :
    Calls Tryd.prog 42 #[.pointer (some ⟨B, 0, none⟩)] W fun e w' => e = .returned (.tuple #[]) ∧ w' = W := by
  go_enter Tryd.func42, Tryd.ntmps42
  go_wp2_with fail
  refine wp_loop_rounds 1 ?_
  rw [rounds_succ]
  go_wp2_with fail
  go_end0
  exact ⟨rfl, rfl⟩

set_option maxHeartbeats 400000 in
theorem lookNumber_none (B : Nat) (W : World) (hc : W.cell? ⟨B, 2, none⟩ = some (.slice none 0 0)) :
    Calls Tryd.prog 54 #[.pointer (some ⟨B, 0, none⟩)] W fun e w' => e = .returned (.bool true) ∧ w' = W := by
  go_enter Tryd.func54, Tryd.ntmps54
  go_wp2_with fail
  refine wp_loop_rounds 1 ?_
  rw [rounds_succ]
  go_wp2_with fail
  go_ret
  exact ⟨rfl, rfl⟩

set_option maxHeartbeats 400000 in
theorem fillInt_none (B : Nat) (W : World) (hc : W.cell? ⟨B, 3, none⟩ = some (.slice none 0 0)) :
    Calls Tryd.prog 31 #[.pointer (some ⟨B, 0, none⟩)] W fun e w' => e = .returned (.tuple #[]) ∧ w' = W := by
  go_enter Tryd.func31, Tryd.ntmps31
  go_wp2_with fail
  refine wp_loop_rounds 1 ?_
  rw [rounds_succ]
  go_wp2_with fail
  go_end0
  exact ⟨rfl, rfl⟩

set_option maxHeartbeats 400000 in
theorem growInt_none (B : Nat) (W : World) (hc : W.cell? ⟨B, 3, none⟩ = some (.slice none 0 0)) :
    Calls Tryd.prog 43 #[.pointer (some ⟨B, 0, none⟩)] W fun e w' => e = .returned (.tuple #[]) ∧ w' = W := by
  go_enter Tryd.func43, Tryd.ntmps43
  go_wp2_with fail
  refine wp_loop_rounds 1 ?_
  rw [rounds_succ]
  go_wp2_with fail
  go_end0
  exact ⟨rfl, rfl⟩

set_option maxHeartbeats 400000 in
theorem lookInt_none (B : Nat) (W : World) (hc : W.cell? ⟨B, 3, none⟩ = some (.slice none 0 0)) :
    Calls Tryd.prog 55 #[.pointer (some ⟨B, 0, none⟩)] W fun e w' => e = .returned (.bool true) ∧ w' = W := by
  go_enter Tryd.func55, Tryd.ntmps55
  go_wp2_with fail
  refine wp_loop_rounds 1 ?_
  rw [rounds_succ]
  go_wp2_with fail
  go_ret
  exact ⟨rfl, rfl⟩

set_option maxHeartbeats 400000 in
theorem fillText_none (B : Nat) (W : World) (hc : W.cell? ⟨B, 4, none⟩ = some (.slice none 0 0)) :
    Calls Tryd.prog 32 #[.pointer (some ⟨B, 0, none⟩)] W fun e w' => e = .returned (.tuple #[]) ∧ w' = W := by
  go_enter Tryd.func32, Tryd.ntmps32
  go_wp2_with fail
  refine wp_loop_rounds 1 ?_
  rw [rounds_succ]
  go_wp2_with fail
  go_end0
  exact ⟨rfl, rfl⟩

set_option maxHeartbeats 400000 in
theorem growText_none (B : Nat) (W : World) (hc : W.cell? ⟨B, 4, none⟩ = some (.slice none 0 0)) :
    Calls Tryd.prog 44 #[.pointer (some ⟨B, 0, none⟩)] W fun e w' => e = .returned (.tuple #[]) ∧ w' = W := by
  go_enter Tryd.func44, Tryd.ntmps44
  go_wp2_with fail
  refine wp_loop_rounds 1 ?_
  rw [rounds_succ]
  go_wp2_with fail
  go_end0
  exact ⟨rfl, rfl⟩

set_option maxHeartbeats 400000 in
theorem lookText_none (B : Nat) (W : World) (hc : W.cell? ⟨B, 4, none⟩ = some (.slice none 0 0)) :
    Calls Tryd.prog 56 #[.pointer (some ⟨B, 0, none⟩)] W fun e w' => e = .returned (.bool true) ∧ w' = W := by
  go_enter Tryd.func56, Tryd.ntmps56
  go_wp2_with fail
  refine wp_loop_rounds 1 ?_
  rw [rounds_succ]
  go_wp2_with fail
  go_ret
  exact ⟨rfl, rfl⟩

set_option maxHeartbeats 400000 in
theorem fillBlob_none (B : Nat) (W : World) (hc : W.cell? ⟨B, 5, none⟩ = some (.slice none 0 0)) :
    Calls Tryd.prog 33 #[.pointer (some ⟨B, 0, none⟩)] W fun e w' => e = .returned (.tuple #[]) ∧ w' = W := by
  go_enter Tryd.func33, Tryd.ntmps33
  go_wp2_with fail
  refine wp_loop_rounds 1 ?_
  rw [rounds_succ]
  go_wp2_with fail
  go_end0
  exact ⟨rfl, rfl⟩

set_option maxHeartbeats 400000 in
theorem growBlob_none (B : Nat) (W : World) (hc : W.cell? ⟨B, 5, none⟩ = some (.slice none 0 0)) :
    Calls Tryd.prog 45 #[.pointer (some ⟨B, 0, none⟩)] W fun e w' => e = .returned (.tuple #[]) ∧ w' = W := by
  go_enter Tryd.func45, Tryd.ntmps45
  go_wp2_with fail
  refine wp_loop_rounds 1 ?_
  rw [rounds_succ]
  go_wp2_with fail
  go_end0
  exact ⟨rfl, rfl⟩

set_option maxHeartbeats 400000 in
theorem lookBlob_none (B : Nat) (W : World) (hc : W.cell? ⟨B, 5, none⟩ = some (.slice none 0 0)) :
    Calls Tryd.prog 57 #[.pointer (some ⟨B, 0, none⟩)] W fun e w' => e = .returned (.bool true) ∧ w' = W := by
  go_enter Tryd.func57, Tryd.ntmps57
  go_wp2_with fail
  refine wp_loop_rounds 1 ?_
  rw [rounds_succ]
  go_wp2_with fail
  go_ret
  exact ⟨rfl, rfl⟩

set_option maxHeartbeats 400000 in
theorem fillRange_none (B : Nat) (W : World) (hc : W.cell? ⟨B, 6, none⟩ = some (.slice none 0 0)) :
    Calls Tryd.prog 34 #[.pointer (some ⟨B, 0, none⟩)] W fun e w' => e = .returned (.tuple #[]) ∧ w' = W := by
  go_enter Tryd.func34, Tryd.ntmps34
  go_wp2_with fail
  refine wp_loop_rounds 1 ?_
  rw [rounds_succ]
  go_wp2_with fail
  go_end0
  exact ⟨rfl, rfl⟩

set_option maxHeartbeats 400000 in
theorem growRange_none (B : Nat) (W : World) (hc : W.cell? ⟨B, 6, none⟩ = some (.slice none 0 0)) :
    Calls Tryd.prog 46 #[.pointer (some ⟨B, 0, none⟩)] W fun e w' => e = .returned (.tuple #[]) ∧ w' = W := by
  go_enter Tryd.func46, Tryd.ntmps46
  go_wp2_with fail
  refine wp_loop_rounds 1 ?_
  rw [rounds_succ]
  go_wp2_with fail
  go_end0
  exact ⟨rfl, rfl⟩

set_option maxHeartbeats 400000 in
theorem lookRange_none (B : Nat) (W : World) (hc : W.cell? ⟨B, 6, none⟩ = some (.slice none 0 0)) :
    Calls Tryd.prog 58 #[.pointer (some ⟨B, 0, none⟩)] W fun e w' => e = .returned (.bool true) ∧ w' = W := by
  go_enter Tryd.func58, Tryd.ntmps58
  go_wp2_with fail
  refine wp_loop_rounds 1 ?_
  rw [rounds_succ]
  go_wp2_with fail
  go_ret
  exact ⟨rfl, rfl⟩

set_option maxHeartbeats 400000 in
theorem fillFrame_none (B : Nat) (W : World) (hc : W.cell? ⟨B, 7, none⟩ = some (.slice none 0 0)) :
    Calls Tryd.prog 35 #[.pointer (some ⟨B, 0, none⟩)] W fun e w' => e = .returned (.tuple #[]) ∧ w' = W := by
  go_enter Tryd.func35, Tryd.ntmps35
  go_wp2_with fail
  refine wp_loop_rounds 1 ?_
  rw [rounds_succ]
  go_wp2_with fail
  go_end0
  exact ⟨rfl, rfl⟩

set_option maxHeartbeats 400000 in
theorem growFrame_none (B : Nat) (W : World) (hc : W.cell? ⟨B, 7, none⟩ = some (.slice none 0 0)) :
    Calls Tryd.prog 47 #[.pointer (some ⟨B, 0, none⟩)] W fun e w' => e = .returned (.tuple #[]) ∧ w' = W := by
  go_enter Tryd.func47, Tryd.ntmps47
  go_wp2_with fail
  refine wp_loop_rounds 1 ?_
  rw [rounds_succ]
  go_wp2_with fail
  go_end0
  exact ⟨rfl, rfl⟩

set_option maxHeartbeats 400000 in
theorem lookFrame_none (B : Nat) (W : World) (hc : W.cell? ⟨B, 7, none⟩ = some (.slice none 0 0)) :
    Calls Tryd.prog 59 #[.pointer (some ⟨B, 0, none⟩)] W fun e w' => e = .returned (.bool true) ∧ w' = W := by
  go_enter Tryd.func59, Tryd.ntmps59
  go_wp2_with fail
  refine wp_loop_rounds 1 ?_
  rw [rounds_succ]
  go_wp2_with fail
  go_ret
  exact ⟨rfl, rfl⟩

set_option maxHeartbeats 400000 in
theorem fillField_none (B : Nat) (W : World) (hc : W.cell? ⟨B, 8, none⟩ = some (.slice none 0 0)) :
    Calls Tryd.prog 36 #[.pointer (some ⟨B, 0, none⟩)] W fun e w' => e = .returned (.tuple #[]) ∧ w' = W := by
  go_enter Tryd.func36, Tryd.ntmps36
  go_wp2_with fail
  refine wp_loop_rounds 1 ?_
  rw [rounds_succ]
  go_wp2_with fail
  go_end0
  exact ⟨rfl, rfl⟩

set_option maxHeartbeats 400000 in
theorem growField_none (B : Nat) (W : World) (hc : W.cell? ⟨B, 8, none⟩ = some (.slice none 0 0)) :
    Calls Tryd.prog 48 #[.pointer (some ⟨B, 0, none⟩)] W fun e w' => e = .returned (.tuple #[]) ∧ w' = W := by
  go_enter Tryd.func48, Tryd.ntmps48
  go_wp2_with fail
  refine wp_loop_rounds 1 ?_
  rw [rounds_succ]
  go_wp2_with fail
  go_end0
  exact ⟨rfl, rfl⟩

set_option maxHeartbeats 400000 in
theorem lookField_none (B : Nat) (W : World) (hc : W.cell? ⟨B, 8, none⟩ = some (.slice none 0 0)) :
    Calls Tryd.prog 60 #[.pointer (some ⟨B, 0, none⟩)] W fun e w' => e = .returned (.bool true) ∧ w' = W := by
  go_enter Tryd.func60, Tryd.ntmps60
  go_wp2_with fail
  refine wp_loop_rounds 1 ?_
  rw [rounds_succ]
  go_wp2_with fail
  go_ret
  exact ⟨rfl, rfl⟩

set_option maxHeartbeats 400000 in
theorem fillMessage_none (B : Nat) (W : World) (hc : W.cell? ⟨B, 9, none⟩ = some (.slice none 0 0)) :
    Calls Tryd.prog 37 #[.pointer (some ⟨B, 0, none⟩)] W fun e w' => e = .returned (.tuple #[]) ∧ w' = W := by
  go_enter Tryd.func37, Tryd.ntmps37
  go_wp2_with fail
  refine wp_loop_rounds 1 ?_
  rw [rounds_succ]
  go_wp2_with fail
  go_end0
  exact ⟨rfl, rfl⟩

set_option maxHeartbeats 400000 in
theorem growMessage_none (B : Nat) (W : World) (hc : W.cell? ⟨B, 9, none⟩ = some (.slice none 0 0)) :
    Calls Tryd.prog 49 #[.pointer (some ⟨B, 0, none⟩)] W fun e w' => e = .returned (.tuple #[]) ∧ w' = W := by
  go_enter Tryd.func49, Tryd.ntmps49
  go_wp2_with fail
  refine wp_loop_rounds 1 ?_
  rw [rounds_succ]
  go_wp2_with fail
  go_end0
  exact ⟨rfl, rfl⟩

set_option maxHeartbeats 400000 in
theorem lookMessage_none (B : Nat) (W : World) (hc : W.cell? ⟨B, 9, none⟩ = some (.slice none 0 0)) :
    Calls Tryd.prog 61 #[.pointer (some ⟨B, 0, none⟩)] W fun e w' => e = .returned (.bool true) ∧ w' = W := by
  go_enter Tryd.func61, Tryd.ntmps61
  go_wp2_with fail
  refine wp_loop_rounds 1 ?_
  rw [rounds_succ]
  go_wp2_with fail
  go_ret
  exact ⟨rfl, rfl⟩

set_option maxHeartbeats 400000 in
theorem fillRule_none (B : Nat) (W : World) (hc : W.cell? ⟨B, 10, none⟩ = some (.slice none 0 0)) :
    Calls Tryd.prog 38 #[.pointer (some ⟨B, 0, none⟩)] W fun e w' => e = .returned (.tuple #[]) ∧ w' = W := by
  go_enter Tryd.func38, Tryd.ntmps38
  go_wp2_with fail
  refine wp_loop_rounds 1 ?_
  rw [rounds_succ]
  go_wp2_with fail
  go_end0
  exact ⟨rfl, rfl⟩

set_option maxHeartbeats 400000 in
theorem growRule_none (B : Nat) (W : World) (hc : W.cell? ⟨B, 10, none⟩ = some (.slice none 0 0)) :
    Calls Tryd.prog 50 #[.pointer (some ⟨B, 0, none⟩)] W fun e w' => e = .returned (.tuple #[]) ∧ w' = W := by
  go_enter Tryd.func50, Tryd.ntmps50
  go_wp2_with fail
  refine wp_loop_rounds 1 ?_
  rw [rounds_succ]
  go_wp2_with fail
  go_end0
  exact ⟨rfl, rfl⟩

set_option maxHeartbeats 400000 in
theorem lookRule_none (B : Nat) (W : World) (hc : W.cell? ⟨B, 10, none⟩ = some (.slice none 0 0)) :
    Calls Tryd.prog 62 #[.pointer (some ⟨B, 0, none⟩)] W fun e w' => e = .returned (.bool true) ∧ w' = W := by
  go_enter Tryd.func62, Tryd.ntmps62
  go_wp2_with fail
  refine wp_loop_rounds 1 ?_
  rw [rounds_succ]
  go_wp2_with fail
  go_ret
  exact ⟨rfl, rfl⟩

set_option maxHeartbeats 400000 in
theorem fillEvent_none (B : Nat) (W : World) (hc : W.cell? ⟨B, 11, none⟩ = some (.slice none 0 0)) :
    Calls Tryd.prog 39 #[.pointer (some ⟨B, 0, none⟩)] W fun e w' => e = .returned (.tuple #[]) ∧ w' = W := by
  go_enter Tryd.func39, Tryd.ntmps39
  go_wp2_with fail
  refine wp_loop_rounds 1 ?_
  rw [rounds_succ]
  go_wp2_with fail
  go_end0
  exact ⟨rfl, rfl⟩

set_option maxHeartbeats 400000 in
theorem growEvent_none (B : Nat) (W : World) (hc : W.cell? ⟨B, 11, none⟩ = some (.slice none 0 0)) :
    Calls Tryd.prog 51 #[.pointer (some ⟨B, 0, none⟩)] W fun e w' => e = .returned (.tuple #[]) ∧ w' = W := by
  go_enter Tryd.func51, Tryd.ntmps51
  go_wp2_with fail
  refine wp_loop_rounds 1 ?_
  rw [rounds_succ]
  go_wp2_with fail
  go_end0
  exact ⟨rfl, rfl⟩

set_option maxHeartbeats 400000 in
theorem lookEvent_none (B : Nat) (W : World) (hc : W.cell? ⟨B, 11, none⟩ = some (.slice none 0 0)) :
    Calls Tryd.prog 63 #[.pointer (some ⟨B, 0, none⟩)] W fun e w' => e = .returned (.bool true) ∧ w' = W := by
  go_enter Tryd.func63, Tryd.ntmps63
  go_wp2_with fail
  refine wp_loop_rounds 1 ?_
  rw [rounds_succ]
  go_wp2_with fail
  go_ret
  exact ⟨rfl, rfl⟩

set_option maxHeartbeats 400000 in
theorem fillReply_none (B : Nat) (W : World) (hc : W.cell? ⟨B, 12, none⟩ = some (.slice none 0 0)) :
    Calls Tryd.prog 40 #[.pointer (some ⟨B, 0, none⟩)] W fun e w' => e = .returned (.tuple #[]) ∧ w' = W := by
  go_enter Tryd.func40, Tryd.ntmps40
  go_wp2_with fail
  refine wp_loop_rounds 1 ?_
  rw [rounds_succ]
  go_wp2_with fail
  go_end0
  exact ⟨rfl, rfl⟩

set_option maxHeartbeats 400000 in
theorem growReply_none (B : Nat) (W : World) (hc : W.cell? ⟨B, 12, none⟩ = some (.slice none 0 0)) :
    Calls Tryd.prog 52 #[.pointer (some ⟨B, 0, none⟩)] W fun e w' => e = .returned (.tuple #[]) ∧ w' = W := by
  go_enter Tryd.func52, Tryd.ntmps52
  go_wp2_with fail
  refine wp_loop_rounds 1 ?_
  rw [rounds_succ]
  go_wp2_with fail
  go_end0
  exact ⟨rfl, rfl⟩

set_option maxHeartbeats 400000 in
theorem lookReply_none (B : Nat) (W : World) (hc : W.cell? ⟨B, 12, none⟩ = some (.slice none 0 0)) :
    Calls Tryd.prog 64 #[.pointer (some ⟨B, 0, none⟩)] W fun e w' => e = .returned (.bool true) ∧ w' = W := by
  go_enter Tryd.func64, Tryd.ntmps64
  go_wp2_with fail
  refine wp_loop_rounds 1 ?_
  rw [rounds_succ]
  go_wp2_with fail
  go_ret
  exact ⟨rfl, rfl⟩

end Go.Proofs.YtjccjlhnjihfjaaDoor

/-! The lists that a Book of lists of bytes was told are apart. -/
namespace Go.Proofs.YtjccjlhnjihfjaaDoor
open Go.RowKit

set_option maxRecDepth 20000 in
set_option maxHeartbeats 4000000 in
theorem apart_book (S B m : Nat) (V : Value) (E : Nat → Value) (N : Nat → Nat) (X : Nat → List Value) (w0 W : World) (hm0 : 0 < m) (hm : m ≤ 1000) (hN : ∀ i, i < m → N i ≤ 140737488351240) (bk : Bk S B m m V E N X w0 W) :
    Calls Tryd.prog 13 #[.pointer (some ⟨B, 0, none⟩)] W fun e w' => e = .returned (.bool true) ∧ Below S w0 w' := by
  obtain ⟨h, cap, sep, st⟩ := bk.st hm0
  go_enter Tryd.func13, Tryd.ntmps13
  have HF : Hid (Calls Tryd.prog 29 #[.pointer (some ⟨B, 0, none⟩)] W fun e w' => e = .returned (.tuple #[]) ∧ St S B h m cap E N (fun _ => .slice none 0 0) (fun i => List.replicate (N i) (mark i)) w0 w') := fill_any S B h m cap E N _ X w0 W hm hN (fun _ _ => rfl) sep st
  clear st bk
  go_wp2_with fail
  refine HF.out.mono ?_
  rintro e1 w1 ⟨rfl, st1⟩
  clear HF
  have HM : Hid (∀ j, 2 ≤ j → j < 13 → w1.cell? ⟨B, j, none⟩ = some (.slice none 0 0)) := st1.em
  have HS1 : Hid (St S B h m cap E N (fun _ => .slice none 0 0) (fun i => List.replicate (N i) (mark i)) w0 w1) := st1
  clear st1
  go_wp2_with fail
  refine (fillNumber_none B w1 (HM.out 2 (by decide) (by decide))).mono ?_
  rintro e2 wx ⟨rfl, hwx⟩
  obtain rfl := hwx.symm
  go_wp2_with fail
  refine (fillInt_none B w1 (HM.out 3 (by decide) (by decide))).mono ?_
  rintro e2 wx ⟨rfl, hwx⟩
  obtain rfl := hwx.symm
  go_wp2_with fail
  refine (fillText_none B w1 (HM.out 4 (by decide) (by decide))).mono ?_
  rintro e2 wx ⟨rfl, hwx⟩
  obtain rfl := hwx.symm
  go_wp2_with fail
  refine (fillBlob_none B w1 (HM.out 5 (by decide) (by decide))).mono ?_
  rintro e2 wx ⟨rfl, hwx⟩
  obtain rfl := hwx.symm
  go_wp2_with fail
  refine (fillRange_none B w1 (HM.out 6 (by decide) (by decide))).mono ?_
  rintro e2 wx ⟨rfl, hwx⟩
  obtain rfl := hwx.symm
  go_wp2_with fail
  refine (fillFrame_none B w1 (HM.out 7 (by decide) (by decide))).mono ?_
  rintro e2 wx ⟨rfl, hwx⟩
  obtain rfl := hwx.symm
  go_wp2_with fail
  refine (fillField_none B w1 (HM.out 8 (by decide) (by decide))).mono ?_
  rintro e2 wx ⟨rfl, hwx⟩
  obtain rfl := hwx.symm
  go_wp2_with fail
  refine (fillMessage_none B w1 (HM.out 9 (by decide) (by decide))).mono ?_
  rintro e2 wx ⟨rfl, hwx⟩
  obtain rfl := hwx.symm
  go_wp2_with fail
  refine (fillRule_none B w1 (HM.out 10 (by decide) (by decide))).mono ?_
  rintro e2 wx ⟨rfl, hwx⟩
  obtain rfl := hwx.symm
  go_wp2_with fail
  refine (fillEvent_none B w1 (HM.out 11 (by decide) (by decide))).mono ?_
  rintro e2 wx ⟨rfl, hwx⟩
  obtain rfl := hwx.symm
  go_wp2_with fail
  refine (fillReply_none B w1 (HM.out 12 (by decide) (by decide))).mono ?_
  rintro e2 wx ⟨rfl, hwx⟩
  obtain rfl := hwx.symm
  go_wp2_with fail
  refine (bk_grow_any S B h m cap E N _ w0 w1 hm hN (fun _ _ => rfl) sep HS1.out).mono ?_
  rintro e3 w3 ⟨rfl, L, st3, gr3⟩
  clear HM HS1
  have HM : Hid (∀ j, 2 ≤ j → j < 13 → w3.cell? ⟨B, j, none⟩ = some (.slice none 0 0)) := st3.em
  have HS3 : Hid (St S B h m cap E N L (fun i => List.replicate (N i) (mark i)) w0 w3) := st3
  have HG3 : Hid (Gr S B h m m E N L w3) := gr3
  clear st3 gr3
  go_wp2_with fail
  refine (growNumber_none B w3 (HM.out 2 (by decide) (by decide))).mono ?_
  rintro e2 wx ⟨rfl, hwx⟩
  obtain rfl := hwx.symm
  go_wp2_with fail
  refine (growInt_none B w3 (HM.out 3 (by decide) (by decide))).mono ?_
  rintro e2 wx ⟨rfl, hwx⟩
  obtain rfl := hwx.symm
  go_wp2_with fail
  refine (growText_none B w3 (HM.out 4 (by decide) (by decide))).mono ?_
  rintro e2 wx ⟨rfl, hwx⟩
  obtain rfl := hwx.symm
  go_wp2_with fail
  refine (growBlob_none B w3 (HM.out 5 (by decide) (by decide))).mono ?_
  rintro e2 wx ⟨rfl, hwx⟩
  obtain rfl := hwx.symm
  go_wp2_with fail
  refine (growRange_none B w3 (HM.out 6 (by decide) (by decide))).mono ?_
  rintro e2 wx ⟨rfl, hwx⟩
  obtain rfl := hwx.symm
  go_wp2_with fail
  refine (growFrame_none B w3 (HM.out 7 (by decide) (by decide))).mono ?_
  rintro e2 wx ⟨rfl, hwx⟩
  obtain rfl := hwx.symm
  go_wp2_with fail
  refine (growField_none B w3 (HM.out 8 (by decide) (by decide))).mono ?_
  rintro e2 wx ⟨rfl, hwx⟩
  obtain rfl := hwx.symm
  go_wp2_with fail
  refine (growMessage_none B w3 (HM.out 9 (by decide) (by decide))).mono ?_
  rintro e2 wx ⟨rfl, hwx⟩
  obtain rfl := hwx.symm
  go_wp2_with fail
  refine (growRule_none B w3 (HM.out 10 (by decide) (by decide))).mono ?_
  rintro e2 wx ⟨rfl, hwx⟩
  obtain rfl := hwx.symm
  go_wp2_with fail
  refine (growEvent_none B w3 (HM.out 11 (by decide) (by decide))).mono ?_
  rintro e2 wx ⟨rfl, hwx⟩
  obtain rfl := hwx.symm
  go_wp2_with fail
  refine (growReply_none B w3 (HM.out 12 (by decide) (by decide))).mono ?_
  rintro e2 wx ⟨rfl, hwx⟩
  obtain rfl := hwx.symm
  go_wp2_with fail
  refine (look_any S B h m cap E N L w0 w3 hm hN HS3.out HG3.out).mono ?_
  rintro e4 w4 ⟨rfl, hg4⟩
  have HM4 : Hid (∀ j, 2 ≤ j → j < 13 → w4.cell? ⟨B, j, none⟩ = some (.slice none 0 0)) := fun j h1 h2 => hg4.cell (HM.out j h1 h2) (by simp)
  have HB4 : Hid (Below S w0 w4) := HS3.out.below.grown hg4 HS3.out.sS (fun k e => by cases e)
  clear HM HS3 HG3 hg4
  go_wp2_with fail
  refine (lookNumber_none B w4 (HM4.out 2 (by decide) (by decide))).mono ?_
  rintro e2 wx ⟨rfl, hwx⟩
  obtain rfl := hwx.symm
  go_wp2_with fail
  refine (lookInt_none B w4 (HM4.out 3 (by decide) (by decide))).mono ?_
  rintro e2 wx ⟨rfl, hwx⟩
  obtain rfl := hwx.symm
  go_wp2_with fail
  refine (lookText_none B w4 (HM4.out 4 (by decide) (by decide))).mono ?_
  rintro e2 wx ⟨rfl, hwx⟩
  obtain rfl := hwx.symm
  go_wp2_with fail
  refine (lookBlob_none B w4 (HM4.out 5 (by decide) (by decide))).mono ?_
  rintro e2 wx ⟨rfl, hwx⟩
  obtain rfl := hwx.symm
  go_wp2_with fail
  refine (lookRange_none B w4 (HM4.out 6 (by decide) (by decide))).mono ?_
  rintro e2 wx ⟨rfl, hwx⟩
  obtain rfl := hwx.symm
  go_wp2_with fail
  refine (lookFrame_none B w4 (HM4.out 7 (by decide) (by decide))).mono ?_
  rintro e2 wx ⟨rfl, hwx⟩
  obtain rfl := hwx.symm
  go_wp2_with fail
  refine (lookField_none B w4 (HM4.out 8 (by decide) (by decide))).mono ?_
  rintro e2 wx ⟨rfl, hwx⟩
  obtain rfl := hwx.symm
  go_wp2_with fail
  refine (lookMessage_none B w4 (HM4.out 9 (by decide) (by decide))).mono ?_
  rintro e2 wx ⟨rfl, hwx⟩
  obtain rfl := hwx.symm
  go_wp2_with fail
  refine (lookRule_none B w4 (HM4.out 10 (by decide) (by decide))).mono ?_
  rintro e2 wx ⟨rfl, hwx⟩
  obtain rfl := hwx.symm
  go_wp2_with fail
  refine (lookEvent_none B w4 (HM4.out 11 (by decide) (by decide))).mono ?_
  rintro e2 wx ⟨rfl, hwx⟩
  obtain rfl := hwx.symm
  go_wp2_with fail
  refine (lookReply_none B w4 (HM4.out 12 (by decide) (by decide))).mono ?_
  rintro e2 wx ⟨rfl, hwx⟩
  obtain rfl := hwx.symm
  go_wp2_with fail
  go_ret
  exact ⟨rfl, HB4.out⟩
end Go.Proofs.YtjccjlhnjihfjaaDoor

/-! What SameBytes answers of any two slices. -/
namespace Go.Proofs.YtjccjlhnjihfjaaDoor
open Go Go.RowKit

set_option maxRecDepth 20000 in
set_option maxHeartbeats 1000000 in
theorem same_bool (p q : SL) (w : World) (hp : p.Ok w) (hq : q.Ok w) (hl : p.len ≤ 8388608) (hl2 : q.len ≤ 9223372036854775807) :
    Calls Tryd.prog 12 #[.slice p.a p.len p.cap, .slice q.a q.len q.cap] w fun e w' => e = .returned (.bool (decide (p.b = q.b))) ∧ Below w.heap.size w w' := by
  have HP := veil hp
  have HQ := veil hq
  clear hp hq
  by_cases hpq : p.len = q.len
  · obtain ⟨pa, pl, pc, pg, po, pb⟩ := p
    obtain ⟨qa, ql, qc, qg, qo, qb⟩ := q
    simp only at hpq hl ⊢
    subst hpq
    have h1 : ((pl : Int) != (pl : Int)) = false := by simp
    go_enter Tryd.func12, Tryd.ntmps12
    go_wp2
    go_loopw [5] (fun i wr => ∃ k : Nat, k ≤ pl ∧ i = .int .i64 k ∧ (∀ j, j < k → gb pb j = gb qb j) ∧ Below w.heap.size w wr)
      (fun i _ => pl - (intOf i).toNat)
    case atStart => exact ⟨0, Nat.zero_le _, rfl, (fun j h => absurd h (Nat.not_lt_zero _)), Below.refl _ _⟩
    case round =>
      obtain ⟨k, hk, rfl, hJ, hbel⟩ := hrel
      have HJ := veil hJ
      clear hJ
      by_cases hlt : k < pl
      · have ha := HP.out.at_ (show 0 < pl by omega)
        have hb := HQ.out.at_ (show 0 < pl by omega)
        simp only at ha hb
        subst ha hb
        have hca := (HP.out.below hbel).cell k hlt
        have hcb := (HQ.out.below hbel).cell k hlt
        simp only at hca hcb
        have HBEL := veil hbel
        clear hbel
        by_cases he : gb pb k = gb qb k
        · have hne : (v8 (gb pb k) != v8 (gb qb k)) = false := by rw [he]; simp
          have hca2 : wr.drew.cell? ⟨pg, po + k, none⟩ = some (.int .u8 (v8 (gb pb k))) := hca
          have hcb2 : wr.drew.cell? ⟨qg, qo + k, none⟩ = some (.int .u8 (v8 (gb qb k))) := hcb
          have HJ2 := veil (show ∀ j, j < k + 1 → gb pb j = gb qb j from fun j hj => by
            rcases Nat.lt_or_ge j k with c | c
            · exact HJ.out j c
            · rw [show j = k by omega]; exact he)
          clear he
          generalize v8 (gb pb k) = x at *
          generalize v8 (gb qb k) = y at *
          go_wp2_with fail
          go_region
          all_goals go_wp2
          all_goals
            go_roundw
            case rel => exact ⟨k + 1, by omega, by go_num, HJ2.out, HBEL.out.drew⟩
            case measure => simp [intOf]; omega
        · have hne : (v8 (gb pb k) != v8 (gb qb k)) = true := by
            simp
            exact fun e => he (v8_inj e)
          have HD := veil (show decide (pb = qb) = false from decide_eq_false (fun e => he (by rw [e])))
          clear he
          generalize v8 (gb pb k) = x at *
          generalize v8 (gb qb k) = y at *
          go_wp2_with fail
          go_region
          all_goals go_wp2
          all_goals
            go_ret
            exact ⟨by rw [HD.out]; rfl, HBEL.out.drew⟩
      · obtain rfl : k = pl := by omega
        have HD := veil (show decide (pb = qb) = true from decide_eq_true (by
          have l1 := HP.out.hb
          have l2 := HQ.out.hb
          simp only at l1 l2
          apply List.ext_getElem?
          intro j
          rcases Nat.lt_or_ge j k with c | c
          · have := HJ.out j c
            unfold gb at this
            rw [List.getElem?_eq_getElem (by omega), List.getElem?_eq_getElem (by omega)] at this ⊢
            exact congrArg some this
          · rw [List.getElem?_eq_none (by omega), List.getElem?_eq_none (by omega)]))
        clear hlt hk
        go_wp2_with fail
        go_ret
        exact ⟨by rw [HD.out]; rfl, hbel⟩
  · have h1 : ((p.len : Int) != (q.len : Int)) = true := by simp; omega
    have HD := veil (show decide (p.b = q.b) = false from decide_eq_false (fun e => hpq (by rw [← HP.out.hb, ← HQ.out.hb, e])))
    clear hpq
    go_enter Tryd.func12, Tryd.ntmps12
    go_wp2
    go_ret
    exact ⟨by rw [HD.out]; rfl, Below.refl _ _⟩

theorem same_yesK (p q : SL) (w : World) (hp : p.Ok w) (hq : q.Ok w) (hl : p.len ≤ 8388608) (hb : p.b = q.b) :
    Calls Tryd.prog 12 #[.slice p.a p.len p.cap, .slice q.a q.len q.cap] w fun e w' => e = .returned (.bool true) ∧ Below w.heap.size w w' := by
  have h := same_bool p q w hp hq hl (by rw [← hq.hb, ← hb, hp.hb]; omega)
  rw [decide_eq_true hb] at h
  exact h
end Go.Proofs.YtjccjlhnjihfjaaDoor
