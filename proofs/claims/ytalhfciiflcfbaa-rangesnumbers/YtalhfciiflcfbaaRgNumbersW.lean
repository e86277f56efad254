/-
  RangesNumbers, walked.
-/
import Derived.Test.YtalhfciiflcfbaaRgBothW
import Derived.Test.YtalhfciiflcfbaaFrGen
import Derived.Test.YtalhfciiflcfbaaChaSl
namespace Go.Proofs.Ytalhfciiflcfbaa
open Go Go.RowKit Go.Shelf

def nAt (b : List By) (j : Nat) : Nat := (gb b j).toNat
/-- Is a number among the first bytes; among the last ones? -/
def amongB (b : List By) (k m : Nat) : Bool := (b.take k).any fun c => decide (m = c.toNat)
def behindB (b : List By) (k m : Nat) : Bool := (b.drop (b.length - k)).any fun c => decide (m = c.toNat)
theorem among_succ {b : List By} {k : Nat} (hk : k < b.length) (m : Nat) : amongB b (k + 1) m = (amongB b k m || decide (m = nAt b k)) := by
  unfold amongB nAt
  rw [List.take_succ_eq_append_getElem hk, List.any_append]
  have : gb b k = b[k] := by unfold gb; rw [List.getElem?_eq_getElem hk]; rfl
  rw [this]
  simp
theorem behind_succ {b : List By} {k : Nat} (hk : k < b.length) (m : Nat) : behindB b (k + 1) m = (behindB b k m || decide (m = nAt b (b.length - 1 - k))) := by
  unfold behindB nAt
  have hj : b.length - 1 - k < b.length := by omega
  rw [show b.length - (k + 1) = b.length - 1 - k by omega, List.drop_eq_getElem_cons hj, List.any_cons, show b.length - 1 - k + 1 = b.length - k by omega, Bool.or_comm]
  have : gb b (b.length - 1 - k) = b[b.length - 1 - k] := by unfold gb; rw [List.getElem?_eq_getElem hj]; rfl
  rw [this]
theorem all_same (b : List By) (m : Nat) : amongB b b.length m = behindB b b.length m := by
  unfold amongB behindB
  rw [List.take_of_length_le (Nat.le_refl _), Nat.sub_self, List.drop_zero]
def boolsA (l : List Bool) : Array Value := (l.map Value.bool).toArray
theorem boolsA_get (l : List Bool) (j : Nat) (h : j < l.length) : (boolsA l)[j]? = some (.bool (l[j]?.getD false)) := by
  unfold boolsA
  rw [List.getElem?_toArray, List.getElem?_map, List.getElem?_eq_getElem h]
  rfl
theorem boolsA_set (l : List Bool) (j : Nat) (v : Bool) : (boolsA l).setIfInBounds j (.bool v) = boolsA (l.set j v) := by
  unfold boolsA
  rw [List.setIfInBounds_toArray, List.map_set]
/-- What the law knows of its array: which numbers have come. -/
structure There (b : List By) (k : Nat) (l : List Bool) : Prop where
  len : l.length = 256
  at_ : ∀ m, m < 256 → l[m]?.getD false = amongB b k m
def no256 : List Bool := List.replicate 256 false
theorem there_none (b : List By) : There b 0 no256 := ⟨by unfold no256; rw [List.length_replicate], fun m hm => by
  unfold no256 amongB
  rw [List.getElem?_replicate, if_pos hm]
  rfl⟩
theorem There.next {b : List By} {k : Nat} {l : List Bool} (h : There b k l) (hk : k < b.length) : There b (k + 1) (l.set (nAt b k) true) := by
  refine ⟨by rw [List.length_set]; exact h.len, fun m hm => ?_⟩
  rw [among_succ hk]
  by_cases e : m = nAt b k
  · subst e
    rw [List.getElem?_set_self (by rw [h.len]; exact hm), decide_eq_true rfl]
    simp
  · rw [List.getElem?_set_ne (Ne.symm e), h.at_ m hm, decide_eq_false e]
    simp
/-- A set to which so many numbers were added. -/
structure SetN (B : Nat) (w : World) (k : Nat) (f : Nat → Bool) (o : RL) : Prop where
  ok : o.Ok w
  far : 0 < o.len → o.g ≠ B
  set : Rg.setOk o.l
  len : o.l.length ≤ k
  has : ∀ m, Rg.hasL o.l m = f m
theorem ans_far {B : Nat} {w : World} {o : RL} (h : AnsR B w o) (hl : 0 < o.len) : B ≤ o.g := by
  have e := h.ok.at_ hl
  rcases h.own.2 with ⟨_, h4⟩ | ⟨g, cap, cur, h3, h5, _⟩
  · omega
  · rw [e] at h3
    injection h3 with e1
    injection e1 with e1
    injection e1 with e1
    omega
theorem SetN.below {B : Nat} {w w' : World} {k : Nat} {f : Nat → Bool} {o : RL} (h : SetN B w k f o) (hb : Below w.heap.size w w') : SetN B w' k f o := ⟨h.ok.below hb, h.far, h.set, h.len, h.has⟩
theorem SetN.cell {B c : Nat} {w : World} {k : Nat} {f : Nat → Bool} {o : RL} (h : SetN B w k f o) (v : Value) : SetN B (w.setCell ⟨B, c, none⟩ v) k f o :=
  ⟨h.ok.same (fun p => Below.heap_setCell w _ v _ (h.far p)) (by simp [World.setCell]), h.far, h.set, h.len, h.has⟩
theorem SetN.next {B base : Nat} {w w' : World} {k n : Nat} {f : Nat → Bool} {o o' : RL} {E : Int} (h : SetN B w k f o) (hk : k < 60) (hn : n < 256) (hc : Rg.Comb Rg.orB o.l [(n, n)] o'.l E) (ha : AnsR base w' o') (hB : B < base) : E = 0 ∧ SetN B w' (k + 1) (fun m => f m || decide (m = n)) o' := by
  obtain ⟨e, h1, h2, h3⟩ := Rg.add_number hn hk h.set h.len hc
  exact ⟨e, ha.ok, (fun p => by have := ans_far ha p; omega), h1, h2, fun m => by rw [h3, h.has]⟩
theorem SetN.congr {B : Nat} {w : World} {k : Nat} {f g : Nat → Bool} {o : RL} (h : SetN B w k f o) (e : ∀ m, f m = g m) : SetN B w k g o := ⟨h.ok, h.far, h.set, h.len, fun m => by rw [h.has, e]⟩
theorem nAt_lt (b : List By) (j : Nat) : nAt b j < 256 := (gb b j).isLt

theorem run_atN {P : Program} {a : Act} {o : Oper} (t e : TypeId) (x ix : Operand) (g off len cap j : Nat) (ho : o.op = .indexAddr t x ix) (hx : a.eval x = .slice (some ⟨g, off, none⟩) len cap) (hix : a.eval ix = .int .i64 (j : Int))
    (hu : P.underlying t = some (.slice e)) (hi : (P.info? e).map (·.size) = some 1) (hj : j < len) (W : World) : (execOp a.eval o).run P W = .ok (.value (.pointer (some ⟨g, off + j, none⟩))) W := by
  have hsz : (sizeOf e).run P W = .ok 1 W := by
    cases hq : P.info? e with
    | none => simp [hq] at hi
    | some i =>
      have : i.size = 1 := by simpa [hq] using hi
      simp [sizeOf, typeInfo, hq, this]
  unfold execOp
  simp [ho, hx, hix, Instr.indexAt, asIntOf, run_underlying hu, hj, hsz, Addr.add]
theorem run_convN {P : Program} {a : Act} {o : Oper} (t t' : TypeId) (x : Operand) (r : Nat) (hr : r < 256) (ho : o.op = .convert t t' x) (hx : a.eval x = .int .u8 (r : Int)) (ht : P.underlying t = some (.int .u8)) (ht' : P.underlying t' = some (.int .u64)) (W : World) :
    (execOp a.eval o).run P W = .ok (.value (.int .u64 (r : Int))) W := by
  have hw : IntKind.u64.wrap (r : Int) = (r : Int) := by rw [IntKind.wrap_u64]; omega
  unfold execOp
  simp only [ho, hx]
  simp [convert, run_underlying ht, run_underlying ht', Conv.intToInt, hw]
theorem run_convI {P : Program} {a : Act} {o : Oper} (t t' : TypeId) (x : Operand) (r : Nat) (hr : r < 256) (ho : o.op = .convert t t' x) (hx : a.eval x = .int .i64 (r : Int)) (ht : P.underlying t = some (.int .i64)) (ht' : P.underlying t' = some (.int .u64)) (W : World) :
    (execOp a.eval o).run P W = .ok (.value (.int .u64 (r : Int))) W := by
  have hw : IntKind.u64.wrap (r : Int) = (r : Int) := by rw [IntKind.wrap_u64]; omega
  unfold execOp
  simp only [ho, hx]
  simp [convert, run_underlying ht, run_underlying ht', Conv.intToInt, hw]
theorem run_extractN {P : Program} {a : Act} {o : Oper} (x : Operand) (j : Nat) (vs : Array Value) (v : Value) (ho : o.op = .extract x j) (hx : a.eval x = .tuple vs) (hv : vs[j]? = some v) (W : World) : (execOp a.eval o).run P W = .ok (.value v) W := by
  unfold execOp
  simp [ho, hx, Instr.extract, hv]
theorem run_addrN {P : Program} {a : Act} {o : Oper} (t e : TypeId) (n : Nat) (x ix : Operand) (g j : Nat) (ho : o.op = .indexAddr t x ix) (hx : a.eval x = .pointer (some ⟨g, 0, none⟩)) (hix : a.eval ix = .int .i64 (j : Int))
    (hu : P.underlying t = some (.array n e)) (hi : (P.info? e).map (·.size) = some 1) (hj : j < n) (W : World) : (execOp a.eval o).run P W = .ok (.value (.pointer (some ⟨g, j, none⟩))) W := by
  have hsz : (sizeOf e).run P W = .ok 1 W := by
    cases hq : P.info? e with
    | none => simp [hq] at hi
    | some i =>
      have : i.size = 1 := by simpa [hq] using hi
      simp [sizeOf, typeInfo, hq, this]
  unfold execOp
  simp [ho, hx, hix, Instr.indexAt, asIntOf, Instr.sureAddr, run_underlying hu, hj, hsz, Addr.add]
  omega
def depH : Nat → List Nat
  | 2 => [1]
  | 3 => [0, 2]
  | 5 => [4]
  | 6 => [5]
  | 7 => [3, 6]
  | _ => []
def valH (oa : RL) (B m : Nat) (b : Bool) : Nat → Value
  | 0 => .slice oa.a oa.len oa.cap
  | 1 => .int .i64 (m : Int)
  | 2 => .int .u64 (m : Int)
  | 3 => .bool b
  | 4 => .int .i64 (m : Int)
  | 5 => .pointer (some ⟨B, m, none⟩)
  | 6 => .bool b
  | _ => .bool false
def depN : Nat → List Nat
  | 3 => [1, 2]
  | 4 => [3]
  | 5 => [4]
  | 8 => [6, 7]
  | 9 => [8]
  | 10 => [9]
  | 11 => [5, 10]
  | 12 => [0, 11]
  | 13 => [12]
  | 14 => [13]
  | 15 => [13]
  | 16 => [14]
  | 17 => [15]
  | _ => []
/-- What each operation of a round brings about. -/
def genN (B : Nat) (q : SL) (oa : RL) (k c : Nat) (f : Nat → Bool) : Nat → World → Value → Prop
  | 0, _, v => v = .slice oa.a oa.len oa.cap
  | 1, _, v => v = .slice q.a q.len q.cap
  | 2, _, v => v = .int .i64 (k : Int)
  | 3, _, v => v = .pointer (some ⟨q.g, q.off + k, none⟩)
  | 4, _, v => v = .int .u8 (c : Int)
  | 5, _, v => v = .int .u64 (c : Int)
  | 6, _, v => v = .slice q.a q.len q.cap
  | 7, _, v => v = .int .i64 (k : Int)
  | 8, _, v => v = .pointer (some ⟨q.g, q.off + k, none⟩)
  | 9, _, v => v = .int .u8 (c : Int)
  | 10, _, v => v = .int .u64 (c : Int)
  | 11, _, v => v = .agg #[.int .u64 (c : Int), .int .u64 (c : Int)]
  | 12, W, v => ∃ o : RL, v = .tuple #[.slice o.a o.len o.cap, .int .i64 0] ∧ SetN B W (k + 1) f o
  | 13, W, v => ∃ o : RL, v = .tuple #[.slice o.a o.len o.cap, .int .i64 0] ∧ SetN B W (k + 1) f o
  | 14, W, v => ∃ o : RL, v = .slice o.a o.len o.cap ∧ SetN B W (k + 1) f o
  | 15, _, v => v = .int .i64 0
  | 16, W, v => ∃ o : RL, v = .slice o.a o.len o.cap ∧ SetN B W (k + 1) f o
  | _, _, v => v = .int .i64 0
theorem genN_mono {B : Nat} {q : SL} {oa : RL} {k c : Nat} {f : Nat → Bool} : ∀ j W W' v, Below W.heap.size W W' → genN B q oa k c f j W v → genN B q oa k c f j W' v := by
  intro j W W' v hb h
  match j, h with
  | 0, h => exact h
  | 1, h => exact h
  | 2, h => exact h
  | 3, h => exact h
  | 4, h => exact h
  | 5, h => exact h
  | 6, h => exact h
  | 7, h => exact h
  | 8, h => exact h
  | 9, h => exact h
  | 10, h => exact h
  | 11, h => exact h
  | 12, ⟨o, e, h⟩ => exact ⟨o, e, h.below hb⟩
  | 13, ⟨o, e, h⟩ => exact ⟨o, e, h.below hb⟩
  | 14, ⟨o, e, h⟩ => exact ⟨o, e, h.below hb⟩
  | 15, h => exact h
  | 16, ⟨o, e, h⟩ => exact ⟨o, e, h.below hb⟩
  | _ + 17, h => exact h

set_option maxRecDepth 100000 in
set_option maxHeartbeats 4000000 in
theorem numbers_walk (q : SL) (w : World) (hq : q.Ok w) (hsz : q.len ≤ 140737488355328) :
    Calls Try.prog 6 #[.slice q.a q.len q.cap] w fun e w' => e = .returned (.bool true) ∧ Below w.heap.size w w' := by
  by_cases h60 : 60 < q.len
  · have f60 : decide ((60 : Int) < (q.len : Int)) = true := by simp; omega
    have f60n : decide (60 < q.len) = true := by simp; omega
    clear h60 hq
    go_enter Try.func6, Try.ntmps6
    go_wp2_with fail
    refine (alive_any w).mono ?_
    rintro e1 w1 ⟨rfl, hb1⟩
    go_wp2_with fail
    refine (alive_any w1).mono ?_
    rintro e2 w2 ⟨rfl, hb2⟩
    go_wp2
    go_ret
    exact ⟨rfl, hb1.trans (hb2.mono hb1.size)⟩
  have f60 : decide ((60 : Int) < (q.len : Int)) = false := by simp; omega
  have f60n : decide (60 < q.len) = false := by simp; omega
  have hl60 : q.len ≤ 60 := by omega
  have HQ := veil hq
  have HL := veil hq.hb
  clear hsz hq h60
  refine (callsIn_wide (n := 4)).1 ?_
  refine callsIn_of_wp Try.func6 rfl trivial ?_ rfl
  simp only [Try.ntmps6, List.size_toArray, List.length_cons, List.length_nil, Nat.reduceAdd, Nat.reduceSub, Array.replicate_succ, Array.replicate_zero, List.push_toArray, List.append_toArray, List.nil_append, List.cons_append]
  gi_wp2_with fail
  refine ⟨trivial, (callsIn_wide.2 (alive_any w)).mono ?_⟩
  rintro e1 w1 ⟨rfl, hb1⟩
  have HB1 := veil hb1
  clear hb1
  gi_wp2_with (with_reducible (show wpListIn _ _ _ _ _ (⟨_, Op.alloc 38, _, _, _, _⟩ :: _) _ _)
               refine alloc_rowIn rfl 38 rfl (boolsA no256) (by kernel_rfl) ?_)
  have R0 : Hid (Row (w1.alloc (.cells (boolsA no256) 38)) w1.heap.size 38 (boolsA no256)) := Row.new _ _ _
  have B0 := veil (HB1.out.alloc HB1.out.size (.cells (boolsA no256) 38))
  have hw1 := HB1.out.size
  generalize w1.alloc (.cells (boolsA no256) 38) = v1 at *
  generalize w1.heap.size = B at *
  gi_loopw [3, 4, 6] (fun av bv iv wr => ∃ (k : Nat) (oa ob : RL) (l : List Bool), k ≤ q.len ∧ av = .slice oa.a oa.len oa.cap ∧ bv = .slice ob.a ob.len ob.cap ∧ iv = .int .i64 (k : Int) ∧ SetN B wr k (amongB q.b k) oa ∧ SetN B wr k (behindB q.b k) ob ∧ There q.b k l ∧ Row wr B 38 (boolsA l) ∧ Below w.heap.size w wr)
    (fun _ _ iv _ => q.len - (intOf iv).toNat)
  case atStart =>
    exact ⟨0, ⟨none, 0, 0, 0, 0, []⟩, ⟨none, 0, 0, 0, 0, []⟩, _, Nat.zero_le _, rfl, rfl, rfl, ⟨nil_rl _, (fun p => absurd p (Nat.lt_irrefl 0)), ⟨by decide, trivial⟩, Nat.le_refl _, fun m => rfl⟩, ⟨nil_rl _, (fun p => absurd p (Nat.lt_irrefl 0)), ⟨by decide, trivial⟩, Nat.le_refl _, fun m => by unfold behindB; rw [Nat.sub_zero, List.drop_length]; rfl⟩, there_none _, R0.out, B0.out⟩
  case round =>
    obtain ⟨k, oa, ob, l, hk, rfl, rfl, rfl, hoa, hob, hth, hrow, hbel⟩ := hrel
    have HOA := veil hoa
    have HOB := veil hob
    have HTH := veil hth
    have HROW := veil hrow
    have HBEL := veil hbel
    have hBl := hrow.lt
    clear hoa hob hth hrow hbel R0 B0
    by_cases hlt : k < q.len
    · have hdk : decide ((k : Int) < (q.len : Int)) = true := by simp; omega
      have hdkn : decide (k < q.len) = true := by simp; omega
      have e1 := HQ.out.at_ (by omega)
      obtain ⟨c, hc⟩ : ∃ c, c = nAt q.b k := ⟨_, rfl⟩
      have HC := veil hc
      have hc256 : c < 256 := by rw [hc]; exact nAt_lt _ _
      clear hc
      gi_wp2_with fail
      refine wpIn_region_any (by kernel_rfl) ?_
      refine anyIn_gen2 (w0 := wr) (genN B q oa k c (fun m => amongB q.b k m || decide (m = c))) genN_mono [28, 29, 30, 31, 32, 33, 34, 35, 36, 37, 38, 39, 40, 27, 41, 42, 7, 8] depN (by kernel_rfl) rfl (by decide) ((Below.refl _ _).drew) ?step3 ?done3
      case step3 =>
        intro x W ii d hW hdi hdep
        have okW := HQ.out.below (HBEL.out.trans (hW.mono HBEL.out.size))
        have hoaW := HOA.out.below hW
        have cell := okW.cell k hlt
        rw [show v8 (gb q.b k) = (c : Int) by rw [HC.out]; rfl] at cell
        match ii, hdi, hdep with
        | 0, hdi, _ =>
          obtain rfl := Option.some.inj hdi
          exact OI_value rfl rfl (about_none (by intro c h; cases h)) (by intro c h; cases h) (.slice oa.a oa.len oa.cap) W (by kernel_rfl) ⟨_, rfl, Below.refl _ _, rfl⟩
        | 1, hdi, _ =>
          obtain rfl := Option.some.inj hdi
          exact OI_value rfl rfl (about_none (by intro c h; cases h)) (by intro c h; cases h) (.slice q.a q.len q.cap) W (by kernel_rfl) ⟨_, rfl, Below.refl _ _, rfl⟩
        | 6, hdi, _ =>
          obtain rfl := Option.some.inj hdi
          exact OI_value rfl rfl (about_none (by intro c h; cases h)) (by intro c h; cases h) (.slice q.a q.len q.cap) W (by kernel_rfl) ⟨_, rfl, Below.refl _ _, rfl⟩
        | 2, hdi, _ =>
          obtain rfl := Option.some.inj hdi
          exact OI_value rfl rfl (about_none (by intro c h; cases h)) (by intro c h; cases h) (.int .i64 (k : Int)) W (by kernel_rfl) ⟨_, rfl, Below.refl _ _, rfl⟩
        | 7, hdi, _ =>
          obtain rfl := Option.some.inj hdi
          exact OI_value rfl rfl (about_none (by intro c h; cases h)) (by intro c h; cases h) (.int .i64 (k : Int)) W (by kernel_rfl) ⟨_, rfl, Below.refl _ _, rfl⟩
        | 3, hdi, hdep =>
          obtain rfl := Option.some.inj hdi
          rw [updV_self (show x 1 = .slice (some ⟨q.g, q.off, none⟩) q.len q.cap by rw [← e1]; exact hdep 1 (by simp [depN])), updV_self (show updV x 1 _ 2 = .int .i64 (k : Int) from hdep 2 (by simp [depN]))]
          exact OI_value rfl rfl (about_none (by intro c h; cases h)) (by intro c h; cases h) _ W (run_atN 37 5 _ _ q.g q.off q.len q.cap k rfl (by kernel_rfl) (by kernel_rfl) Try.underlying37 (by kernel_rfl) hlt W) ⟨_, rfl, Below.refl _ _, rfl⟩
        | 8, hdi, hdep =>
          obtain rfl := Option.some.inj hdi
          rw [updV_self (show x 6 = .slice (some ⟨q.g, q.off, none⟩) q.len q.cap by rw [← e1]; exact hdep 6 (by simp [depN])), updV_self (show updV x 6 _ 7 = .int .i64 (k : Int) from hdep 7 (by simp [depN]))]
          exact OI_value rfl rfl (about_none (by intro c h; cases h)) (by intro c h; cases h) _ W (run_atN 37 5 _ _ q.g q.off q.len q.cap k rfl (by kernel_rfl) (by kernel_rfl) Try.underlying37 (by kernel_rfl) hlt W) ⟨_, rfl, Below.refl _ _, rfl⟩
        | 4, hdi, hdep =>
          obtain rfl := Option.some.inj hdi
          rw [updV_self (show x 3 = .pointer (some ⟨q.g, q.off + k, none⟩) from hdep 3 (by simp [depN]))]
          exact OI_value rfl rfl (about_none (by intro c h; cases h)) (by intro c h; cases h) _ W (run_cellR 5 _ ⟨q.g, q.off + k, none⟩ _ _ rfl (by kernel_rfl) Try.underlying5 rfl W cell) ⟨_, rfl, Below.refl _ _, rfl⟩
        | 9, hdi, hdep =>
          obtain rfl := Option.some.inj hdi
          rw [updV_self (show x 8 = .pointer (some ⟨q.g, q.off + k, none⟩) from hdep 8 (by simp [depN]))]
          exact OI_value rfl rfl (about_none (by intro c h; cases h)) (by intro c h; cases h) _ W (run_cellR 5 _ ⟨q.g, q.off + k, none⟩ _ _ rfl (by kernel_rfl) Try.underlying5 rfl W cell) ⟨_, rfl, Below.refl _ _, rfl⟩
        | 5, hdi, hdep =>
          obtain rfl := Option.some.inj hdi
          rw [updV_self (show x 4 = .int .u8 (c : Int) from hdep 4 (by simp [depN]))]
          exact OI_value rfl rfl (about_none (by intro c h; cases h)) (by intro c h; cases h) _ W (run_convN 5 23 _ c hc256 rfl (by kernel_rfl) Try.underlying5 Try.underlying23 W) ⟨_, rfl, Below.refl _ _, rfl⟩
        | 10, hdi, hdep =>
          obtain rfl := Option.some.inj hdi
          rw [updV_self (show x 9 = .int .u8 (c : Int) from hdep 9 (by simp [depN]))]
          exact OI_value rfl rfl (about_none (by intro c h; cases h)) (by intro c h; cases h) _ W (run_convN 5 23 _ c hc256 rfl (by kernel_rfl) Try.underlying5 Try.underlying23 W) ⟨_, rfl, Below.refl _ _, rfl⟩
        | 11, hdi, hdep =>
          obtain rfl := Option.some.inj hdi
          rw [updV_self (show x 5 = .int .u64 (c : Int) from hdep 5 (by simp [depN])), updV_self (show updV x 5 _ 10 = .int .u64 (c : Int) from hdep 10 (by simp [depN]))]
          refine OI_call rfl rfl (by intro c h; cases h) 14 #[.int .u64 (c : Int), .int .u64 (c : Int)] (fun _ _ => trivial) (by kernel_rfl) (by decide) ?_
          refine (callsIn_wide.2 (rgl_any (c : Int) (c : Int) W)).mono ?_
          rintro e w' ⟨rfl, hb'⟩
          exact ⟨_, rfl, _, rfl, hb', rfl⟩
        | 12, hdi, hdep =>
          obtain rfl := Option.some.inj hdi
          rw [updV_self (show x 0 = .slice oa.a oa.len oa.cap from hdep 0 (by simp [depN])), updV_self (show updV x 0 _ 11 = .agg #[.int .u64 (c : Int), .int .u64 (c : Int)] from hdep 11 (by simp [depN]))]
          refine OI_call rfl rfl (by intro c h; cases h) 9 #[.slice oa.a oa.len oa.cap, .agg #[.int .u64 (c : Int), .int .u64 (c : Int)]] (fun _ _ => trivial) (by kernel_rfl) (by decide) ?_
          refine (callsIn_wide.2 (rg_add oa c c W hoaW.ok (by omega) (by omega))).mono ?_
          rintro e w' ⟨o, E, rfl, hcm, hans, hb'⟩
          obtain ⟨rfl, hn⟩ := hoaW.next (by omega) hc256 hcm hans (by have := hW.size; omega)
          exact ⟨_, rfl, _, rfl, hb', o, rfl, hn⟩
        | 13, hdi, hdep =>
          obtain rfl := Option.some.inj hdi
          obtain ⟨o, ho, hn⟩ := hdep 12 (by simp [depN])
          rw [updV_self ho]
          exact OI_value rfl rfl (about_none (by intro c h; cases h)) (by intro c h; cases h) (.tuple #[.slice o.a o.len o.cap, .int .i64 0]) W (by kernel_rfl) ⟨_, rfl, Below.refl _ _, o, rfl, hn⟩
        | 14, hdi, hdep =>
          obtain rfl := Option.some.inj hdi
          obtain ⟨o, ho, hn⟩ := hdep 13 (by simp [depN])
          rw [updV_self ho]
          exact OI_value rfl rfl (about_none (by intro c h; cases h)) (by intro c h; cases h) (.slice o.a o.len o.cap) W (by kernel_rfl) ⟨_, rfl, Below.refl _ _, o, rfl, hn⟩
        | 15, hdi, hdep =>
          obtain rfl := Option.some.inj hdi
          obtain ⟨o, ho, hn⟩ := hdep 13 (by simp [depN])
          rw [updV_self ho]
          exact OI_value rfl rfl (about_none (by intro c h; cases h)) (by intro c h; cases h) (.int .i64 0) W (by kernel_rfl) ⟨_, rfl, Below.refl _ _, rfl⟩
        | 16, hdi, hdep =>
          obtain rfl := Option.some.inj hdi
          obtain ⟨o, ho, hn⟩ := hdep 14 (by simp [depN])
          rw [updV_self ho]
          exact OI_value rfl rfl (about_none (by intro c h; cases h)) (by intro c h; cases h) (.slice o.a o.len o.cap) W (by kernel_rfl) ⟨_, rfl, Below.refl _ _, o, rfl, hn⟩
        | 17, hdi, hdep =>
          obtain rfl := Option.some.inj hdi
          rw [updV_self (show x 15 = .int .i64 0 from hdep 15 (by simp [depN]))]
          exact OI_value rfl rfl (about_none (by intro c h; cases h)) (by intro c h; cases h) (.int .i64 0) W (by kernel_rfl) ⟨_, rfl, Below.refl _ _, rfl⟩
        | _ + 18, hdi, _ => simp at hdi
      case done3 =>
        intro x W hW hx
        have h0 : x 0 = .slice oa.a oa.len oa.cap := hx 0 (by decide)
        have h1 : x 1 = .slice q.a q.len q.cap := hx 1 (by decide)
        have h2 : x 2 = .int .i64 (k : Int) := hx 2 (by decide)
        have h15 : x 15 = .int .i64 0 := hx 15 (by decide)
        obtain ⟨o, h16, hn⟩ := hx 16 (by decide)
        have h17 : x 17 = .int .i64 0 := hx 17 (by decide)
        have HX := veil hx
        have HN := veil hn
        have bW := HBEL.out.trans (hW.mono HBEL.out.size)
        have HBW := veil bW
        have okW := HQ.out.below bW
        have c1 := okW.cell k hlt
        have cj := okW.cell (q.len - 1 - k) (by omega)
        rw [show v8 (gb q.b k) = (c : Int) by rw [HC.out]; rfl] at c1
        have HHOB := veil (HOB.out.below hW)
        have HRW := veil (HROW.out.below hW HROW.out.lt)
        simp only [putsV, Act.put, List.setIfInBounds_toArray, List.set_cons_succ, List.set_cons_zero, Nat.reduceAdd]
        rw [h16, h17]
        obtain ⟨d, hd⟩ : ∃ d, d = nAt q.b (q.len - 1 - k) := ⟨_, rfl⟩
        have HD := veil hd
        have hd256 : d < 256 := by rw [hd]; exact nAt_lt _ _
        rw [show v8 (gb q.b (q.len - 1 - k)) = (d : Int) by rw [hd]; rfl] at cj
        have hs1 : (q.len : Int) - 1 - (k : Int) = ((q.len - 1 - k : Nat) : Int) := by omega
        have hs2 : q.len - 1 - k < q.len := by omega
        have hs3 : IntKind.i64.wrap ((q.len - 1 - k : Nat) : Int) = ((q.len - 1 - k : Nat) : Int) := by rw [IntKind.wrap_i64]; omega
        have hw8 : IntKind.u64.wrap (d : Int) = (d : Int) := by rw [IntKind.wrap_u64]; omega
        have HE1 := veil e1
        rw [e1]
        clear hd hx hn bW okW h0 h1 h2 h15 h16 h17 e1
        gi_wp2_with fail
        refine ⟨trivial, (callsIn_wide.2 (rgl_any (d : Int) (d : Int) W)).mono ?_⟩
        rintro e1 w1 ⟨rfl, hb1⟩
        have HHOB1 := veil (HHOB.out.below hb1)
        have HN1 := veil (HN.out.below hb1)
        have HRW1 := veil (HRW.out.below hb1 HRW.out.lt)
        have HBW1 := veil (HBW.out.trans (hb1.mono HBW.out.size))
        clear hb1 HHOB HN HRW HBW c1 cj
        gi_wp2_with fail
        refine ⟨trivial, (callsIn_wide.2 (rg_add ob d d w1 HHOB1.out.ok (by omega) (by omega))).mono ?_⟩
        rintro e2 w2 ⟨o2, E2, rfl, hcm, hans, hb2⟩
        obtain ⟨rfl, hn2⟩ := HHOB1.out.next (by omega) hd256 hcm hans HRW1.out.lt
        have HN2 := veil (hn2.congr (g := behindB q.b (k + 1)) fun m => by rw [behind_succ (by rw [HL.out]; exact hlt), HL.out, ← HD.out])
        have HA2 := veil ((HN1.out.below hb2).congr (g := amongB q.b (k + 1)) fun m => by rw [among_succ (by rw [HL.out]; exact hlt), ← HC.out])
        have HRW2 := veil (HRW1.out.below hb2 HRW1.out.lt)
        have HBW2 := veil (HBW1.out.trans (hb2.mono HBW1.out.size))
        have c1 := (HQ.out.below HBW2.out).cell k hlt
        rw [show v8 (gb q.b k) = (c : Int) by rw [HC.out]; rfl] at c1
        have cT := HRW2.out.cell c
        rw [boolsA_get l c (by rw [HTH.out.len]; exact hc256)] at cT
        have fT := HRW2.out.frozen c
        have HT2 := veil (HTH.out.next (by rw [HL.out]; exact hlt))
        rw [← HC.out] at HT2
        have HR3 := veil (HRW2.out.set c (.bool true))
        rw [boolsA_set] at HR3
        have HB3 := veil (HBW2.out.setCell (p := ⟨B, c, none⟩) (by show w.heap.size ≤ B; omega) (.bool true))
        have HA3 := veil (HA2.out.cell (c := c) (.bool true))
        have HN3 := veil (HN2.out.cell (c := c) (.bool true))
        clear hb2 hcm hans hn2 HHOB1 HN1 HRW1 HBW1 hd256 hs1 hs2 hs3
        gi_wp2_with fail
        rw [← HE1.out]
        go_roundw
        case rel => exact ⟨k + 1, o, o2, _, by omega, rfl, rfl, by go_num, HA3.out, HN3.out, HT2.out, HR3.out, HB3.out⟩
        case measure => simp only [intOf]; omega
    · obtain rfl : k = q.len := by omega
      have hdk : decide ((q.len : Int) < (q.len : Int)) = false := by simp
      have hdkn : decide (q.len < q.len) = false := by simp
      gi_wp2_with fail
      gi_loopw [12] (fun iv wt => ∃ m : Nat, m ≤ 256 ∧ iv = .int .i64 (m : Int) ∧ Below wr.heap.size wr wt)
        (fun iv _ => 256 - (intOf iv).toNat)
      case atStart => exact ⟨0, by decide, rfl, Below.refl _ _⟩
      case round =>
        obtain ⟨m, hm, rfl, hbm⟩ := hrel
        have HBM := veil hbm
        clear hbm
        by_cases hm2 : m < 256
        · have hdm : decide ((m : Int) < 256) = true := by simp; omega
          have hdmn : decide (m < 256) = true := by simp; omega
          obtain ⟨b, hb⟩ : ∃ b, b = Rg.hasL oa.l m := ⟨_, rfl⟩
          have HBB := veil hb
          have HLB := veil (show l[m]?.getD false = b by rw [HTH.out.at_ m hm2, hb, HOA.out.has])
          clear hb
          gi_wp2_with fail
          refine wpIn_region_any (by kernel_rfl) ?_
          refine anyIn_vals2 (w0 := wr) (valH oa B m b) [77, 78, 79, 80, 81, 82, 83, 84] depH (by kernel_rfl) rfl (by decide) ((Below.refl _ _).drew) ?step4 ?done4
          case step4 =>
            intro x W ii d hW hdi hdep
            have bW := HBM.out.trans (hW.mono HBM.out.size)
            match ii, hdi, hdep with
            | 0, hdi, _ =>
              obtain rfl := Option.some.inj hdi
              exact OI_value rfl rfl (about_none (by intro c h; cases h)) (by intro c h; cases h) (.slice oa.a oa.len oa.cap) W (by kernel_rfl) ⟨rfl, Below.refl _ _⟩
            | 1, hdi, _ =>
              obtain rfl := Option.some.inj hdi
              exact OI_value rfl rfl (about_none (by intro c h; cases h)) (by intro c h; cases h) (.int .i64 (m : Int)) W (by kernel_rfl) ⟨rfl, Below.refl _ _⟩
            | 2, hdi, hdep =>
              obtain rfl := Option.some.inj hdi
              rw [updV_self (hdep 1 (by simp [depH]))]
              exact OI_value rfl rfl (about_none (by intro c h; cases h)) (by intro c h; cases h) _ W (run_convI 3 23 _ m hm2 rfl (by kernel_rfl) Try.underlying3 Try.underlying23 W) ⟨rfl, Below.refl _ _⟩
            | 3, hdi, hdep =>
              obtain rfl := Option.some.inj hdi
              rw [updV_self (hdep 0 (by simp [depH])), updV_self (show updV x 0 _ 2 = _ from hdep 2 (by simp [depH]))]
              refine OI_call rfl rfl (by intro c h; cases h) 11 #[.slice oa.a oa.len oa.cap, .int .u64 (m : Int)] (fun _ _ => trivial) (by kernel_rfl) (by decide) ?_
              have T := rg_has oa m W (HOA.out.below bW).ok (small_set8 HOA.out.ok HOA.out.set)
              rw [← HBB.out] at T
              refine (callsIn_wide.2 T).mono ?_
              rintro e w' ⟨rfl, hb'⟩
              exact ⟨_, rfl, rfl, hb'⟩
            | 4, hdi, _ =>
              obtain rfl := Option.some.inj hdi
              exact OI_value rfl rfl (about_none (by intro c h; cases h)) (by intro c h; cases h) (.int .i64 (m : Int)) W (by kernel_rfl) ⟨rfl, Below.refl _ _⟩
            | 5, hdi, hdep =>
              obtain rfl := Option.some.inj hdi
              rw [updV_self (hdep 4 (by simp [depH]))]
              exact OI_value rfl rfl (about_none (by intro c h; cases h)) (by intro c h; cases h) _ W (run_addrN 38 4 256 _ _ B m rfl (by kernel_rfl) (by kernel_rfl) Try.underlying38 (by kernel_rfl) hm2 W) ⟨rfl, Below.refl _ _⟩
            | 6, hdi, hdep =>
              obtain rfl := Option.some.inj hdi
              rw [updV_self (hdep 5 (by simp [depH]))]
              have cT := (HROW.out.below bW HROW.out.lt).cell m
              rw [boolsA_get l m (by rw [HTH.out.len]; exact hm2), HLB.out] at cT
              exact OI_value rfl rfl (about_none (by intro c h; cases h)) (by intro c h; cases h) _ W (run_cellR 4 _ ⟨B, m, none⟩ _ _ rfl (by kernel_rfl) Try.underlying4 rfl W cT) ⟨rfl, Below.refl _ _⟩
            | 7, hdi, hdep =>
              obtain rfl := Option.some.inj hdi
              rw [updV_self (hdep 3 (by simp [depH])), updV_self (show updV x 3 _ 6 = _ from hdep 6 (by simp [depH]))]
              cases b
              · exact OI_value rfl rfl (about_none (by intro c h; cases h)) (by intro c h; cases h) (.bool false) W (by kernel_rfl) ⟨rfl, Below.refl _ _⟩
              · exact OI_value rfl rfl (about_none (by intro c h; cases h)) (by intro c h; cases h) (.bool false) W (by kernel_rfl) ⟨rfl, Below.refl _ _⟩
            | _ + 8, hdi, _ => simp at hdi
          case done4 =>
            intro W hW
            have HBW := veil (HBM.out.trans (hW.mono HBM.out.size))
            simp only [putsV, valH, Act.put, List.setIfInBounds_toArray, List.set_cons_succ, List.set_cons_zero, Nat.reduceAdd]
            gi_wp2_with fail
            go_roundw
            case rel => exact ⟨m + 1, by omega, by go_num, HBW.out⟩
            case measure => simp only [intOf]; omega
        · obtain rfl : m = 256 := by omega
          have hdm : decide (((256 : Nat) : Int) < 256) = false := by decide
          have HEQ := veil (show oa.l = ob.l from Rg.set_unique HOA.out.set.2 HOB.out.set.2 fun m => by
            rw [HOA.out.has, HOB.out.has]
            have := all_same q.b m
            rw [HL.out] at this
            exact this)
          gi_wp2_with fail
          refine ⟨trivial, (callsIn_wide.2 (same_rl oa ob _ (HOA.out.below HBM.out).ok (HOB.out.below HBM.out).ok HEQ.out (Nat.le_trans (small_set8 HOA.out.ok HOA.out.set) (by decide)))).mono ?_⟩
          rintro e w' ⟨rfl, hb'⟩
          have HBE := veil (HBEL.out.trans ((HBM.out.trans (hb'.mono HBM.out.size)).mono HBEL.out.size))
          clear hb'
          gi_wp2
          go_ret
          exact ⟨rfl, HBE.out⟩
end Go.Proofs.Ytalhfciiflcfbaa
