/-
  Out of LrAnsP, LrAnsN.
-/
import Derived.Test.YtohoieleakieeaaGreatDoorGl18
import Derived.Test.YtohoieleakieeaaGreatDoorGlLrRg
import Derived.Deep.Cut
import Derived.Deep.CutRange

/-! The document's Answer: what is hit among the first packets, and its lists in memory. -/
namespace Go.Proofs.YtohoieleakieeaaGreatDoor
open Go Go.RowKit

namespace Lg
def hitTo (s : Led) (r : List (Nat × Nat)) (k : Nat) : List Pk := (s.way.take k).filter fun p => Rg.hasL r p.num
def missTo (s : Led) (r : List (Nat × Nat)) (k : Nat) : List Pk := (s.way.take k).filter fun p => !Rg.hasL r p.num
theorem hitTo_yes {s : Led} {r : List (Nat × Nat)} {k : Nat} {p : Pk} (h : s.way[k]? = some p) (c : Rg.hasL r p.num = true) : hitTo s r (k + 1) = hitTo s r k ++ [p] ∧ missTo s r (k + 1) = missTo s r k := by
  unfold hitTo missTo
  rw [List.take_add_one, h, List.filter_append, List.filter_append]
  simp [c]
theorem hitTo_no {s : Led} {r : List (Nat × Nat)} {k : Nat} {p : Pk} (h : s.way[k]? = some p) (c : Rg.hasL r p.num = false) : hitTo s r (k + 1) = hitTo s r k ∧ missTo s r (k + 1) = missTo s r k ++ [p] := by
  unfold hitTo missTo
  rw [List.take_add_one, h, List.filter_append, List.filter_append]
  simp [c]
theorem hitTo_all (s : Led) (r : List (Nat × Nat)) : hitTo s r s.way.length = hitL s r ∧ missTo s r s.way.length = s.way.filter fun p => !Rg.hasL r p.num := by
  unfold hitTo missTo hitL
  rw [List.take_length]
  exact ⟨rfl, rfl⟩
theorem hitTo_len (s : Led) (r : List (Nat × Nat)) (k : Nat) : (hitTo s r k).length ≤ s.way.length := Nat.le_trans (List.length_filter_le _ _) (by rw [List.length_take]; omega)
theorem missTo_len (s : Led) (r : List (Nat × Nat)) (k : Nat) : (missTo s r k).length ≤ s.way.length := Nat.le_trans (List.length_filter_le _ _) (by rw [List.length_take]; omega)
/-- The steps of an answer that hit. -/
def atS (s : Led) (r : List (Nat × Nat)) (now : Nat) : Led := { s with now := now, way := s.way.filter fun p => !Rg.hasL r p.num }
def frontS (s : Led) (n : Nat) : Led := if s.fronted = true ∧ n ≤ s.front then s else { s with fronted := true, front := n }
def measS (s : Led) (n e : Nat) (a : Bool) (took delay : Nat) : Led := if n = e ∧ a = true then measure s took delay else s
def winTo (s : Led) (l : List Pk) (k : Nat) : Led := { s with win := (l.take k).foldl (growW s) s.win }
theorem struck_steps (s : Led) (r : List (Nat × Nat)) (delay now : Nat) {top : Pk} (h : (hitL s r).getLast?.getD ⟨0, 0, 0, false⟩ = top) : struck s r delay now = winTo (measS (frontS (atS s r now) top.num) top.num (endOf r) (asksB (hitL s r)) (now - top.time) delay) (hitL s r) (hitL s r).length := by
  subst h
  unfold winTo
  rw [List.take_length]
  rfl
theorem winTo_succ (s : Led) {l : List Pk} {k : Nat} {p : Pk} (h : l[k]? = some p) : winTo s l (k + 1) = { s with win := growW s (winTo s l k).win p } := by
  unfold winTo
  rw [List.take_add_one, h, List.foldl_append]
  rfl
theorem Fit.atS {c : Nat} {s : Led} (h : Fit c s) (r : List (Nat × Nat)) {now : Nat} (hn : now ≤ 1099511627775) (hn2 : s.now ≤ now) : Fit c (atS s r now) := by
  have k := h.cut (fun p => !Rg.hasL r p.num)
  exact ⟨hn, fun p hp => Nat.le_trans (k.time p hp) hn2, k.size, k.num, k.up, k.last, k.front, k.asked, k.mom, k.lat, k.smo, k.var, k.lea, k.winL, k.winU, k.thrL, k.thrU, k.cnt⟩
theorem Fit.frontS {c : Nat} {s : Led} (k : Fit c s) {n : Nat} (hn : n ≤ 4611686018427387903) : Fit c (frontS s n) := by
  unfold Lg.frontS
  split
  · exact k
  · exact ⟨k.now, k.time, k.size, k.num, k.up, k.last, hn, k.asked, k.mom, k.lat, k.smo, k.var, k.lea, k.winL, k.winU, k.thrL, k.thrU, k.cnt⟩
theorem Fit.measS {c : Nat} {s : Led} (k : Fit c s) (n e : Nat) (a : Bool) {took delay : Nat} (ht : took ≤ 1099511627775) : Fit c (measS s n e a took delay) := by
  unfold Lg.measS
  split
  · exact k.measure _ _ ht
  · exact k
theorem winTo_low {c : Nat} {s : Led} (k : Fit c s) (l : List Pk) (j : Nat) : 2400 ≤ (winTo s l j).win := Nat.le_trans k.winL (fold_le _ _ _)
theorem winTo_up {c : Nat} {s : Led} (k : Fit c s) {l : List Pk} (hl : ∀ p ∈ l, p.size ≤ 1200) (j : Nat) : (winTo s l j).win ≤ s.win + 1200 * l.length := by
  have := fold_up s (l.take j) s.win k.winL (fun p hp => hl p (List.mem_of_mem_take hp))
  have h2 : (l.take j).length ≤ l.length := by rw [List.length_take]; omega
  show (l.take j).foldl (growW s) s.win ≤ _
  omega
end Lg

theorem pr_own2 (w : World) (ty : TypeId) (base : Nat) (v : Value) (l : List Lg.Pk) (x : Lg.Pk) (b : Nat) (h : w.ownsRow base 80 4 v l.length (vp l)) (hr : Row w b 80 (pkC x)) (hl : l.length ≤ 100000) (hb : base ≤ w.heap.size) :
    ∃ v' w', (Builtin.append_ #[72, 72] ty #[v, .slice (some ⟨b, 0, none⟩) 1 1]).run Tryz.prog w = .ok v' w' ∧ w'.ownsRow base 80 4 v' (l ++ [x]).length (vp (l ++ [x])) ∧ w.grownBy w' v.ownBlock ∧ (v'.ownBlock = v.ownBlock ∨ v'.ownBlock = some w.heap.size) := by
  obtain ⟨i0, h1, h2, h3, h4⟩ := pr_info
  obtain ⟨v', w', a1, a2, a3, _, a4⟩ := run_append_own_at (P := Tryz.prog) w base 72 ty 80 i0 _ 4 32 Tryz.underlying72 h1 h2 h3 h4 rfl (by decide) v l.length (vp l) h ⟨b, 0, none⟩ 1 1 (vp [x]) rfl (fun j u hu => by
    rw [Addr.add_mid, Nat.zero_add]
    have : (vp [x])[j]? = (pkC x)[j]? := by
      match j with
      | 0 => rfl
      | 1 => rfl
      | 2 => rfl
      | 3 => rfl
      | j + 4 => simp [vp, pkC]
    rw [this] at hu
    rw [← hu]
    exact cell_of_row w b j _ _ (0, 0) hr) (vp_one _) (by unfold maxLen; omega) (by omega) hb
  refine ⟨v', w', a1, ?_, a3, a4⟩
  rw [List.length_append, List.length_singleton, vp_append]
  exact a2
theorem own_stayB {W W' : World} {B n z : Nat} {e : TypeId} {u v : Value} {xs : List Value} (h : W.ownsRow B e z u n xs) (ne : ∀ q, u.ownBlock = some q → v.ownBlock ≠ some q) (hg : W.grownBy W' v.ownBlock) : W'.ownsRow B e z u n xs := by
  obtain ⟨h1, h2⟩ := h
  refine ⟨h1, ?_⟩
  rcases h2 with h2 | ⟨g', c, cur, h3, h4, h5, h6⟩
  · exact .inl h2
  · refine .inr ⟨g', c, cur, h3, h4, (hg.block g' (Array.getElem?_eq_some_iff.1 h5).1 (fun q => ne g' (by rw [h3]; rfl) q.symm)).trans h5, h6⟩

/-- The three lists while packets are gone through; w1: the world ahead of the first. -/
structure AnsK (B : Nat) (w1 : World) (G : List Nat) (H R : List Lg.Pk) (gv hv rv : Value) (W : World) : Prop where
  got : W.ownsRow B 23 1 gv G.length (vnum G)
  hit : W.ownsRow B 80 4 hv H.length (vp H)
  rest : W.ownsRow B 80 4 rv R.length (vp R)
  sep : ∀ q, hv.ownBlock = some q → rv.ownBlock ≠ some q
  bel : Below B w1 W
  low : B ≤ w1.heap.size
theorem AnsK.nil {B : Nat} {w1 : World} (h : B ≤ w1.heap.size) : AnsK B w1 [] [] [] (.slice none 0 0) (.slice none 0 0) (.slice none 0 0) w1 :=
  ⟨World.ownsRow_nil _ _ _ _, World.ownsRow_nil _ _ _ _, World.ownsRow_nil _ _ _ _, fun q hq => (by cases hq), Below.refl _ _, h⟩
theorem AnsK.below {B : Nat} {w1 W W1 : World} {G : List Nat} {H R : List Lg.Pk} {gv hv rv : Value} (h : AnsK B w1 G H R gv hv rv W) (hb : Below W.heap.size W W1) : AnsK B w1 G H R gv hv rv W1 :=
  ⟨own_below2 h.got hb, own_below2 h.hit hb, own_below2 h.rest hb, h.sep, h.bel.trans (hb.mono (Nat.le_trans h.low h.bel.size)), h.low⟩
theorem AnsK.addGot {B : Nat} {w1 W1 : World} {G : List Nat} {H R : List Lg.Pk} {gv hv rv : Value} (h : AnsK B w1 G H R gv hv rv W1) (x : Nat) (hl : G.length ≤ 2000) (ty : TypeId) :
    ∃ v' w', (Builtin.append_ #[49, 49] ty #[gv, .slice (some ⟨W1.heap.size, 0, none⟩) 1 1]).run Tryz.prog (W1.alloc (.cells #[.int .u64 (x : Int)] 23)) = .ok v' w' ∧ AnsK B w1 (G ++ [x]) H R v' hv rv w' := by
  have h1 := h.below ((Below.refl W1.heap.size W1).alloc (Nat.le_refl _) (.cells #[.int .u64 (x : Int)] 23))
  have hB : B ≤ (W1.alloc (.cells #[.int .u64 (x : Int)] 23)).heap.size := Nat.le_trans h1.low h1.bel.size
  obtain ⟨v', w', a1, a2, a3, _⟩ := nu_append _ ty B gv _ x W1.heap.size h1.got ((Row.new W1 23 #[.int .u64 (x : Int)]).cell 0) (by omega) hB
  exact ⟨v', w', a1, a2, own_stay h1.hit h1.got (by decide) a3, own_stay h1.rest h1.got (by decide) a3, h1.sep, h1.bel.trans (below_grown a3 (fun q hq => (h1.got.lt q hq).1) hB), h1.low⟩
theorem AnsK.addHit {B : Nat} {w1 W1 : World} {G : List Nat} {H R : List Lg.Pk} {gv hv rv : Value} (h : AnsK B w1 G H R gv hv rv W1) (p : Lg.Pk) (hl : H.length ≤ 2000) (ty : TypeId) :
    ∃ v' w', (Builtin.append_ #[72, 72] ty #[hv, .slice (some ⟨W1.heap.size, 0, none⟩) 1 1]).run Tryz.prog (W1.alloc (.cells (pkC p) 80)) = .ok v' w' ∧ AnsK B w1 G (H ++ [p]) R gv v' rv w' := by
  have h1 := h.below ((Below.refl W1.heap.size W1).alloc (Nat.le_refl _) (.cells (pkC p) 80))
  have hB : B ≤ (W1.alloc (.cells (pkC p) 80)).heap.size := Nat.le_trans h1.low h1.bel.size
  obtain ⟨v', w', a1, a2, a3, a4⟩ := pr_own2 _ ty B hv _ p W1.heap.size h1.hit (Row.new _ _ _) (by omega) hB
  refine ⟨v', w', a1, own_stay h1.got h1.hit (by decide) a3, a2, own_stayB h1.rest (fun q hq e => h1.sep q e hq) a3, fun q hq e => ?_, h1.bel.trans (below_grown a3 (fun q hq => (h1.hit.lt q hq).1) hB), h1.low⟩
  rcases a4 with a4 | a4
  · exact h1.sep q (by rw [← a4]; exact hq) e
  · rw [a4] at hq
    injection hq with hq
    have := (h1.rest.lt q e).2
    omega
theorem AnsK.addRest {B : Nat} {w1 W1 : World} {G : List Nat} {H R : List Lg.Pk} {gv hv rv : Value} (h : AnsK B w1 G H R gv hv rv W1) (p : Lg.Pk) (hl : R.length ≤ 2000) (ty : TypeId) :
    ∃ v' w', (Builtin.append_ #[72, 72] ty #[rv, .slice (some ⟨W1.heap.size, 0, none⟩) 1 1]).run Tryz.prog (W1.alloc (.cells (pkC p) 80)) = .ok v' w' ∧ AnsK B w1 G H (R ++ [p]) gv hv v' w' := by
  have h1 := h.below ((Below.refl W1.heap.size W1).alloc (Nat.le_refl _) (.cells (pkC p) 80))
  have hB : B ≤ (W1.alloc (.cells (pkC p) 80)).heap.size := Nat.le_trans h1.low h1.bel.size
  obtain ⟨v', w', a1, a2, a3, a4⟩ := pr_own2 _ ty B rv _ p W1.heap.size h1.rest (Row.new _ _ _) (by omega) hB
  refine ⟨v', w', a1, own_stay h1.got h1.rest (by decide) a3, own_stayB h1.hit h1.sep a3, a2, fun q hq e => ?_, h1.bel.trans (below_grown a3 (fun q hq => (h1.rest.lt q hq).1) hB), h1.low⟩
  rcases a4 with a4 | a4
  · exact h1.sep q hq (by rw [← a4]; exact e)
  · rw [a4] at e
    injection e with e
    have := (h1.hit.lt q hq).2
    omega
end Go.Proofs.YtohoieleakieeaaGreatDoor

/-! Written by mklransn.py: the document's Answer, where it refuses. -/
namespace Go.Proofs.YtohoieleakieeaaGreatDoor
open Go Go.RowKit

set_option maxRecDepth 20000 in
set_option maxHeartbeats 1000000 in
theorem refAns_no0 (g : Nat) (v : Value) (s : Lg.Led) (r : RL) (delay now : Nat) (w : World) (_h : RdOk w g v s) (hr : r.Ok w) (h0 : ¬ Rg.setOk r.l) :
    Calls Tryz.prog 11 #[.pointer (some ⟨g, 0, none⟩), .slice r.a r.len r.cap, .int .u64 (delay : Int), .int .u64 (now : Int)] w fun e w' => e = .returned (.tuple #[.slice none 0 0, .slice none 0 0, .int .i64 1]) ∧ Below w.heap.size w w' := by
  have CC := veil (ref_check8 r w hr)
  have H0 := veil h0
  clear h0 hr
  go_enter Tryz.func11, Tryz.ntmps11
  go_wp2_with fail
  refine CC.out.mono ?_
  rintro e2 w2 ⟨hc, hb2⟩
  have HB2 := veil hb2
  rcases hc with ⟨_, hc⟩ | ⟨rfl, _⟩
  · exact absurd hc H0.out
  clear hb2
  go_wp2
  refine bodyPost_ret (results_tmp3 rfl _ _ _) rfl ?_
  exact ⟨rfl, HB2.out⟩
set_option maxRecDepth 20000 in
set_option maxHeartbeats 1000000 in
theorem refAns_no1 (g : Nat) (v : Value) (s : Lg.Led) (r : RL) (delay now : Nat) (w : World) (_h : RdOk w g v s) (hr : r.Ok w) (h0 : Rg.setOk r.l) (h1 : r.len = 0) :
    Calls Tryz.prog 11 #[.pointer (some ⟨g, 0, none⟩), .slice r.a r.len r.cap, .int .u64 (delay : Int), .int .u64 (now : Int)] w fun e w' => e = .returned (.tuple #[.slice none 0 0, .slice none 0 0, .int .i64 1]) ∧ Below w.heap.size w w' := by
  have l1 : (r.len : Int) = 0 := by omega
  have l2 : decide ((r.len : Int) = 0) = true := by simp; omega
  have l3 : decide (r.len = 0) = true := by simp; omega
  have l5 : ((r.len : Int) == 0) = true := by simp; omega
  have CC := veil (ref_check8 r w hr)
  have H0 := veil h0
  clear h0 hr h1
  go_enter Tryz.func11, Tryz.ntmps11
  go_wp2_with fail
  refine CC.out.mono ?_
  rintro e2 w2 ⟨hc, hb2⟩
  have HB2 := veil hb2
  have he2 : e2 = .returned (.bool true) := hc.elim (fun q => q.1) (fun q => absurd H0.out q.2)
  subst he2
  clear hc
  clear hb2
  go_wp2
  refine bodyPost_ret (results_tmp3 rfl _ _ _) rfl ?_
  exact ⟨rfl, HB2.out⟩
set_option maxRecDepth 20000 in
set_option maxHeartbeats 1000000 in
theorem refAns_no2 (g : Nat) (v : Value) (s : Lg.Led) (r : RL) (delay now : Nat) (w : World) (_h : RdOk w g v s) (hr : r.Ok w) (h0 : Rg.setOk r.l) (h1 : 0 < r.len) (h2 : 1099511627775 < delay) :
    Calls Tryz.prog 11 #[.pointer (some ⟨g, 0, none⟩), .slice r.a r.len r.cap, .int .u64 (delay : Int), .int .u64 (now : Int)] w fun e w' => e = .returned (.tuple #[.slice none 0 0, .slice none 0 0, .int .i64 1]) ∧ Below w.heap.size w w' := by
  have l1 : ¬ (r.len : Int) = 0 := by omega
  have l2 : decide ((r.len : Int) = 0) = false := by simp; omega
  have l3 : decide (r.len = 0) = false := by simp; omega
  have l4 : ¬ r.len = 0 := by omega
  have l5 : ((r.len : Int) == 0) = false := by simp; omega
  have d1 : decide ((1099511627775 : Int) < (delay : Int)) = true := by simp; omega
  have d2 : decide (1099511627775 < delay) = true := by simp; omega
  have CC := veil (ref_check8 r w hr)
  have H0 := veil h0
  clear h0 hr h1 h2
  go_enter Tryz.func11, Tryz.ntmps11
  go_wp2_with fail
  refine CC.out.mono ?_
  rintro e2 w2 ⟨hc, hb2⟩
  have HB2 := veil hb2
  have he2 : e2 = .returned (.bool true) := hc.elim (fun q => q.1) (fun q => absurd H0.out q.2)
  subst he2
  clear hc
  clear hb2
  go_wp2
  refine bodyPost_ret (results_tmp3 rfl _ _ _) rfl ?_
  exact ⟨rfl, HB2.out⟩
set_option maxRecDepth 20000 in
set_option maxHeartbeats 1000000 in
theorem refAns_no3 (g : Nat) (v : Value) (s : Lg.Led) (r : RL) (delay now : Nat) (w : World) (_h : RdOk w g v s) (hr : r.Ok w) (h0 : Rg.setOk r.l) (h1 : 0 < r.len) (h2 : delay ≤ 1099511627775) (h3 : 1099511627775 < now) :
    Calls Tryz.prog 11 #[.pointer (some ⟨g, 0, none⟩), .slice r.a r.len r.cap, .int .u64 (delay : Int), .int .u64 (now : Int)] w fun e w' => e = .returned (.tuple #[.slice none 0 0, .slice none 0 0, .int .i64 1]) ∧ Below w.heap.size w w' := by
  have l1 : ¬ (r.len : Int) = 0 := by omega
  have l2 : decide ((r.len : Int) = 0) = false := by simp; omega
  have l3 : decide (r.len = 0) = false := by simp; omega
  have l4 : ¬ r.len = 0 := by omega
  have l5 : ((r.len : Int) == 0) = false := by simp; omega
  have d1 : decide ((1099511627775 : Int) < (delay : Int)) = false := by simp; omega
  have d2 : decide (1099511627775 < delay) = false := by simp; omega
  have n1 : decide ((1099511627775 : Int) < (now : Int)) = true := by simp; omega
  have n2 : decide (1099511627775 < now) = true := by simp; omega
  have CC := veil (ref_check8 r w hr)
  have H0 := veil h0
  clear h0 hr h1 h2 h3
  go_enter Tryz.func11, Tryz.ntmps11
  go_wp2_with fail
  refine CC.out.mono ?_
  rintro e2 w2 ⟨hc, hb2⟩
  have HB2 := veil hb2
  have he2 : e2 = .returned (.bool true) := hc.elim (fun q => q.1) (fun q => absurd H0.out q.2)
  subst he2
  clear hc
  clear hb2
  go_wp2
  refine bodyPost_ret (results_tmp3 rfl _ _ _) rfl ?_
  exact ⟨rfl, HB2.out⟩
set_option maxRecDepth 20000 in
set_option maxHeartbeats 1000000 in
theorem refAns_no4 (g : Nat) (v : Value) (s : Lg.Led) (r : RL) (delay now : Nat) (w : World) (h : RdOk w g v s) (hr : r.Ok w) (h0 : Rg.setOk r.l) (h1 : 0 < r.len) (h2 : delay ≤ 1099511627775) (h3 : now ≤ 1099511627775) (h4 : now < s.now) :
    Calls Tryz.prog 11 #[.pointer (some ⟨g, 0, none⟩), .slice r.a r.len r.cap, .int .u64 (delay : Int), .int .u64 (now : Int)] w fun e w' => e = .returned (.tuple #[.slice none 0 0, .slice none 0 0, .int .i64 1]) ∧ Below w.heap.size w w' := by
  have l1 : ¬ (r.len : Int) = 0 := by omega
  have l2 : decide ((r.len : Int) = 0) = false := by simp; omega
  have l3 : decide (r.len = 0) = false := by simp; omega
  have l4 : ¬ r.len = 0 := by omega
  have l5 : ((r.len : Int) == 0) = false := by simp; omega
  have d1 : decide ((1099511627775 : Int) < (delay : Int)) = false := by simp; omega
  have d2 : decide (1099511627775 < delay) = false := by simp; omega
  have n1 : decide ((1099511627775 : Int) < (now : Int)) = false := by simp; omega
  have n2 : decide (1099511627775 < now) = false := by simp; omega
  have m1 : decide ((now : Int) < (s.now : Int)) = true := by simp; omega
  have m2 : decide (now < s.now) = true := by simp; omega
  have CC := veil (ref_check8 r w hr)
  have H0 := veil h0
  have HH := veil h
  clear h0 hr h1 h2 h3 h4 h
  go_enter Tryz.func11, Tryz.ntmps11
  go_wp2_with fail
  refine CC.out.mono ?_
  rintro e2 w2 ⟨hc, hb2⟩
  have HB2 := veil hb2
  have he2 : e2 = .returned (.bool true) := hc.elim (fun q => q.1) (fun q => absurd H0.out q.2)
  subst he2
  clear hc
  have c4 := (HH.out.below hb2).cells.c4
  clear hb2
  go_wp2
  refine bodyPost_ret (results_tmp3 rfl _ _ _) rfl ?_
  exact ⟨rfl, HB2.out⟩
set_option maxRecDepth 20000 in
set_option maxHeartbeats 1000000 in
theorem refAns_no5 (g : Nat) (v : Value) (s : Lg.Led) (r : RL) (delay now : Nat) (w : World) (h : RdOk w g v s) (hr : r.Ok w) (h0 : Rg.setOk r.l) (h1 : 0 < r.len) (h2 : delay ≤ 1099511627775) (h3 : now ≤ 1099511627775) (h4 : s.now ≤ now) (hl : r.len ≤ 1048576) (h5 : s.any = false) :
    Calls Tryz.prog 11 #[.pointer (some ⟨g, 0, none⟩), .slice r.a r.len r.cap, .int .u64 (delay : Int), .int .u64 (now : Int)] w fun e w' => e = .returned (.tuple #[.slice none 0 0, .slice none 0 0, .int .i64 9]) ∧ Below w.heap.size w w' := by
  have l1 : ¬ (r.len : Int) = 0 := by omega
  have l2 : decide ((r.len : Int) = 0) = false := by simp; omega
  have l3 : decide (r.len = 0) = false := by simp; omega
  have l4 : ¬ r.len = 0 := by omega
  have l5 : ((r.len : Int) == 0) = false := by simp; omega
  have d1 : decide ((1099511627775 : Int) < (delay : Int)) = false := by simp; omega
  have d2 : decide (1099511627775 < delay) = false := by simp; omega
  have n1 : decide ((1099511627775 : Int) < (now : Int)) = false := by simp; omega
  have n2 : decide (1099511627775 < now) = false := by simp; omega
  have m1 : decide ((now : Int) < (s.now : Int)) = false := by simp; omega
  have m2 : decide (now < s.now) = false := by simp; omega
  have hla : r.a = some ⟨r.g, r.off, none⟩ := hr.at_ h1
  have hgl := hr.lt h1
  obtain ⟨n9, hn9⟩ : ∃ n9, r.len = n9 + 1 := ⟨r.len - 1, by omega⟩
  have hls : lastOf r.l = (gr r.l n9).2 := by unfold lastOf; rw [hr.hb, hn9]; rfl
  have w9 : IntKind.i64.wrap ((r.len : Int) - 1) = (n9 : Int) := by rw [IntKind.wrap_i64]; omega
  have n3 : decide ((n9 : Int) < (r.len : Int)) = true := by simp; omega
  have n4 : n9 < r.len := by omega
  have n5 : (n9 : Int) < (r.len : Int) := by omega
  have CC := veil (ref_check8 r w hr)
  have H0 := veil h0
  have HH := veil h
  have HGL := veil hgl
  have HC2 := veil (hr.cell n9 n4).2
  have HA := veil h5
  clear hls
  obtain ⟨ra, rlen, rcap, rg, roff, rl⟩ := r
  simp only at hla
  subst hla
  simp only at *
  clear h0 hr h1 h2 h3 h4 h hl h5 hn9 hgl
  go_enter Tryz.func11, Tryz.ntmps11
  go_wp2_with fail
  refine CC.out.mono ?_
  rintro e2 w2 ⟨hc, hb2⟩
  have HB2 := veil hb2
  have he2 : e2 = .returned (.bool true) := hc.elim (fun q => q.1) (fun q => absurd H0.out q.2)
  subst he2
  clear hc
  have c4 := (HH.out.below hb2).cells.c4
  have c1 := (HH.out.below hb2).cells.c1
  rw [HA.out] at c1
  have c2 := (HH.out.below hb2).cells.c2
  have cl9 := (hb2.cell (p := ⟨rg, roff + n9 * 2 + 1, none⟩) HGL.out).trans HC2.out
  clear hb2
  go_wp2
  refine bodyPost_ret (results_tmp3 rfl _ _ _) rfl ?_
  exact ⟨rfl, HB2.out⟩
set_option maxRecDepth 20000 in
set_option maxHeartbeats 1000000 in
theorem refAns_no6 (g : Nat) (v : Value) (s : Lg.Led) (r : RL) (delay now : Nat) (w : World) (h : RdOk w g v s) (hr : r.Ok w) (h0 : Rg.setOk r.l) (h1 : 0 < r.len) (h2 : delay ≤ 1099511627775) (h3 : now ≤ 1099511627775) (h4 : s.now ≤ now) (hl : r.len ≤ 1048576) (h5 : s.any = true) (h6 : s.last < lastOf r.l) :
    Calls Tryz.prog 11 #[.pointer (some ⟨g, 0, none⟩), .slice r.a r.len r.cap, .int .u64 (delay : Int), .int .u64 (now : Int)] w fun e w' => e = .returned (.tuple #[.slice none 0 0, .slice none 0 0, .int .i64 9]) ∧ Below w.heap.size w w' := by
  have l1 : ¬ (r.len : Int) = 0 := by omega
  have l2 : decide ((r.len : Int) = 0) = false := by simp; omega
  have l3 : decide (r.len = 0) = false := by simp; omega
  have l4 : ¬ r.len = 0 := by omega
  have l5 : ((r.len : Int) == 0) = false := by simp; omega
  have d1 : decide ((1099511627775 : Int) < (delay : Int)) = false := by simp; omega
  have d2 : decide (1099511627775 < delay) = false := by simp; omega
  have n1 : decide ((1099511627775 : Int) < (now : Int)) = false := by simp; omega
  have n2 : decide (1099511627775 < now) = false := by simp; omega
  have m1 : decide ((now : Int) < (s.now : Int)) = false := by simp; omega
  have m2 : decide (now < s.now) = false := by simp; omega
  have hla : r.a = some ⟨r.g, r.off, none⟩ := hr.at_ h1
  have hgl := hr.lt h1
  obtain ⟨n9, hn9⟩ : ∃ n9, r.len = n9 + 1 := ⟨r.len - 1, by omega⟩
  have hls : lastOf r.l = (gr r.l n9).2 := by unfold lastOf; rw [hr.hb, hn9]; rfl
  have w9 : IntKind.i64.wrap ((r.len : Int) - 1) = (n9 : Int) := by rw [IntKind.wrap_i64]; omega
  have n3 : decide ((n9 : Int) < (r.len : Int)) = true := by simp; omega
  have n4 : n9 < r.len := by omega
  have n5 : (n9 : Int) < (r.len : Int) := by omega
  rw [hls] at h6
  have p1 : decide ((s.last : Int) < ((gr r.l n9).2 : Int)) = true := by simp; omega
  have p2 : decide (s.last < (gr r.l n9).2) = true := by simp; omega
  have CC := veil (ref_check8 r w hr)
  have H0 := veil h0
  have HH := veil h
  have HGL := veil hgl
  have HC2 := veil (hr.cell n9 n4).2
  have HA := veil h5
  clear hls
  obtain ⟨ra, rlen, rcap, rg, roff, rl⟩ := r
  simp only at hla
  subst hla
  simp only at *
  clear h0 hr h1 h2 h3 h4 h hl h5 hn9 hgl h6
  go_enter Tryz.func11, Tryz.ntmps11
  go_wp2_with fail
  refine CC.out.mono ?_
  rintro e2 w2 ⟨hc, hb2⟩
  have HB2 := veil hb2
  have he2 : e2 = .returned (.bool true) := hc.elim (fun q => q.1) (fun q => absurd H0.out q.2)
  subst he2
  clear hc
  have c4 := (HH.out.below hb2).cells.c4
  have c1 := (HH.out.below hb2).cells.c1
  rw [HA.out] at c1
  have c2 := (HH.out.below hb2).cells.c2
  have cl9 := (hb2.cell (p := ⟨rg, roff + n9 * 2 + 1, none⟩) HGL.out).trans HC2.out
  clear hb2
  go_wp2
  refine bodyPost_ret (results_tmp3 rfl _ _ _) rfl ?_
  exact ⟨rfl, HB2.out⟩
end Go.Proofs.YtohoieleakieeaaGreatDoor
