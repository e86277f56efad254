/-
  Out of LgAnsN, LgFits.
-/
import Derived.Test.YtohoieleakieeaaGreatDoorGlLgCame
import Derived.Test.YtohoieleakieeaaGreatDoorGl6

/-! Written by mklgans.py: Lose, and Answer where it refuses. -/
namespace Go.Proofs.YtohoieleakieeaaGreatDoor
open Go Go.RowKit Go.Shelf

def atM (m : ML) (now : Nat) : ML := { m with now := now }
theorem Fits.at {m : ML} (h : Fits m) {now : Nat} (h1 : m.now ≤ now) (h2 : now ≤ 1099511627775) : Fits (atM m now) :=
  ⟨h.next, h.asked, h2, h.front, h.lat, h.smo, h.var, h.lea, h.winL, h.winU, h.thr, h.mom, h.num, h.size, fun p hp => Nat.le_trans (h.time p hp) h1, h.up, h.ask, h.len⟩
theorem LdOk.setNow {W : World} {g : Nat} {v : Value} {m : ML} (h : LdOk W g v m) (a : Nat) : LdOk (W.setCell ⟨g, 4, none⟩ (.int .u64 (a : Int))) g v (atM m a) ∧ KeepL g v W (W.setCell ⟨g, 4, none⟩ (.int .u64 (a : Int))) :=
  ⟨⟨h.row.set 4 _, h.way.same (fun k hk => Below.heap_setCell _ _ _ _ (fun q => h.apart (by rw [show g = k from q.symm]; exact hk)))⟩, KeepP.setCell (.inl rfl) _ _ _⟩
set_option maxRecDepth 20000 in
set_option maxHeartbeats 1000000 in
theorem loseTop_no (g : Nat) (v : Value) (m : ML) (now : Nat) (w : World) (h : LdOk w g v m) (hw : 0 < m.win) (hn : ¬ (m.now ≤ now ∧ now ≤ 1099511627775)) :
    Calls Tryz.prog 16 #[.pointer (some ⟨g, 0, none⟩), .int .u64 (now : Int)] w fun e w' => e = .returned (.tuple #[.slice none 0 0, .int .i64 1]) ∧ w' = w := by
  have TC := veil (there_yes g v m w h.row hw)
  have MC := veil (mayBe_any g v m now w h.row)
  rw [show (decide (m.now ≤ now) && decide (now ≤ 1099511627775)) = false from by rw [Bool.and_eq_false_iff, decide_eq_false_iff_not, decide_eq_false_iff_not]; omega] at MC
  clear h hw hn
  go_enter Tryz.func16, Tryz.ntmps16
  go_wp2_with fail
  refine TC.out.mono ?_
  rintro e1 w1 ⟨rfl, rfl⟩
  go_wp2_with fail
  refine MC.out.mono ?_
  rintro e2 w2 ⟨rfl, rfl⟩
  go_wp2
  go_ret2
  exact ⟨rfl, rfl⟩
set_option maxRecDepth 20000 in
set_option maxHeartbeats 1000000 in
theorem loseTop_yes (g : Nat) (v : Value) (m : ML) (now : Nat) (w : World) (h : LdOk w g v m) (hm : Fits m) (hn : m.now ≤ now ∧ now ≤ 1099511627775) :
    Calls Tryz.prog 16 #[.pointer (some ⟨g, 0, none⟩), .int .u64 (now : Int)] w fun e w' => ∃ u v', e = .returned (.tuple #[u, .int .i64 0]) ∧ w'.ownsRow w.heap.size 23 1 u ((atM m now).way.filter (lostX (atM m now))).length (vnum (((atM m now).way.filter (lostX (atM m now))).map (·.num))) ∧ LdOk w' g v' (loseM (atM m now)) ∧ KeepL g v w w' ∧ v'.ownBlock = v.ownBlock := by
  have TC := veil (there_yes g v m w h.row (by have := hm.winL; omega))
  have MC := veil (mayBe_any g v m now w h.row)
  rw [show (decide (m.now ≤ now) && decide (now ≤ 1099511627775)) = true from by rw [Bool.and_eq_true, decide_eq_true_eq, decide_eq_true_eq]; exact hn] at MC
  have c4 := h.cells.c4
  have f4 := h.cells.f 4
  obtain ⟨h1, k1⟩ := h.setNow now
  have LC := veil (lose_any g v (atM m now) _ h1 (hm.at hn.1 hn.2))
  have HK := veil k1
  clear h hm hn h1 k1
  go_enter Tryz.func16, Tryz.ntmps16
  go_wp2_with fail
  refine TC.out.mono ?_
  rintro e1 w1 ⟨rfl, rfl⟩
  go_wp2_with fail
  refine MC.out.mono ?_
  rintro e2 w2 ⟨rfl, rfl⟩
  go_wp2_with fail
  refine LC.out.mono ?_
  rintro e3 w3 ⟨u3, v3, rfl, ho, hL, hk, hv⟩
  have HO := veil ho
  have HL := veil hL
  have HK3 := veil (HK.out.trans hk)
  have HV := veil hv
  clear ho hL hk hv c4 f4
  go_wp2
  go_ret2
  exact ⟨_, v3, rfl, own_low2 HO.out (by simp [World.setCell]), HL.out, HK3.out, HV.out⟩
structure AnsOk (m : ML) (r : List (Nat × Nat)) (delay now : Nat) : Prop where
  ne : r ≠ []
  set : Rg.setOk r
  delay : delay ≤ 1099511627775
  now : m.now ≤ now ∧ now ≤ 1099511627775
def lastOf (r : List (Nat × Nat)) : Nat := (gr r (r.length - 1)).2
set_option maxRecDepth 20000 in
set_option maxHeartbeats 1000000 in
theorem ans_no0 (g : Nat) (v : Value) (m : ML) (s : RL) (delay now : Nat) (w : World) (h : LdOk w g v m) (hw : 0 < m.win) (_hs : s.Ok w) (h0k : s.len = 0) :
    Calls Tryz.prog 10 #[.pointer (some ⟨g, 0, none⟩), .slice s.a s.len s.cap, .int .u64 (delay : Int), .int .u64 (now : Int)] w fun e w' => e = .returned (.tuple #[.slice none 0 0, .slice none 0 0, .int .i64 1]) ∧ Below w.heap.size w w' := by
  obtain ⟨w0, hw0⟩ : ∃ w0, w0 = w.alloc (.cells #[.slice s.a s.len s.cap] 24) := ⟨_, rfl⟩
  have hb0 : Below w.heap.size w w0 := by rw [hw0]; exact (Below.refl _ w).alloc (Nat.le_refl _) _
  have rb0 : Row w0 w.heap.size 24 #[.slice s.a s.len s.cap] := by rw [hw0]; exact Row.new _ _ _
  have h0 := h.below hb0
  have cb : w0.cell? ⟨w.heap.size, 0, none⟩ = some (.slice s.a s.len s.cap) := rb0.cell 0
  have TC := veil (there_yes g v m w0 h0.row hw)
  have l1 : (s.len : Int) = 0 := by omega
  have l2 : decide ((s.len : Int) = 0) = true := by simp; omega
  have l3 : decide (s.len = 0) = true := by simp; omega
  have HB0 := veil hb0
  have H0 := veil h0
  have RB0 := veil rb0
  clear h hw hb0 rb0 h0 h0k
  subst hw0
  go_enter Tryz.func10, Tryz.ntmps10
  go_wp2_with fail
  refine TC.out.mono ?_
  rintro e1 w1 ⟨rfl, rfl⟩
  go_wp2
  refine bodyPost_ret (results_tmp3 rfl _ _ _) rfl ?_
  exact ⟨rfl, HB0.out⟩
set_option maxRecDepth 20000 in
set_option maxHeartbeats 1000000 in
theorem ans_no1 (g : Nat) (v : Value) (m : ML) (s : RL) (delay now : Nat) (w : World) (h : LdOk w g v m) (hw : 0 < m.win) (hs : s.Ok w) (h0k : 0 < s.len) (h1 : ¬ Rg.setOk s.l) :
    Calls Tryz.prog 10 #[.pointer (some ⟨g, 0, none⟩), .slice s.a s.len s.cap, .int .u64 (delay : Int), .int .u64 (now : Int)] w fun e w' => e = .returned (.tuple #[.slice none 0 0, .slice none 0 0, .int .i64 1]) ∧ Below w.heap.size w w' := by
  obtain ⟨w0, hw0⟩ : ∃ w0, w0 = w.alloc (.cells #[.slice s.a s.len s.cap] 24) := ⟨_, rfl⟩
  have hb0 : Below w.heap.size w w0 := by rw [hw0]; exact (Below.refl _ w).alloc (Nat.le_refl _) _
  have rb0 : Row w0 w.heap.size 24 #[.slice s.a s.len s.cap] := by rw [hw0]; exact Row.new _ _ _
  have h0 := h.below hb0
  have cb : w0.cell? ⟨w.heap.size, 0, none⟩ = some (.slice s.a s.len s.cap) := rb0.cell 0
  have TC := veil (there_yes g v m w0 h0.row hw)
  have l1 : ¬ (s.len : Int) = 0 := by omega
  have l2 : decide ((s.len : Int) = 0) = false := by simp; omega
  have l3 : decide (s.len = 0) = false := by simp; omega
  have l4 : ¬ s.len = 0 := by omega
  have CC := veil (rg_check s w0 (hs.below hb0))
  have HB0 := veil hb0
  have H0 := veil h0
  have RB0 := veil rb0
  have HNS := veil h1
  clear h hw hs hb0 rb0 h0 h0k h1
  subst hw0
  go_enter Tryz.func10, Tryz.ntmps10
  go_wp2_with fail
  refine TC.out.mono ?_
  rintro e1 w1 ⟨rfl, rfl⟩
  go_wp2_with fail
  refine CC.out.mono ?_
  rintro e2 w2 ⟨hc, hb2⟩
  have h2 := H0.out.below hb2
  have b2 := HB0.out.trans (hb2.mono HB0.out.size)
  have cb2 := (RB0.out.below hb2 RB0.out.lt).cell 0
  have HB2 := veil b2
  rcases hc with ⟨_, hc⟩ | ⟨rfl, _⟩
  · exact absurd hc HNS.out
  clear hb2 h2 b2 cb CC TC
  go_wp2
  refine bodyPost_ret (results_tmp3 rfl _ _ _) rfl ?_
  exact ⟨rfl, HB2.out⟩
set_option maxRecDepth 20000 in
set_option maxHeartbeats 1000000 in
theorem ans_no2 (g : Nat) (v : Value) (m : ML) (s : RL) (delay now : Nat) (w : World) (h : LdOk w g v m) (hw : 0 < m.win) (hs : s.Ok w) (h0k : 0 < s.len) (h1 : Rg.setOk s.l) (h2 : 1099511627775 < delay) :
    Calls Tryz.prog 10 #[.pointer (some ⟨g, 0, none⟩), .slice s.a s.len s.cap, .int .u64 (delay : Int), .int .u64 (now : Int)] w fun e w' => e = .returned (.tuple #[.slice none 0 0, .slice none 0 0, .int .i64 1]) ∧ Below w.heap.size w w' := by
  obtain ⟨w0, hw0⟩ : ∃ w0, w0 = w.alloc (.cells #[.slice s.a s.len s.cap] 24) := ⟨_, rfl⟩
  have hb0 : Below w.heap.size w w0 := by rw [hw0]; exact (Below.refl _ w).alloc (Nat.le_refl _) _
  have rb0 : Row w0 w.heap.size 24 #[.slice s.a s.len s.cap] := by rw [hw0]; exact Row.new _ _ _
  have h0 := h.below hb0
  have cb : w0.cell? ⟨w.heap.size, 0, none⟩ = some (.slice s.a s.len s.cap) := rb0.cell 0
  have TC := veil (there_yes g v m w0 h0.row hw)
  have l1 : ¬ (s.len : Int) = 0 := by omega
  have l2 : decide ((s.len : Int) = 0) = false := by simp; omega
  have l3 : decide (s.len = 0) = false := by simp; omega
  have l4 : ¬ s.len = 0 := by omega
  have CC := veil (rg_check s w0 (hs.below hb0))
  have e1 : decide ((1099511627775 : Int) < (delay : Int)) = true := by simp; omega
  have e2 : decide (1099511627775 < delay) = true := by simp; omega
  have HB0 := veil hb0
  have H0 := veil h0
  have RB0 := veil rb0
  have HYS := veil h1
  clear h hw hs hb0 rb0 h0 h0k h1 h2
  subst hw0
  go_enter Tryz.func10, Tryz.ntmps10
  go_wp2_with fail
  refine TC.out.mono ?_
  rintro e1 w1 ⟨rfl, rfl⟩
  go_wp2_with fail
  refine CC.out.mono ?_
  rintro e2 w2 ⟨hc, hb2⟩
  have h2 := H0.out.below hb2
  have b2 := HB0.out.trans (hb2.mono HB0.out.size)
  have cb2 := (RB0.out.below hb2 RB0.out.lt).cell 0
  have HB2 := veil b2
  have he2 : e2 = .returned (.bool true) := hc.elim (fun q => q.1) (fun q => absurd HYS.out q.2)
  subst he2
  clear hc
  clear hb2 h2 b2 cb CC TC
  go_wp2
  refine bodyPost_ret (results_tmp3 rfl _ _ _) rfl ?_
  exact ⟨rfl, HB2.out⟩
set_option maxRecDepth 20000 in
set_option maxHeartbeats 1000000 in
theorem ans_no3 (g : Nat) (v : Value) (m : ML) (s : RL) (delay now : Nat) (w : World) (h : LdOk w g v m) (hw : 0 < m.win) (hs : s.Ok w) (h0k : 0 < s.len) (h1 : Rg.setOk s.l) (h2 : delay ≤ 1099511627775) (h3 : ¬ (m.now ≤ now ∧ now ≤ 1099511627775)) :
    Calls Tryz.prog 10 #[.pointer (some ⟨g, 0, none⟩), .slice s.a s.len s.cap, .int .u64 (delay : Int), .int .u64 (now : Int)] w fun e w' => e = .returned (.tuple #[.slice none 0 0, .slice none 0 0, .int .i64 1]) ∧ Below w.heap.size w w' := by
  obtain ⟨w0, hw0⟩ : ∃ w0, w0 = w.alloc (.cells #[.slice s.a s.len s.cap] 24) := ⟨_, rfl⟩
  have hb0 : Below w.heap.size w w0 := by rw [hw0]; exact (Below.refl _ w).alloc (Nat.le_refl _) _
  have rb0 : Row w0 w.heap.size 24 #[.slice s.a s.len s.cap] := by rw [hw0]; exact Row.new _ _ _
  have h0 := h.below hb0
  have cb : w0.cell? ⟨w.heap.size, 0, none⟩ = some (.slice s.a s.len s.cap) := rb0.cell 0
  have TC := veil (there_yes g v m w0 h0.row hw)
  have l1 : ¬ (s.len : Int) = 0 := by omega
  have l2 : decide ((s.len : Int) = 0) = false := by simp; omega
  have l3 : decide (s.len = 0) = false := by simp; omega
  have l4 : ¬ s.len = 0 := by omega
  have CC := veil (rg_check s w0 (hs.below hb0))
  have e1 : decide ((1099511627775 : Int) < (delay : Int)) = false := by simp; omega
  have e2 : decide (1099511627775 < delay) = false := by simp; omega
  have HB0 := veil hb0
  have H0 := veil h0
  have RB0 := veil rb0
  have HYS := veil h1
  have HNW := veil h3
  clear h hw hs hb0 rb0 h0 h0k h1 h2 h3
  subst hw0
  go_enter Tryz.func10, Tryz.ntmps10
  go_wp2_with fail
  refine TC.out.mono ?_
  rintro e1 w1 ⟨rfl, rfl⟩
  go_wp2_with fail
  refine CC.out.mono ?_
  rintro e2 w2 ⟨hc, hb2⟩
  have h2 := H0.out.below hb2
  have b2 := HB0.out.trans (hb2.mono HB0.out.size)
  have cb2 := (RB0.out.below hb2 RB0.out.lt).cell 0
  have HB2 := veil b2
  have he2 : e2 = .returned (.bool true) := hc.elim (fun q => q.1) (fun q => absurd HYS.out q.2)
  subst he2
  clear hc
  have MC := veil (mayBe_any g v m now w2 h2.row)
  rw [show (decide (m.now ≤ now) && decide (now ≤ 1099511627775)) = false from by have := HNW.out; rw [Bool.and_eq_false_iff, decide_eq_false_iff_not, decide_eq_false_iff_not]; omega] at MC
  clear hb2 h2 b2 cb CC TC
  go_wp2_with fail
  refine MC.out.mono ?_
  rintro e3 w3 ⟨rfl, rfl⟩
  go_wp2
  refine bodyPost_ret (results_tmp3 rfl _ _ _) rfl ?_
  exact ⟨rfl, HB2.out⟩
set_option maxRecDepth 20000 in
set_option maxHeartbeats 1000000 in
theorem ans_no4 (g : Nat) (v : Value) (m : ML) (s : RL) (delay now : Nat) (w : World) (h : LdOk w g v m) (hw : 0 < m.win) (hs : s.Ok w) (h0k : 0 < s.len) (h1 : Rg.setOk s.l) (h2 : delay ≤ 1099511627775) (h3 : m.now ≤ now ∧ now ≤ 1099511627775) (h4 : m.next ≤ lastOf s.l) (h64 : s.len ≤ 64) :
    Calls Tryz.prog 10 #[.pointer (some ⟨g, 0, none⟩), .slice s.a s.len s.cap, .int .u64 (delay : Int), .int .u64 (now : Int)] w fun e w' => e = .returned (.tuple #[.slice none 0 0, .slice none 0 0, .int .i64 9]) ∧ Below w.heap.size w w' := by
  obtain ⟨w0, hw0⟩ : ∃ w0, w0 = w.alloc (.cells #[.slice s.a s.len s.cap] 24) := ⟨_, rfl⟩
  have hb0 : Below w.heap.size w w0 := by rw [hw0]; exact (Below.refl _ w).alloc (Nat.le_refl _) _
  have rb0 : Row w0 w.heap.size 24 #[.slice s.a s.len s.cap] := by rw [hw0]; exact Row.new _ _ _
  have h0 := h.below hb0
  have cb : w0.cell? ⟨w.heap.size, 0, none⟩ = some (.slice s.a s.len s.cap) := rb0.cell 0
  have TC := veil (there_yes g v m w0 h0.row hw)
  have l1 : ¬ (s.len : Int) = 0 := by omega
  have l2 : decide ((s.len : Int) = 0) = false := by simp; omega
  have l3 : decide (s.len = 0) = false := by simp; omega
  have l4 : ¬ s.len = 0 := by omega
  have CC := veil (rg_check s w0 (hs.below hb0))
  have e1 : decide ((1099511627775 : Int) < (delay : Int)) = false := by simp; omega
  have e2 : decide (1099511627775 < delay) = false := by simp; omega
  have hla : s.a = some ⟨s.g, s.off, none⟩ := hs.at_ (by omega)
  have hgl := hs.lt (by omega)
  obtain ⟨n1, hn1⟩ : ∃ n1, s.len = n1 + 1 := ⟨s.len - 1, by omega⟩
  have hls : lastOf s.l = (gr s.l n1).2 := by unfold lastOf; rw [hs.hb, hn1]; rfl
  have cl := (hs.below hb0).cell n1 (by omega)
  have n2 : IntKind.i64.wrap ((s.len : Int) - 1) = (n1 : Int) := by have := h64; rw [IntKind.wrap_i64]; omega
  have n3 : decide ((n1 : Int) < (s.len : Int)) = true := by simp; omega
  have n4 : n1 < s.len := by omega
  have n5 : decide ((m.next : Int) ≤ ((gr s.l n1).2 : Int)) = true := by simp; rw [← hls]; omega
  have n6 : decide (m.next ≤ (gr s.l n1).2) = true := by simp; rw [← hls]; omega
  obtain ⟨_, cl2⟩ := cl
  have HC2 := veil cl2
  have HB0 := veil hb0
  have H0 := veil h0
  have RB0 := veil rb0
  have HYS := veil h1
  have HNW := veil h3
  have HGL := veil hgl
  obtain ⟨sa, slen, scap, sg, soff, sl⟩ := s
  simp only at hla
  subst hla
  simp only at *
  clear hn1 hls h64 h4 cl2
  clear h hw hs hb0 rb0 h0 h0k h1 h2 h3
  subst hw0
  go_enter Tryz.func10, Tryz.ntmps10
  go_wp2_with fail
  refine TC.out.mono ?_
  rintro e1 w1 ⟨rfl, rfl⟩
  go_wp2_with fail
  refine CC.out.mono ?_
  rintro e2 w2 ⟨hc, hb2⟩
  have h2 := H0.out.below hb2
  have b2 := HB0.out.trans (hb2.mono HB0.out.size)
  have cb2 := (RB0.out.below hb2 RB0.out.lt).cell 0
  have HB2 := veil b2
  have cl9 := (hb2.cell (p := ⟨sg, soff + n1 * 2 + 1, none⟩) (Nat.lt_of_lt_of_le HGL.out HB0.out.size)).trans HC2.out
  have cn9 := h2.cells.c2
  have he2 : e2 = .returned (.bool true) := hc.elim (fun q => q.1) (fun q => absurd HYS.out q.2)
  subst he2
  clear hc
  have MC := veil (mayBe_any g v m now w2 h2.row)
  rw [show (decide (m.now ≤ now) && decide (now ≤ 1099511627775)) = true from by have := HNW.out; rw [Bool.and_eq_true, decide_eq_true_eq, decide_eq_true_eq]; exact this] at MC
  clear hb2 h2 b2 cb CC TC
  go_wp2_with fail
  refine MC.out.mono ?_
  rintro e3 w3 ⟨rfl, rfl⟩
  go_wp2
  refine bodyPost_ret (results_tmp3 rfl _ _ _) rfl ?_
  exact ⟨rfl, HB2.out⟩
end Go.Proofs.YtohoieleakieeaaGreatDoor

/-! A ledger of the program stays within bounds. No walk in sight. -/
namespace Go.Proofs.YtohoieleakieeaaGreatDoor
open Go Go.RowKit

theorem filter_two {α : Type} (f : α → Bool) : ∀ l : List α, (l.filter (fun p => !f p)).length + (l.filter f).length = l.length
  | [] => rfl
  | p :: l => by
    have h := filter_two f l
    rw [List.filter_cons, List.filter_cons]
    cases f p
    · simp only [Bool.not_false, if_true, Bool.false_eq_true, if_false, List.length_cons]; omega
    · simp only [Bool.not_true, if_true, Bool.false_eq_true, if_false, List.length_cons]; omega
theorem Fits.cut {m : ML} (h : Fits m) (f : Lg.Pk → Bool) : Fits { m with way := m.way.filter f, ask := Lg.asum (m.way.filter f) } :=
  ⟨h.next, h.asked, h.now, h.front, h.lat, h.smo, h.var, h.lea, h.winL, by have := h.winU; have := List.length_filter_le f m.way; show m.win + 1200 * (m.way.filter f).length ≤ _; omega, h.thr, h.mom, fun p hp => h.num p (List.mem_filter.1 hp).1, fun p hp => h.size p (List.mem_filter.1 hp).1, fun p hp => h.time p (List.mem_filter.1 hp).1, h.up.sublist ((List.filter_sublist).map _), rfl, Nat.le_trans (List.length_filter_le f m.way) h.len⟩
theorem Fits.shrink {m : ML} (h : Fits m) : Fits (shrinkM m) := by
  have h1 := h.winL
  have h2 := h.winU
  exact ⟨h.next, h.asked, h.now, h.front, h.lat, h.smo, h.var, h.lea, Nat.le_max_right _ _, by show max (m.win / 2) 2400 + 1200 * m.way.length ≤ _; omega, by show m.win / 2 ≤ _; omega, h.now, h.num, h.size, h.time, h.up, h.ask, h.len⟩
theorem Fits.lose {m : ML} (h : Fits m) : Fits (loseM m) := by
  unfold loseM
  split
  · exact (h.cut _).shrink
  · exact h.cut _
theorem Fits.measure {m : ML} (h : Fits m) {latest delay : Nat} (h1 : latest ≤ 1099511627775) : Fits (measM m latest delay) := by
  have ha : withA m.lea latest delay ≤ 1099511627775 := by unfold withA; split <;> omega
  have h2 := h.smo
  have h3 := h.var
  have h4 := h.lea
  unfold measM
  split
  · refine ⟨h.next, h.asked, h.now, h.front, h1, ?_, ?_, ?_, h.winL, h.winU, h.thr, h.mom, h.num, h.size, h.time, h.up, h.ask, h.len⟩
    · show withS _ _ ≤ _; unfold withS; omega
    · show withV _ _ _ ≤ _; unfold withV; omega
    · show min _ _ ≤ _; omega
  · exact ⟨h.next, h.asked, h.now, h.front, h1, h1, by show latest / 2 ≤ _; omega, h1, h.winL, h.winU, h.thr, h.mom, h.num, h.size, h.time, h.up, h.ask, h.len⟩
theorem Fits.came {m : ML} (h : Fits m) (T : List Lg.Pk) (q : Lg.Pk) (last delay : Nat) (hq : q.num ≤ 4611686018427387903) (hw : m.win + 1200 * (m.way.length + T.length) ≤ 3000000) (hT : ∀ p ∈ T, p.size ≤ 1200) : Fits (cameM m T q last delay) := by
  have hF : Fits (cameF m q) := ⟨h.next, h.asked, h.now, by show max m.front q.num ≤ _; have := h.front; omega, h.lat, h.smo, h.var, h.lea, h.winL, h.winU, h.thr, h.mom, h.num, h.size, h.time, h.up, h.ask, h.len⟩
  have hC : Fits (cameT m T q last delay) := by
    unfold cameT
    split
    · exact hF.measure (by have := h.now; omega)
    · exact hF
  have hway : (cameT m T q last delay).way = m.way := by
    unfold cameT measM cameF
    split
    · split <;> rfl
    · rfl
  have hf := growF_fold (cameT m T q last delay) T m.win h.winL hT
  have h1 := h.winL
  unfold cameM
  refine ⟨hC.next, hC.asked, hC.now, hC.front, hC.lat, hC.smo, hC.var, hC.lea, ?_, ?_, hC.thr, hC.mom, hC.num, hC.size, hC.time, hC.up, hC.ask, hC.len⟩
  · show 2400 ≤ List.foldl _ _ _; omega
  · show List.foldl _ _ _ + 1200 * (cameT m T q last delay).way.length ≤ _; rw [hway]; omega
theorem came_way (m : ML) (T : List Lg.Pk) (q : Lg.Pk) (last delay : Nat) : (cameM m T q last delay).way = m.way := by
  unfold cameM cameT measM cameF
  split
  · split <;> rfl
  · rfl
theorem Fits.sent {m : ML} (h : Fits m) {num : Nat} {size : Int} {now : Nat} (asks : Bool) (ho : sentOk m num size now) (hw : m.win + 1200 * (m.way.length + 1) ≤ 3000000) (hl : m.way.length < 2000) : Fits (sentM m num size now asks) := by
  obtain ⟨h1, h2, h3, h4, h5, h6⟩ := ho
  refine ⟨by show num + 1 ≤ _; omega, ?_, h6, h.front, h.lat, h.smo, h.var, h.lea, h.winL, ?_, h.thr, h.mom, ?_, ?_, ?_, ?_, ?_, ?_⟩
  · show (if asks then now else m.asked) ≤ _
    split
    · exact h6
    · exact h.asked
  · show m.win + 1200 * (m.way ++ [_]).length ≤ _
    rw [List.length_append, List.length_singleton]
    exact hw
  · intro p hp
    show p.num < num + 1
    rcases List.mem_append.1 hp with q | q
    · have := h.num p q; omega
    · obtain rfl : p = ⟨num, size.toNat, now, asks⟩ := by simpa using q
      show num < num + 1
      omega
  · intro p hp
    rcases List.mem_append.1 hp with q | q
    · exact h.size p q
    · obtain rfl : p = ⟨num, size.toNat, now, asks⟩ := by simpa using q
      show 1 ≤ size.toNat ∧ size.toNat ≤ 1200
      omega
  · intro p hp
    show p.time ≤ now
    rcases List.mem_append.1 hp with q | q
    · have := h.time p q; omega
    · obtain rfl : p = ⟨num, size.toNat, now, asks⟩ := by simpa using q
      exact Nat.le_refl _
  · show ((m.way ++ [_]).map _).Pairwise _
    rw [List.map_append, List.pairwise_append]
    refine ⟨h.up, List.pairwise_singleton _ _, fun a ha b hb => ?_⟩
    obtain ⟨p, hp, rfl⟩ := List.mem_map.1 ha
    obtain rfl : b = num := by simpa using hb
    have := h.num p hp
    omega
  · show (if asks then m.ask + size.toNat else m.ask) = Lg.asum (m.way ++ [_])
    rw [Lg.asum_append, show Lg.asum m.way = m.ask from h.ask.symm, Lg.asum_cons]
    cases asks
    · rfl
    · rfl
  · show (m.way ++ [_]).length ≤ _
    rw [List.length_append, List.length_singleton]
    omega
end Go.Proofs.YtohoieleakieeaaGreatDoor
