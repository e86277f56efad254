/-
  Written by mklgans.py: Lose, and Answer where it refuses.
-/
import Derived.Test.YtohoieleakieeaaGeLgCame
import Derived.Test.YtohoieleakieeaaGe7
namespace Go.Proofs.Ytohoieleakieeaa
open Go Go.RowKit Go.Shelf

def atM (m : ML) (now : Nat) : ML := { m with now := now }
theorem Fits.at {m : ML} (h : Fits m) {now : Nat} (h1 : m.now ≤ now) (h2 : now ≤ 1099511627775) : Fits (atM m now) :=
  ⟨h.next, h.asked, h2, h.front, h.lat, h.smo, h.var, h.lea, h.winL, h.winU, h.thr, h.mom, h.num, h.size, fun p hp => Nat.le_trans (h.time p hp) h1, h.up, h.ask, h.len⟩
theorem LdOk.setNow {W : World} {g : Nat} {v : Value} {m : ML} (h : LdOk W g v m) (a : Nat) : LdOk (W.setCell ⟨g, 4, none⟩ (.int .u64 (a : Int))) g v (atM m a) ∧ KeepL g v W (W.setCell ⟨g, 4, none⟩ (.int .u64 (a : Int))) :=
  ⟨⟨h.row.set 4 _, h.way.same (fun k hk => Below.heap_setCell _ _ _ _ (fun q => h.apart (by rw [show g = k from q.symm]; exact hk)))⟩, KeepP.setCell (.inl rfl) _ _ _⟩
set_option maxRecDepth 20000 in
set_option maxHeartbeats 1000000 in
theorem loseTop_no (g : Nat) (v : Value) (m : ML) (now : Nat) (w : World) (h : LdOk w g v m) (hw : 0 < m.win) (hn : ¬ (m.now ≤ now ∧ now ≤ 1099511627775)) :
    Calls Try.prog 9 #[.pointer (some ⟨g, 0, none⟩), .int .u64 (now : Int)] w fun e w' => e = .returned (.tuple #[.slice none 0 0, .int .i64 1]) ∧ w' = w := by
  have TC := veil (there_yes g v m w h.row hw)
  have MC := veil (mayBe_any g v m now w h.row)
  rw [show (decide (m.now ≤ now) && decide (now ≤ 1099511627775)) = false from by rw [Bool.and_eq_false_iff, decide_eq_false_iff_not, decide_eq_false_iff_not]; omega] at MC
  clear h hw hn
  go_enter Try.func9, Try.ntmps9
  go_wp2_with fail
  refine TC.out.mono ?_
  rintro e1 w1 ⟨rfl, rfl⟩
  go_wp2_with fail
  refine MC.out.mono ?_
  rintro e2 w2 ⟨rfl, rfl⟩
  go_wp2
  go_ret2
  exact ⟨rfl, rfl⟩
set_option maxRecDepth 20000 in
set_option maxHeartbeats 1000000 in
theorem loseTop_yes (g : Nat) (v : Value) (m : ML) (now : Nat) (w : World) (h : LdOk w g v m) (hm : Fits m) (hn : m.now ≤ now ∧ now ≤ 1099511627775) :
    Calls Try.prog 9 #[.pointer (some ⟨g, 0, none⟩), .int .u64 (now : Int)] w fun e w' => ∃ u v', e = .returned (.tuple #[u, .int .i64 0]) ∧ w'.ownsRow w.heap.size 27 1 u ((atM m now).way.filter (lostX (atM m now))).length (vnum (((atM m now).way.filter (lostX (atM m now))).map (·.num))) ∧ LdOk w' g v' (loseM (atM m now)) ∧ KeepL g v w w' ∧ v'.ownBlock = v.ownBlock := by
  have TC := veil (there_yes g v m w h.row (by have := hm.winL; omega))
  have MC := veil (mayBe_any g v m now w h.row)
  rw [show (decide (m.now ≤ now) && decide (now ≤ 1099511627775)) = true from by rw [Bool.and_eq_true, decide_eq_true_eq, decide_eq_true_eq]; exact hn] at MC
  have c4 := h.cells.c4
  have f4 := h.cells.f 4
  obtain ⟨h1, k1⟩ := h.setNow now
  have LC := veil (lose_any g v (atM m now) _ h1 (hm.at hn.1 hn.2))
  have HK := veil k1
  clear h hm hn h1 k1
  go_enter Try.func9, Try.ntmps9
  go_wp2_with fail
  refine TC.out.mono ?_
  rintro e1 w1 ⟨rfl, rfl⟩
  go_wp2_with fail
  refine MC.out.mono ?_
  rintro e2 w2 ⟨rfl, rfl⟩
  go_wp2_with fail
  refine LC.out.mono ?_
  rintro e3 w3 ⟨u3, v3, rfl, ho, hL, hk, hv⟩
  have HO := veil ho
  have HL := veil hL
  have HK3 := veil (HK.out.trans hk)
  have HV := veil hv
  clear ho hL hk hv c4 f4
  go_wp2
  go_ret2
  exact ⟨_, v3, rfl, own_low2 HO.out (by simp [World.setCell]), HL.out, HK3.out, HV.out⟩
structure AnsOk (m : ML) (r : List (Nat × Nat)) (delay now : Nat) : Prop where
  ne : r ≠ []
  set : Rg.setOk r
  delay : delay ≤ 1099511627775
  now : m.now ≤ now ∧ now ≤ 1099511627775
def lastOf (r : List (Nat × Nat)) : Nat := (gr r (r.length - 1)).2
set_option maxRecDepth 20000 in
set_option maxHeartbeats 1000000 in
theorem ans_no0 (g : Nat) (v : Value) (m : ML) (s : RL) (delay now : Nat) (w : World) (h : LdOk w g v m) (hw : 0 < m.win) (_hs : s.Ok w) (h0k : s.len = 0) :
    Calls Try.prog 8 #[.pointer (some ⟨g, 0, none⟩), .slice s.a s.len s.cap, .int .u64 (delay : Int), .int .u64 (now : Int)] w fun e w' => e = .returned (.tuple #[.slice none 0 0, .slice none 0 0, .int .i64 1]) ∧ Below w.heap.size w w' := by
  obtain ⟨w0, hw0⟩ : ∃ w0, w0 = w.alloc (.cells #[.slice s.a s.len s.cap] 28) := ⟨_, rfl⟩
  have hb0 : Below w.heap.size w w0 := by rw [hw0]; exact (Below.refl _ w).alloc (Nat.le_refl _) _
  have rb0 : Row w0 w.heap.size 28 #[.slice s.a s.len s.cap] := by rw [hw0]; exact Row.new _ _ _
  have h0 := h.below hb0
  have cb : w0.cell? ⟨w.heap.size, 0, none⟩ = some (.slice s.a s.len s.cap) := rb0.cell 0
  have TC := veil (there_yes g v m w0 h0.row hw)
  have l1 : (s.len : Int) = 0 := by omega
  have l2 : decide ((s.len : Int) = 0) = true := by simp; omega
  have l3 : decide (s.len = 0) = true := by simp; omega
  have HB0 := veil hb0
  have H0 := veil h0
  have RB0 := veil rb0
  clear h hw hb0 rb0 h0 h0k
  subst hw0
  go_enter Try.func8, Try.ntmps8
  go_wp2_with fail
  refine TC.out.mono ?_
  rintro e1 w1 ⟨rfl, rfl⟩
  go_wp2
  refine bodyPost_ret (results_tmp3 rfl _ _ _) rfl ?_
  exact ⟨rfl, HB0.out⟩
set_option maxRecDepth 20000 in
set_option maxHeartbeats 1000000 in
theorem ans_no1 (g : Nat) (v : Value) (m : ML) (s : RL) (delay now : Nat) (w : World) (h : LdOk w g v m) (hw : 0 < m.win) (hs : s.Ok w) (h0k : 0 < s.len) (h1 : ¬ Rg.setOk s.l) :
    Calls Try.prog 8 #[.pointer (some ⟨g, 0, none⟩), .slice s.a s.len s.cap, .int .u64 (delay : Int), .int .u64 (now : Int)] w fun e w' => e = .returned (.tuple #[.slice none 0 0, .slice none 0 0, .int .i64 1]) ∧ Below w.heap.size w w' := by
  obtain ⟨w0, hw0⟩ : ∃ w0, w0 = w.alloc (.cells #[.slice s.a s.len s.cap] 28) := ⟨_, rfl⟩
  have hb0 : Below w.heap.size w w0 := by rw [hw0]; exact (Below.refl _ w).alloc (Nat.le_refl _) _
  have rb0 : Row w0 w.heap.size 28 #[.slice s.a s.len s.cap] := by rw [hw0]; exact Row.new _ _ _
  have h0 := h.below hb0
  have cb : w0.cell? ⟨w.heap.size, 0, none⟩ = some (.slice s.a s.len s.cap) := rb0.cell 0
  have TC := veil (there_yes g v m w0 h0.row hw)
  have l1 : ¬ (s.len : Int) = 0 := by omega
  have l2 : decide ((s.len : Int) = 0) = false := by simp; omega
  have l3 : decide (s.len = 0) = false := by simp; omega
  have l4 : ¬ s.len = 0 := by omega
  have CC := veil (rg_check s w0 (hs.below hb0))
  have HB0 := veil hb0
  have H0 := veil h0
  have RB0 := veil rb0
  have HNS := veil h1
  clear h hw hs hb0 rb0 h0 h0k h1
  subst hw0
  go_enter Try.func8, Try.ntmps8
  go_wp2_with fail
  refine TC.out.mono ?_
  rintro e1 w1 ⟨rfl, rfl⟩
  go_wp2_with fail
  refine CC.out.mono ?_
  rintro e2 w2 ⟨hc, hb2⟩
  have h2 := H0.out.below hb2
  have b2 := HB0.out.trans (hb2.mono HB0.out.size)
  have cb2 := (RB0.out.below hb2 RB0.out.lt).cell 0
  have HB2 := veil b2
  rcases hc with ⟨_, hc⟩ | ⟨rfl, _⟩
  · exact absurd hc HNS.out
  clear hb2 h2 b2 cb CC TC
  go_wp2
  refine bodyPost_ret (results_tmp3 rfl _ _ _) rfl ?_
  exact ⟨rfl, HB2.out⟩
set_option maxRecDepth 20000 in
set_option maxHeartbeats 1000000 in
theorem ans_no2 (g : Nat) (v : Value) (m : ML) (s : RL) (delay now : Nat) (w : World) (h : LdOk w g v m) (hw : 0 < m.win) (hs : s.Ok w) (h0k : 0 < s.len) (h1 : Rg.setOk s.l) (h2 : 1099511627775 < delay) :
    Calls Try.prog 8 #[.pointer (some ⟨g, 0, none⟩), .slice s.a s.len s.cap, .int .u64 (delay : Int), .int .u64 (now : Int)] w fun e w' => e = .returned (.tuple #[.slice none 0 0, .slice none 0 0, .int .i64 1]) ∧ Below w.heap.size w w' := by
  obtain ⟨w0, hw0⟩ : ∃ w0, w0 = w.alloc (.cells #[.slice s.a s.len s.cap] 28) := ⟨_, rfl⟩
  have hb0 : Below w.heap.size w w0 := by rw [hw0]; exact (Below.refl _ w).alloc (Nat.le_refl _) _
  have rb0 : Row w0 w.heap.size 28 #[.slice s.a s.len s.cap] := by rw [hw0]; exact Row.new _ _ _
  have h0 := h.below hb0
  have cb : w0.cell? ⟨w.heap.size, 0, none⟩ = some (.slice s.a s.len s.cap) := rb0.cell 0
  have TC := veil (there_yes g v m w0 h0.row hw)
  have l1 : ¬ (s.len : Int) = 0 := by omega
  have l2 : decide ((s.len : Int) = 0) = false := by simp; omega
  have l3 : decide (s.len = 0) = false := by simp; omega
  have l4 : ¬ s.len = 0 := by omega
  have CC := veil (rg_check s w0 (hs.below hb0))
  have e1 : decide ((1099511627775 : Int) < (delay : Int)) = true := by simp; omega
  have e2 : decide (1099511627775 < delay) = true := by simp; omega
  have HB0 := veil hb0
  have H0 := veil h0
  have RB0 := veil rb0
  have HYS := veil h1
  clear h hw hs hb0 rb0 h0 h0k h1 h2
  subst hw0
  go_enter Try.func8, Try.ntmps8
  go_wp2_with fail
  refine TC.out.mono ?_
  rintro e1 w1 ⟨rfl, rfl⟩
  go_wp2_with fail
  refine CC.out.mono ?_
  rintro e2 w2 ⟨hc, hb2⟩
  have h2 := H0.out.below hb2
  have b2 := HB0.out.trans (hb2.mono HB0.out.size)
  have cb2 := (RB0.out.below hb2 RB0.out.lt).cell 0
  have HB2 := veil b2
  have he2 : e2 = .returned (.bool true) := hc.elim (fun q => q.1) (fun q => absurd HYS.out q.2)
  subst he2
  clear hc
  clear hb2 h2 b2 cb CC TC
  go_wp2
  refine bodyPost_ret (results_tmp3 rfl _ _ _) rfl ?_
  exact ⟨rfl, HB2.out⟩
set_option maxRecDepth 20000 in
set_option maxHeartbeats 1000000 in
theorem ans_no3 (g : Nat) (v : Value) (m : ML) (s : RL) (delay now : Nat) (w : World) (h : LdOk w g v m) (hw : 0 < m.win) (hs : s.Ok w) (h0k : 0 < s.len) (h1 : Rg.setOk s.l) (h2 : delay ≤ 1099511627775) (h3 : ¬ (m.now ≤ now ∧ now ≤ 1099511627775)) :
    Calls Try.prog 8 #[.pointer (some ⟨g, 0, none⟩), .slice s.a s.len s.cap, .int .u64 (delay : Int), .int .u64 (now : Int)] w fun e w' => e = .returned (.tuple #[.slice none 0 0, .slice none 0 0, .int .i64 1]) ∧ Below w.heap.size w w' := by
  obtain ⟨w0, hw0⟩ : ∃ w0, w0 = w.alloc (.cells #[.slice s.a s.len s.cap] 28) := ⟨_, rfl⟩
  have hb0 : Below w.heap.size w w0 := by rw [hw0]; exact (Below.refl _ w).alloc (Nat.le_refl _) _
  have rb0 : Row w0 w.heap.size 28 #[.slice s.a s.len s.cap] := by rw [hw0]; exact Row.new _ _ _
  have h0 := h.below hb0
  have cb : w0.cell? ⟨w.heap.size, 0, none⟩ = some (.slice s.a s.len s.cap) := rb0.cell 0
  have TC := veil (there_yes g v m w0 h0.row hw)
  have l1 : ¬ (s.len : Int) = 0 := by omega
  have l2 : decide ((s.len : Int) = 0) = false := by simp; omega
  have l3 : decide (s.len = 0) = false := by simp; omega
  have l4 : ¬ s.len = 0 := by omega
  have CC := veil (rg_check s w0 (hs.below hb0))
  have e1 : decide ((1099511627775 : Int) < (delay : Int)) = false := by simp; omega
  have e2 : decide (1099511627775 < delay) = false := by simp; omega
  have HB0 := veil hb0
  have H0 := veil h0
  have RB0 := veil rb0
  have HYS := veil h1
  have HNW := veil h3
  clear h hw hs hb0 rb0 h0 h0k h1 h2 h3
  subst hw0
  go_enter Try.func8, Try.ntmps8
  go_wp2_with fail
  refine TC.out.mono ?_
  rintro e1 w1 ⟨rfl, rfl⟩
  go_wp2_with fail
  refine CC.out.mono ?_
  rintro e2 w2 ⟨hc, hb2⟩
  have h2 := H0.out.below hb2
  have b2 := HB0.out.trans (hb2.mono HB0.out.size)
  have cb2 := (RB0.out.below hb2 RB0.out.lt).cell 0
  have HB2 := veil b2
  have he2 : e2 = .returned (.bool true) := hc.elim (fun q => q.1) (fun q => absurd HYS.out q.2)
  subst he2
  clear hc
  have MC := veil (mayBe_any g v m now w2 h2.row)
  rw [show (decide (m.now ≤ now) && decide (now ≤ 1099511627775)) = false from by have := HNW.out; rw [Bool.and_eq_false_iff, decide_eq_false_iff_not, decide_eq_false_iff_not]; omega] at MC
  clear hb2 h2 b2 cb CC TC
  go_wp2_with fail
  refine MC.out.mono ?_
  rintro e3 w3 ⟨rfl, rfl⟩
  go_wp2
  refine bodyPost_ret (results_tmp3 rfl _ _ _) rfl ?_
  exact ⟨rfl, HB2.out⟩
set_option maxRecDepth 20000 in
set_option maxHeartbeats 1000000 in
theorem ans_no4 (g : Nat) (v : Value) (m : ML) (s : RL) (delay now : Nat) (w : World) (h : LdOk w g v m) (hw : 0 < m.win) (hs : s.Ok w) (h0k : 0 < s.len) (h1 : Rg.setOk s.l) (h2 : delay ≤ 1099511627775) (h3 : m.now ≤ now ∧ now ≤ 1099511627775) (h4 : m.next ≤ lastOf s.l) (h64 : s.len ≤ 64) :
    Calls Try.prog 8 #[.pointer (some ⟨g, 0, none⟩), .slice s.a s.len s.cap, .int .u64 (delay : Int), .int .u64 (now : Int)] w fun e w' => e = .returned (.tuple #[.slice none 0 0, .slice none 0 0, .int .i64 9]) ∧ Below w.heap.size w w' := by
  obtain ⟨w0, hw0⟩ : ∃ w0, w0 = w.alloc (.cells #[.slice s.a s.len s.cap] 28) := ⟨_, rfl⟩
  have hb0 : Below w.heap.size w w0 := by rw [hw0]; exact (Below.refl _ w).alloc (Nat.le_refl _) _
  have rb0 : Row w0 w.heap.size 28 #[.slice s.a s.len s.cap] := by rw [hw0]; exact Row.new _ _ _
  have h0 := h.below hb0
  have cb : w0.cell? ⟨w.heap.size, 0, none⟩ = some (.slice s.a s.len s.cap) := rb0.cell 0
  have TC := veil (there_yes g v m w0 h0.row hw)
  have l1 : ¬ (s.len : Int) = 0 := by omega
  have l2 : decide ((s.len : Int) = 0) = false := by simp; omega
  have l3 : decide (s.len = 0) = false := by simp; omega
  have l4 : ¬ s.len = 0 := by omega
  have CC := veil (rg_check s w0 (hs.below hb0))
  have e1 : decide ((1099511627775 : Int) < (delay : Int)) = false := by simp; omega
  have e2 : decide (1099511627775 < delay) = false := by simp; omega
  have hla : s.a = some ⟨s.g, s.off, none⟩ := hs.at_ (by omega)
  have hgl := hs.lt (by omega)
  obtain ⟨n1, hn1⟩ : ∃ n1, s.len = n1 + 1 := ⟨s.len - 1, by omega⟩
  have hls : lastOf s.l = (gr s.l n1).2 := by unfold lastOf; rw [hs.hb, hn1]; rfl
  have cl := (hs.below hb0).cell n1 (by omega)
  have n2 : IntKind.i64.wrap ((s.len : Int) - 1) = (n1 : Int) := by have := h64; rw [IntKind.wrap_i64]; omega
  have n3 : decide ((n1 : Int) < (s.len : Int)) = true := by simp; omega
  have n4 : n1 < s.len := by omega
  have n5 : decide ((m.next : Int) ≤ ((gr s.l n1).2 : Int)) = true := by simp; rw [← hls]; omega
  have n6 : decide (m.next ≤ (gr s.l n1).2) = true := by simp; rw [← hls]; omega
  obtain ⟨_, cl2⟩ := cl
  have HC2 := veil cl2
  have HB0 := veil hb0
  have H0 := veil h0
  have RB0 := veil rb0
  have HYS := veil h1
  have HNW := veil h3
  have HGL := veil hgl
  obtain ⟨sa, slen, scap, sg, soff, sl⟩ := s
  simp only at hla
  subst hla
  simp only at *
  clear hn1 hls h64 h4 cl2
  clear h hw hs hb0 rb0 h0 h0k h1 h2 h3
  subst hw0
  go_enter Try.func8, Try.ntmps8
  go_wp2_with fail
  refine TC.out.mono ?_
  rintro e1 w1 ⟨rfl, rfl⟩
  go_wp2_with fail
  refine CC.out.mono ?_
  rintro e2 w2 ⟨hc, hb2⟩
  have h2 := H0.out.below hb2
  have b2 := HB0.out.trans (hb2.mono HB0.out.size)
  have cb2 := (RB0.out.below hb2 RB0.out.lt).cell 0
  have HB2 := veil b2
  have cl9 := (hb2.cell (p := ⟨sg, soff + n1 * 2 + 1, none⟩) (Nat.lt_of_lt_of_le HGL.out HB0.out.size)).trans HC2.out
  have cn9 := h2.cells.c2
  have he2 : e2 = .returned (.bool true) := hc.elim (fun q => q.1) (fun q => absurd HYS.out q.2)
  subst he2
  clear hc
  have MC := veil (mayBe_any g v m now w2 h2.row)
  rw [show (decide (m.now ≤ now) && decide (now ≤ 1099511627775)) = true from by have := HNW.out; rw [Bool.and_eq_true, decide_eq_true_eq, decide_eq_true_eq]; exact this] at MC
  clear hb2 h2 b2 cb CC TC
  go_wp2_with fail
  refine MC.out.mono ?_
  rintro e3 w3 ⟨rfl, rfl⟩
  go_wp2
  refine bodyPost_ret (results_tmp3 rfl _ _ _) rfl ?_
  exact ⟨rfl, HB2.out⟩
end Go.Proofs.Ytohoieleakieeaa
