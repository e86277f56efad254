/-
  Out of LrReadP, LrRead.
-/
import Derived.Test.YtohoieleakieeaaGreatDoorGl5
import Derived.Test.YtohoieleakieeaaGreatDoorGl17

/-! When a ledger is to be asked: the first packet on its way tells it. No program in sight. -/
namespace Go.Proofs.YtohoieleakieeaaGreatDoor.Lg

/-- Packets lie in the order in which they were sent. -/
def Rise (s : Led) : Prop := s.way.Pairwise fun p q => p.time ≤ q.time
theorem Rise.new : Rise new := List.Pairwise.nil
theorem Rise.cut {s s' : Led} (h : Rise s) (f : Pk → Bool) (e : s'.way = s.way.filter f) : Rise s' := by
  unfold Rise at *
  rw [e]
  exact h.sublist List.filter_sublist
theorem Rise.sent {c : Nat} {s : Led} (h : Rise s) (hf : Fit c s) (n : Nat) (size : Int) (now : Nat) (asks : Bool) : Rise (sent s n size now asks) := by
  unfold Lg.sent
  split
  · rename_i he
    unfold sentE at he
    split at he
    · rename_i q
      show (s.way ++ [_]).Pairwise _
      rw [List.pairwise_append]
      refine ⟨h, List.pairwise_singleton _ _, fun a ha b hb => ?_⟩
      obtain rfl : b = ⟨n, size.toNat, now, asks⟩ := by simpa using hb
      exact Nat.le_trans (hf.time a ha) q.2.2.2.2.2
    · cases he
  · exact h
theorem Rise.losing {s : Led} (h : Rise s) (now : Nat) : Rise (losing s now) := h.cut _ (losing_way s now).1
theorem Rise.answer {s : Led} (h : Rise s) (r : List (Nat × Nat)) (delay now : Nat) : Rise (answer s r delay now) := by
  unfold Lg.answer
  split
  · split
    · exact h
    · exact Rise.losing (h.cut _ (struck_way s r delay now).1) now
  · exact h
theorem Rise.lose {s : Led} (h : Rise s) (now : Nat) : Rise (lose s now) := by
  unfold Lg.lose
  split
  · exact Rise.losing (s := { s with now := now }) h now
  · exact h
/-- Is the first packet on its way behind another that was answered? -/
def firstB (s : Led) : Bool := match s.way with
  | [] => false
  | p :: _ => s.fronted && decide (p.num < s.front)
def firstT (s : Led) : Nat := match s.way with
  | [] => 0
  | p :: _ => p.time
def whenN (s : Led) : Nat := if asksB s.way then (if firstB s then firstT s + patience s else s.asked + wait s) else 0
/-- Behind k packets: was one found, and its time. -/
structure WhenI (s : Led) (k : Nat) (fb : Bool) (t : Nat) : Prop where
  is : fb = (decide (0 < k) && firstB s)
  at_ : fb = true → t = firstT s
theorem WhenI.nil (s : Led) : WhenI s 0 false 0 := ⟨rfl, fun h => by cases h⟩
theorem head_le {c : Nat} {s : Led} (hr : Rise s) (hf : Fit c s) {p0 : Pk} {l : List Pk} (e : s.way = p0 :: l) {k : Nat} {p : Pk} (hk : s.way[k]? = some p) : p0.time ≤ p.time ∧ p0.num ≤ p.num := by
  have h1 : ∀ q ∈ l, p0.time ≤ q.time := by
    unfold Rise at hr
    rw [e, List.pairwise_cons] at hr
    exact hr.1
  have h2 : ∀ q ∈ l, p0.num < q.num := by
    have := hf.up
    rw [e, List.map_cons, List.pairwise_cons] at this
    exact fun q hq => this.1 q.num (List.mem_map.2 ⟨q, hq, rfl⟩)
  rw [e] at hk
  rcases List.mem_cons.1 (List.mem_of_getElem? hk) with q | q
  · subst q; exact ⟨Nat.le_refl _, Nat.le_refl _⟩
  · exact ⟨h1 p q, Nat.le_of_lt (h2 p q)⟩
theorem way_cons {s : Led} {k : Nat} {p : Pk} (hk : s.way[k]? = some p) : ∃ p0 l, s.way = p0 :: l := by
  cases e : s.way with
  | nil => rw [e] at hk; simp at hk
  | cons a l => exact ⟨a, l, rfl⟩
theorem WhenI.no {s : Led} {k : Nat} {fb : Bool} {t : Nat} {p : Pk} (h : WhenI s k fb t) (hk : s.way[k]? = some p) (hn : ¬ (s.fronted = true ∧ p.num < s.front)) : WhenI s (k + 1) fb t := by
  refine ⟨?_, h.at_⟩
  rcases Nat.eq_zero_or_pos k with e | e
  · subst e
    have h1 : firstB s = false := by
      obtain ⟨p0, l, hw⟩ := way_cons hk
      unfold firstB
      rw [hw] at hk ⊢
      obtain rfl : p0 = p := by simpa using hk
      simp only
      cases hfr : s.fronted
      · rfl
      · rw [show decide (p0.num < s.front) = false from decide_eq_false (fun q => hn ⟨hfr, q⟩)]; rfl
    rw [h.is, h1]
    simp
  · rw [h.is, decide_eq_true e, decide_eq_true (Nat.succ_pos k)]
theorem WhenI.yes {c : Nat} {s : Led} {k : Nat} {t : Nat} {p : Pk} (hr : Rise s) (hf : Fit c s) (h : WhenI s k false t) (hk : s.way[k]? = some p) (h1 : s.fronted = true) (h2 : p.num < s.front) : WhenI s (k + 1) true p.time := by
  obtain ⟨p0, l, hw⟩ := way_cons hk
  have hle := (head_le hr hf hw hk).2
  have hfb : firstB s = true := by unfold firstB; rw [hw]; simp only; rw [h1, decide_eq_true (by omega)]; rfl
  rcases Nat.eq_zero_or_pos k with e | e
  · subst e
    refine ⟨by rw [hfb]; rfl, fun _ => ?_⟩
    unfold firstT
    rw [hw] at hk ⊢
    obtain rfl : p0 = p := by simpa using hk
    rfl
  · have := h.is
    rw [hfb, decide_eq_true e] at this
    cases this
theorem WhenI.old {c : Nat} {s : Led} {k : Nat} {t : Nat} {p : Pk} (hr : Rise s) (hf : Fit c s) (h : WhenI s k true t) (hk : s.way[k]? = some p) : t ≤ p.time ∧ WhenI s (k + 1) true t := by
  obtain ⟨p0, l, hw⟩ := way_cons hk
  have hle := (head_le hr hf hw hk).1
  have ht := h.at_ rfl
  have hi := h.is.symm
  rw [Bool.and_eq_true] at hi
  refine ⟨?_, ?_, h.at_⟩
  · rw [ht]; unfold firstT; rw [hw]; exact hle
  · rw [hi.2, decide_eq_true (Nat.succ_pos k)]; rfl
theorem WhenI.end_ {s : Led} {fb : Bool} {t : Nat} (h : WhenI s s.way.length fb t) (ha : asksB s.way = true) : fb = firstB s ∧ (fb = true → t = firstT s) := by
  refine ⟨?_, h.at_⟩
  rw [h.is]
  cases e : s.way with
  | nil => rw [e] at ha; cases ha
  | cons a l => simp
theorem asks_take {s : Led} {k : Nat} {p : Pk} (hk : s.way[k]? = some p) : asksB (s.way.take (k + 1)) = (asksB (s.way.take k) || p.asks) := by
  unfold asksB
  rw [List.take_add_one, hk]
  simp
def awayTo (s : Led) (k : Nat) : Nat := (((s.way.take k).filter (·.asks)).map (·.size)).sum
theorem awayTo_yes {s : Led} {k : Nat} {p : Pk} (hk : s.way[k]? = some p) (ha : p.asks = true) : awayTo s (k + 1) = awayTo s k + p.size := by
  unfold awayTo
  rw [List.take_add_one, hk, List.filter_append]
  simp [ha]
theorem awayTo_no {s : Led} {k : Nat} {p : Pk} (hk : s.way[k]? = some p) (ha : p.asks = false) : awayTo s (k + 1) = awayTo s k := by
  unfold awayTo
  rw [List.take_add_one, hk, List.filter_append]
  simp [ha]
theorem sizes_le {l : List Pk} (h : ∀ p ∈ l, p.size ≤ 1200) : (l.map (·.size)).sum ≤ 1200 * l.length := by
  induction l with
  | nil => simp
  | cons x l ih =>
    have h1 := h x (List.mem_cons_self ..)
    have h2 := ih (fun p hp => h p (List.mem_cons_of_mem _ hp))
    rw [List.map_cons, List.sum_cons, List.length_cons]
    omega
theorem awayTo_le {c : Nat} {s : Led} (hf : Fit c s) (k : Nat) : awayTo s k ≤ 1200 * c := by
  have h1 := sizes_le (l := (s.way.take k).filter (·.asks)) (fun p hp => (hf.size p (List.mem_of_mem_take (List.mem_filter.1 hp).1)).2)
  have h2 : ((s.way.take k).filter (·.asks)).length ≤ c := Nat.le_trans (List.length_filter_le _ _) (Nat.le_trans (by rw [List.length_take]; omega) hf.cnt)
  unfold awayTo
  omega
end Go.Proofs.YtohoieleakieeaaGreatDoor.Lg

/-! Written by mklrread.py: the document's Lose, Away, When. -/
namespace Go.Proofs.YtohoieleakieeaaGreatDoor
open Go Go.RowKit

set_option maxRecDepth 20000 in
set_option maxHeartbeats 1000000 in
theorem refLose_any (g : Nat) (v : Value) (s : Lg.Led) (now c : Nat) (w : World) (h : RdOk w g v s) (hf : Lg.Fit c s) (hc : c ≤ 2000) :
    Calls Tryz.prog 17 #[.pointer (some ⟨g, 0, none⟩), .int .u64 (now : Int)] w fun e w' => ∃ u v', e = .returned (.tuple #[u, .int .i64 (Lg.loseE s now)]) ∧ w'.ownsRow w.heap.size 23 1 u (Lg.loseL s now).length (vnum (Lg.loseL s now)) ∧ RdOk w' g v' (Lg.lose s now) ∧ KeepP (fun k => k = g) w w' ∧ Stay v v' w := by
  have TO := veil (refTo_any g v s now w h)
  by_cases ht : Lg.timeOk s now
  · have HT := veil ht
    have hE : Lg.loseE s now = 0 := if_pos ht
    have hL : Lg.loseL s now = Lg.lostL { s with now := now } now := if_pos ht
    have hS : Lg.lose s now = Lg.losing { s with now := now } now := if_pos ht
    rw [hE, hL, hS]
    have HF2 := veil (show Lg.Fit c { s with now := now } from ⟨ht.1, fun p hp => Nat.le_trans (hf.time p hp) ht.2, hf.size, hf.num, hf.up, hf.last, hf.front, hf.asked, hf.mom, hf.lat, hf.smo, hf.var, hf.lea, hf.winL, hf.winU, hf.thrL, hf.thrU, hf.cnt⟩)
    have HC := veil hc
    clear ht hE hL hS h hf hc
    go_enter Tryz.func17, Tryz.ntmps17
    go_wp2_with fail
    refine TO.out.mono ?_
    rintro e1 w1 (⟨_, rfl, hr1, hk1⟩ | ⟨hno, _⟩)
    · go_wp2_with fail
      refine (refLosing_any g v _ now c w1 hr1 HF2.out HC.out HT.out.1).mono ?_
      rintro e2 w2 ⟨u, v', rfl, o2, hr2, hk2, hv2⟩
      obtain ⟨oa, oc, rfl⟩ := own_shape15 o2
      have HALL := veil (show _ ∧ _ ∧ _ ∧ _ from ⟨own_low2 o2 hk1.size, hr2, hk1.trans hk2, show Stay v v' w from fun k hk => .inr (Nat.le_trans hk1.size (hv2 k hk))⟩)
      clear o2 hr2 hk2 hv2
      go_wp2
      go_ret2
      exact ⟨_, _, rfl, HALL.out⟩
    · exact absurd HT.out hno
  · have HT := veil ht
    have hE : Lg.loseE s now = 1 := if_neg ht
    have hL : Lg.loseL s now = [] := if_neg ht
    have hS : Lg.lose s now = s := if_neg ht
    rw [hE, hL, hS]
    have HH := veil h
    clear ht hE hL hS h hf hc
    go_enter Tryz.func17, Tryz.ntmps17
    go_wp2_with fail
    refine TO.out.mono ?_
    rintro e1 w1 (⟨hno, _⟩ | ⟨_, rfl, rfl⟩)
    · exact absurd hno HT.out
    · go_wp2
      go_ret2
      exact ⟨_, v, rfl, World.ownsRow_nil _ _ _ _, HH.out, KeepP.refl _ _, fun k hk => .inl hk⟩

set_option maxRecDepth 20000 in
set_option maxHeartbeats 2000000 in
theorem refAway_any (g : Nat) (v : Value) (s : Lg.Led) (c : Nat) (w : World) (h : RdOk w g v s) (hf : Lg.Fit c s) (hc : c ≤ 2000) :
    Calls Tryz.prog 47 #[.pointer (some ⟨g, 0, none⟩)] w fun e w' => e = .returned (.int .i64 (Lg.away s : Int)) ∧ w' = w := by
  obtain ⟨N, hN⟩ : ∃ N, s.way.length = N := ⟨_, rfl⟩
  have hN2 : N ≤ 2000 := by rw [← hN]; exact Nat.le_trans hf.cnt hc
  obtain ⟨va, vc, hva, _, _⟩ := h.way.shape
  rw [hN] at hva
  subst hva
  have c0 := h.cells.c0
  have hway := h.way
  rw [hN] at hway
  have HWAY := veil hway
  have HF := veil hf
  have HN := veil hN
  have HC := veil hc
  clear h hf hN hc hway
  go_enter Tryz.func47, Tryz.ntmps47
  go_wp2_with fail
  go_loopw [3, 4] (fun nv iv wr => ∃ k : Nat, k ≤ N ∧ iv = .int .i64 k ∧ nv = .int .i64 (Lg.awayTo s k : Int) ∧ wr = w)
    (fun _ iv _ => N - (intOf iv).toNat)
  case atStart => exact ⟨0, Nat.zero_le _, rfl, rfl, rfl⟩
  case round =>
    obtain ⟨k, hk, rfl, rfl, hwr⟩ := hrel
    subst hwr
    by_cases hlt : k < N
    · obtain ⟨p, hget⟩ : ∃ p, s.way[k]? = some p := ⟨_, List.getElem?_eq_getElem (by rw [HN.out]; exact hlt)⟩
      obtain ⟨gb, oo, rfl, _, x0, x1, x2, x3⟩ := way_at HWAY.out hget
      have hle := Lg.awayTo_le HF.out k
      have hle2 := Lg.awayTo_le HF.out (k + 1)
      have hcc := HC.out
      have dd : decide ((k : Int) < (N : Int)) = true := by simp; omega
      have dn : decide (k < N) = true := by simp; omega
      have HLt := veil hlt
      cases hpa : p.asks
      · have HS := veil (Lg.awayTo_no hget hpa)
        rw [hpa] at x3
        clear hget hpa hlt
        generalize Lg.awayTo s k = aw at *
        go_wp2
        go_roundw
        case rel => exact ⟨k + 1, by have := HLt.out; omega, by go_num, by rw [HS.out], trivial⟩
        case measure => have := HLt.out; simp [intOf]; omega
      · obtain ⟨a2, ha2⟩ : ∃ a2, Lg.awayTo s (k + 1) = a2 := ⟨_, rfl⟩
        have hs := Lg.awayTo_yes hget hpa
        rw [hpa] at x3
        have HS := veil ha2
        obtain ⟨aw, haw⟩ : ∃ aw, Lg.awayTo s k = aw := ⟨_, rfl⟩
        rw [haw] at hs hle ⊢
        rw [ha2] at hs hle2
        have e1 : IntKind.i64.wrap ((aw : Int) + (p.size : Int)) = (a2 : Int) := by rw [IntKind.wrap_i64]; omega
        clear hget hpa ha2 haw hs hlt
        go_wp2
        go_roundw
        case rel => exact ⟨k + 1, by have := HLt.out; omega, by go_num, by rw [HS.out], trivial⟩
        case measure => have := HLt.out; simp [intOf]; omega
    · obtain rfl : k = N := by omega
      have HA := veil (show Lg.awayTo s k = Lg.away s by unfold Lg.awayTo Lg.away; rw [← HN.out, List.take_length])
      have dd : decide ((k : Int) < (k : Int)) = false := by simp
      have dn : decide (k < k) = false := by simp
      generalize Lg.awayTo s k = aw at *
      go_wp2
      go_ret
      exact ⟨by rw [← HA.out]; rfl, rfl⟩

set_option maxRecDepth 20000 in
set_option maxHeartbeats 4000000 in
theorem refWhen_any (g : Nat) (v : Value) (s : Lg.Led) (c : Nat) (w : World) (h : RdOk w g v s) (hf : Lg.Fit c s) (hc : c ≤ 2000) (hr : Lg.Rise s) :
    Calls Tryz.prog 43 #[.pointer (some ⟨g, 0, none⟩)] w fun e w' => e = .returned (.tuple #[.int .u64 (Lg.whenN s : Int), .bool (Lg.asksB s.way)]) ∧ Below w.heap.size w w' := by
  obtain ⟨N, hN⟩ : ∃ N, s.way.length = N := ⟨_, rfl⟩
  have hN2 : N ≤ 2000 := by rw [← hN]; exact Nat.le_trans hf.cnt hc
  obtain ⟨va, vc, hva, _, _⟩ := h.way.shape
  rw [hN] at hva
  subst hva
  have HH := veil h
  have HF := veil hf
  have HR := veil hr
  have HN := veil hN
  clear h hf hN hc hr
  go_enter Tryz.func43, Tryz.ntmps43
  go_wp2_with fail
  go_loopw [4, 5, 6, 7] (fun av fv tv iv wr => ∃ (k : Nat) (fb : Bool) (t : Nat), k ≤ N ∧ iv = .int .i64 k ∧ av = .bool (Lg.asksB (s.way.take k)) ∧ fv = .bool fb ∧ tv = .int .u64 (t : Int) ∧ Lg.WhenI s k fb t ∧ Below w.heap.size w wr)
    (fun _ _ _ iv _ => N - (intOf iv).toNat)
  case atStart => exact ⟨0, false, 0, Nat.zero_le _, rfl, rfl, rfl, rfl, Lg.WhenI.nil s, Below.refl _ _⟩
  case round =>
    obtain ⟨k, fb, t, hk, rfl, rfl, rfl, rfl, hI, hbel⟩ := hrel
    have hrd := HH.out.below hbel
    have c0 := hrd.cells.c0
    by_cases hlt : k < N
    · obtain ⟨p, hget⟩ : ∃ p, s.way[k]? = some p := ⟨_, List.getElem?_eq_getElem (by rw [HN.out]; exact hlt)⟩
      have hway := hrd.way
      rw [HN.out] at hway
      obtain ⟨gb, oo, rfl, _, x0, x1, x2, x3⟩ := way_at hway hget
      have c5 := hrd.cells.c5
      have c6 := hrd.cells.c6
      have HAS := veil (Lg.asks_take hget)
      have dd : decide ((k : Int) < (N : Int)) = true := by simp; omega
      have dn : decide (k < N) = true := by simp; omega
      have HLt := veil hlt
      have bI : (k : Int) < (N : Int) := by omega
      have HB := veil hbel
      clear hbel hrd hway
      generalize Lg.asksB (s.way.take k) = aq at *
      cases hfr : s.fronted
      · have HI := veil (hI.no hget (fun q => by rw [hfr] at q; cases q.1))
        rw [hfr] at c6
        cases aq
        · have HQ := veil (show Lg.asksB (s.way.take (k + 1)) = p.asks by rw [HAS.out]; rfl)
          clear HAS
          clear hI hget hfr
          go_wp2_with fail
          go_quiet (fail)
          go_wp2
          go_roundw
          case rel => exact ⟨k + 1, _, _, by have := HLt.out; omega, by go_num, by rw [HQ.out], rfl, rfl, HI.out, below_drewN HB.out _⟩
          case measure => have := HLt.out; simp [intOf]; omega
        · have HQ := veil (show Lg.asksB (s.way.take (k + 1)) = true by rw [HAS.out]; rfl)
          clear HAS
          clear hI hget hfr
          go_wp2_with fail
          go_quiet (fail)
          go_wp2
          go_roundw
          case rel => exact ⟨k + 1, _, _, by have := HLt.out; omega, by go_num, by rw [HQ.out], rfl, rfl, HI.out, below_drewN HB.out _⟩
          case measure => have := HLt.out; simp [intOf]; omega
      · rw [hfr] at c6
        by_cases h1 : p.num < s.front
        · have d1 : decide ((p.num : Int) < (s.front : Int)) = true := by simp; omega
          have d2 : decide (p.num < s.front) = true := by simp; omega
          cases fb
          · have HI := veil (hI.yes HR.out HF.out hget hfr h1)
            cases aq
            · have HQ := veil (show Lg.asksB (s.way.take (k + 1)) = p.asks by rw [HAS.out]; rfl)
              clear HAS
              clear hI hget hfr h1
              go_wp2_with fail
              go_quiet (fail)
              go_wp2
              go_roundw
              case rel => exact ⟨k + 1, _, _, by have := HLt.out; omega, by go_num, by rw [HQ.out], rfl, rfl, HI.out, below_drewN HB.out _⟩
              case measure => have := HLt.out; simp [intOf]; omega
            · have HQ := veil (show Lg.asksB (s.way.take (k + 1)) = true by rw [HAS.out]; rfl)
              clear HAS
              clear hI hget hfr h1
              go_wp2_with fail
              go_quiet (fail)
              go_wp2
              go_roundw
              case rel => exact ⟨k + 1, _, _, by have := HLt.out; omega, by go_num, by rw [HQ.out], rfl, rfl, HI.out, below_drewN HB.out _⟩
              case measure => have := HLt.out; simp [intOf]; omega
          · obtain ⟨hle, hI2⟩ := hI.old HR.out HF.out hget
            have HI := veil hI2
            have d3 : decide ((p.time : Int) < (t : Int)) = false := by simp; omega
            have d4 : decide (p.time < t) = false := by simp; omega
            clear hI2 hle
            cases aq
            · have HQ := veil (show Lg.asksB (s.way.take (k + 1)) = p.asks by rw [HAS.out]; rfl)
              clear HAS
              clear hI hget hfr h1
              go_wp2_with fail
              go_quiet (fail)
              go_wp2
              go_roundw
              case rel => exact ⟨k + 1, _, _, by have := HLt.out; omega, by go_num, by rw [HQ.out], rfl, rfl, HI.out, below_drewN HB.out _⟩
              case measure => have := HLt.out; simp [intOf]; omega
            · have HQ := veil (show Lg.asksB (s.way.take (k + 1)) = true by rw [HAS.out]; rfl)
              clear HAS
              clear hI hget hfr h1
              go_wp2_with fail
              go_quiet (fail)
              go_wp2
              go_roundw
              case rel => exact ⟨k + 1, _, _, by have := HLt.out; omega, by go_num, by rw [HQ.out], rfl, rfl, HI.out, below_drewN HB.out _⟩
              case measure => have := HLt.out; simp [intOf]; omega
        · have HI := veil (hI.no hget (fun q => h1 q.2))
          have d1 : decide ((p.num : Int) < (s.front : Int)) = false := by simp; omega
          have d2 : decide (p.num < s.front) = false := by simp; omega
          cases aq
          · have HQ := veil (show Lg.asksB (s.way.take (k + 1)) = p.asks by rw [HAS.out]; rfl)
            clear HAS
            clear hI hget hfr h1
            go_wp2_with fail
            go_quiet (fail)
            go_wp2
            go_roundw
            case rel => exact ⟨k + 1, _, _, by have := HLt.out; omega, by go_num, by rw [HQ.out], rfl, rfl, HI.out, below_drewN HB.out _⟩
            case measure => have := HLt.out; simp [intOf]; omega
          · have HQ := veil (show Lg.asksB (s.way.take (k + 1)) = true by rw [HAS.out]; rfl)
            clear HAS
            clear hI hget hfr h1
            go_wp2_with fail
            go_quiet (fail)
            go_wp2
            go_roundw
            case rel => exact ⟨k + 1, _, _, by have := HLt.out; omega, by go_num, by rw [HQ.out], rfl, rfl, HI.out, below_drewN HB.out _⟩
            case measure => have := HLt.out; simp [intOf]; omega
    · obtain rfl : k = N := by omega
      have htl : s.way.take k = s.way := by rw [← HN.out]; exact List.take_length
      rw [htl]
      have dd : decide ((k : Int) < (k : Int)) = false := by simp
      have dn : decide (k < k) = false := by simp
      rw [← HN.out] at hI
      have HB := veil hbel
      have HRD := veil hrd
      have c3 := hrd.cells.c3
      cases has : Lg.asksB s.way
      · have HW := veil (show Lg.whenN s = 0 by unfold Lg.whenN; rw [has]; rfl)
        have HAS := veil has
        clear has hI htl hlt hbel hrd
        go_wp2
        go_ret2
        exact ⟨by rw [HW.out, HAS.out]; rfl, HB.out⟩
      · obtain ⟨hfb, htt⟩ := hI.end_ has
        cases fb
        · obtain ⟨z, hz⟩ : ∃ z, s.asked + Lg.wait s = z := ⟨_, rfl⟩
          have HW := veil (show Lg.whenN s = z by unfold Lg.whenN; rw [has, ← hfb, ← hz]; rfl)
          have HAS := veil has
          have w1 := HF.out.smo
          have w2 := HF.out.var
          have w3 := HF.out.asked
          have w4 : Lg.wait s ≤ 6000000000000 := by unfold Lg.wait; omega
          have e1 : IntKind.u64.wrap ((s.asked : Int) + (Lg.wait s : Int)) = (z : Int) := by rw [IntKind.wrap_u64]; omega
          have ROW := veil (show ∀ n, Row (wr.drewN n) g 74 (rdC (.slice va k vc) s) from fun n => hrd.row)
          clear has hI htl hlt hbel hrd hfb htt hz w1 w2 w3 w4
          go_wp2_with fail
          go_quiet ((go_at_call 45; exact Calls.quiet_of (refWait_q g _ s _ (ROW.out _) HF.out.smo HF.out.var)))
          go_wp2
          go_ret2
          exact ⟨by rw [HW.out, HAS.out]; rfl, below_drewN HB.out _⟩
        · obtain ⟨z, hz⟩ : ∃ z, t + Lg.patience s = z := ⟨_, rfl⟩
          have HW := veil (show Lg.whenN s = z by unfold Lg.whenN; rw [has, ← hfb, ← hz, htt rfl]; rfl)
          have HAS := veil has
          have w3 := HF.out.patience
          have w4 : t ≤ 1099511627775 := by
            rw [htt rfl]
            unfold Lg.firstT
            split
            · omega
            · rename_i p l e
              exact Nat.le_trans (HF.out.time p (by rw [e]; exact List.mem_cons_self ..)) HF.out.now
          have e1 : IntKind.u64.wrap ((t : Int) + (Lg.patience s : Int)) = (z : Int) := by rw [IntKind.wrap_u64]; omega
          have PC := veil (refPat_q g _ s wr HRD.out.row HF.out.lat HF.out.smo)
          clear has hI htl hlt hbel hrd hfb htt hz w3 w4
          go_wp2_with fail
          refine PC.out.mono ?_
          rintro e1 w1 ⟨rfl, m, rfl⟩
          go_wp2
          go_ret2
          exact ⟨by rw [HW.out, HAS.out]; rfl, below_drewN HB.out _⟩
end Go.Proofs.YtohoieleakieeaaGreatDoor
