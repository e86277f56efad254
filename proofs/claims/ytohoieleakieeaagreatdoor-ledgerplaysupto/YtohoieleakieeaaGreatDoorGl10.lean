/-
  Out of LgBridge, LgBridgeA.
-/
import Derived.Test.YtohoieleakieeaaGreatDoorGlLgAns
import Derived.Test.YtohoieleakieeaaGreatDoorGl5

/-! The program's ledger is the chapter's. No walk in sight. -/
namespace Go.Proofs.YtohoieleakieeaaGreatDoor
open Go Go.RowKit

def ml (s : Lg.Led) : ML :=
  ⟨s.way, Lg.away s, if s.any then s.last + 1 else 0, s.asked, s.now, if s.fronted then s.front else 0, s.latest, s.smooth, s.vary, s.least, s.measured, s.win, s.moments, if s.moments then s.thr.toNat else 0, if s.moments then s.moment else 0⟩
/-- A threshold comes with a moment. -/
structure Sane (s : Lg.Led) : Prop where
  no : s.moments = false → s.thr = -1
  yes : s.moments = true → 0 ≤ s.thr
theorem Sane.new : Sane Lg.new := ⟨fun _ => rfl, fun h => by cases h⟩
theorem ml_fits {c : Nat} {s : Lg.Led} (h : Lg.Fit c s) (hc : c ≤ 2000) : Fits (ml s) := by
  have h1 := h.winU
  have h2 := h.thrU
  have h3 := h.last
  have h4 := h.front
  have h5 := h.mom
  refine ⟨?_, h.asked, h.now, ?_, h.lat, h.smo, h.var, h.lea, h.winL, ?_, ?_, ?_, ?_, h.size, h.time, h.up, rfl, Nat.le_trans h.cnt hc⟩
  · show (if s.any then s.last + 1 else 0) ≤ _; split <;> omega
  · show (if s.fronted then s.front else 0) ≤ _; split <;> omega
  · show s.win + 1200 * s.way.length ≤ _; omega
  · show (if s.moments then s.thr.toNat else 0) ≤ _; split <;> omega
  · show (if s.moments then s.moment else 0) ≤ _; split <;> omega
  · intro p hp
    obtain ⟨a, b⟩ := h.num p hp
    show p.num < (if s.any then s.last + 1 else 0)
    rw [a, if_pos rfl]
    omega
theorem away_asum (s : Lg.Led) : Lg.away s = Lg.asum s.way := rfl
/-! ### Sent -/
theorem sent_ok {s : Lg.Led} {n : Nat} {size : Int} {now : Nat} (hl : s.way.length < 1048576) : sentOk (ml s) n size now ↔ Lg.sentE s n size now = 0 := by
  unfold sentOk Lg.sentE Lg.timeOk
  show n ≤ _ ∧ (if s.any then s.last + 1 else 0) ≤ n ∧ 1 ≤ size ∧ size ≤ 1200 ∧ s.now ≤ now ∧ now ≤ _ ↔ _
  rw [if_pos hl]
  cases s.any
  · simp only [Bool.false_eq_true, if_false, Nat.zero_le, true_and, false_implies]
    constructor
    · rintro ⟨a, b, c, d, e⟩; rw [if_pos ⟨a, b, c, e, d⟩]
    · intro h
      split at h
      · rename_i q; exact ⟨q.1, q.2.1, q.2.2.1, q.2.2.2.2, q.2.2.2.1⟩
      · cases h
  · simp only [if_true, true_implies]
    constructor
    · rintro ⟨a, b, c, d, e, f⟩; rw [if_pos ⟨a, by omega, c, d, f, e⟩]
    · intro h
      split at h
      · rename_i q; exact ⟨q.1, by have := q.2.1; omega, q.2.2.1, q.2.2.2.1, q.2.2.2.2.2, q.2.2.2.2.1⟩
      · cases h
theorem sentE_one {s : Lg.Led} {n : Nat} {size : Int} {now : Nat} (hl : s.way.length < 1048576) (h : ¬ Lg.sentE s n size now = 0) : Lg.sentE s n size now = 1 := by
  unfold Lg.sentE at h ⊢
  rw [if_pos hl] at h ⊢
  split
  · rename_i c; rw [if_pos c] at h; exact absurd rfl h
  · rfl
theorem ml_sent {s : Lg.Led} {n : Nat} {size : Int} {now : Nat} (asks : Bool) (h : Lg.sentE s n size now = 0) : sentM (ml s) n size now asks = ml (Lg.sent s n size now asks) := by
  unfold Lg.sent
  rw [if_pos h]
  have ha : Lg.away { s with now := now, any := true, last := n, asked := if asks then now else s.asked, way := s.way ++ [⟨n, size.toNat, now, asks⟩] } = if asks then Lg.away s + size.toNat else Lg.away s := by
    rw [away_asum]
    show Lg.asum (s.way ++ [_]) = _
    rw [Lg.asum_append, Lg.asum_cons, ← away_asum s]
    cases asks <;> rfl
  unfold sentM ml
  rw [ha]
  rfl
/-! ### Lose -/
theorem pat_eq (s : Lg.Led) : Lg.patience s = patN s.latest s.smooth := rfl
theorem lost_eq (s : Lg.Led) (p : Lg.Pk) : lostX (ml s) p = Lg.lostB s s.now p := by
  unfold lostX lateX Lg.lostB
  show (decide (p.num < (if s.fronted then s.front else 0)) && (decide (p.num + 3 ≤ (if s.fronted then s.front else 0)) || decide (p.time + patN s.latest s.smooth ≤ s.now))) = _
  rw [pat_eq]
  cases s.fronted
  · simp
  · simp only [if_true, Bool.true_and]
    by_cases c : p.num < s.front
    · rw [decide_eq_true c, Bool.true_and, Bool.true_and]
      congr 2
      apply propext
      omega
    · rw [decide_eq_false c]; rfl
theorem maxT_lt : ∀ (l : List Lg.Pk) (m : Nat), (m < Lg.maxT l) ↔ ∃ p ∈ l, m < p.time
  | [], m => by simp [Lg.maxT]
  | p :: l, m => by
    have h := maxT_lt l m
    unfold Lg.maxT
    constructor
    · intro q
      by_cases c : m < p.time
      · exact ⟨p, List.mem_cons_self .., c⟩
      · obtain ⟨x, hx, hm⟩ := h.1 (by omega)
        exact ⟨x, List.mem_cons_of_mem _ hx, hm⟩
    · rintro ⟨x, hx, hm⟩
      rcases List.mem_cons.1 hx with rfl | hx
      · omega
      · have := h.2 ⟨x, hx, hm⟩; omega
theorem any_counts (s : Lg.Led) (l : List Lg.Pk) : l.any (countsB (ml s)) = (Lg.asksB l && (!s.moments || decide (s.moment < Lg.maxT (l.filter (·.asks))))) := by
  have hc : ∀ p, countsB (ml s) p = (p.asks && (!s.moments || decide ((if s.moments then s.moment else 0) < p.time))) := fun p => rfl
  cases hm : s.moments
  · have : countsB (ml s) = fun p => p.asks := by funext p; rw [hc, hm]; simp
    rw [this]
    unfold Lg.asksB
    simp
  · have e : countsB (ml s) = fun p => p.asks && decide (s.moment < p.time) := by funext p; rw [hc, hm]; simp
    rw [e]
    simp only [Bool.not_true, Bool.false_or]
    apply Bool.eq_iff_iff.2
    rw [List.any_eq_true, Bool.and_eq_true, decide_eq_true_eq, maxT_lt]
    constructor
    · rintro ⟨p, hp, h⟩
      rw [Bool.and_eq_true, decide_eq_true_eq] at h
      exact ⟨List.any_eq_true.2 ⟨p, hp, h.1⟩, p, List.mem_filter.2 ⟨hp, h.1⟩, h.2⟩
    · rintro ⟨_, p, hp, h⟩
      obtain ⟨h1, h2⟩ := List.mem_filter.1 hp
      exact ⟨p, h1, by rw [Bool.and_eq_true, decide_eq_true_eq]; exact ⟨h2, h⟩⟩
theorem ml_lose (s : Lg.Led) : loseM (ml s) = ml (Lg.losing s s.now) ∧ (ml s).way.filter (lostX (ml s)) = s.way.filter (Lg.lostB s s.now) := by
  have hX : lostX (ml s) = Lg.lostB s s.now := by funext p; exact lost_eq s p
  have hw : (ml s).way.filter (lostX (ml s)) = s.way.filter (Lg.lostB s s.now) := by rw [hX]; rfl
  refine ⟨?_, hw⟩
  unfold loseM Lg.losing
  rw [hw, any_counts]
  have hM : lostM (ml s) = ml { s with way := s.way.filter (fun p => !Lg.lostB s s.now p) } := by
    unfold lostM
    rw [hX]
    rfl
  rw [hM]
  show (if Lg.cutB s s.now = true then _ else _) = _
  split
  · rfl
  · rfl
end Go.Proofs.YtohoieleakieeaaGreatDoor

/-! The program's ledger is the chapter's, when it is told of an answer. No walk in sight. -/
namespace Go.Proofs.YtohoieleakieeaaGreatDoor
open Go Go.RowKit

theorem last_end (r : List (Nat × Nat)) : lastOf r = Lg.endOf r := by
  unfold lastOf Lg.endOf gr
  rw [List.getLast?_eq_getElem?]
theorem gr_up {r : List (Nat × Nat)} (h : Rg.setOk r) : ∀ d k, k + d < r.length → (gr r k).2 ≤ (gr r (k + d)).2
  | 0, k, _ => Nat.le_refl _
  | d + 1, k, hk => by
    have h1 := gr_up h d k (by omega)
    have h2 := (set_at r h.2 (k + d) (by omega)).2.2 (by omega)
    have h3 := (set_at r h.2 (k + d + 1) (by omega)).1
    rw [show k + (d + 1) = k + d + 1 by omega]
    omega
theorem has_last {r : List (Nat × Nat)} (h : Rg.setOk r) {n : Nat} (hn : Rg.hasL r n = true) : n ≤ lastOf r := by
  unfold Rg.hasL at hn
  rw [List.any_eq_true] at hn
  obtain ⟨x, hx, hb⟩ := hn
  rw [Bool.and_eq_true, decide_eq_true_eq, decide_eq_true_eq] at hb
  obtain ⟨k, hk, rfl⟩ := List.mem_iff_getElem.1 hx
  have e : gr r k = r[k] := by unfold gr; rw [List.getElem?_eq_getElem hk]; rfl
  have := gr_up h (r.length - 1 - k) k (by omega)
  rw [show k + (r.length - 1 - k) = r.length - 1 by omega] at this
  unfold lastOf
  rw [e] at this
  omega
theorem hit_eq {r : List (Nat × Nat)} (h : Rg.setOk r) : hitX r = fun p => Rg.hasL r p.num := by
  funext p
  unfold hitX
  cases hh : Rg.hasL r p.num
  · rw [Bool.and_false]
  · rw [decide_eq_true (by have := has_last h hh; omega)]; rfl
theorem grow_eq {s : Lg.Led} (hs : Sane s) : growF (ml s) = Lg.growW s := by
  funext w p
  unfold growF Lg.growW growN countsB
  show (if (p.asks && (!s.moments || decide ((if s.moments then s.moment else 0) < p.time))) = true then (if s.moments = true ∧ (if s.moments then s.thr.toNat else 0) ≤ w then w + 1200 * p.size / w else w + p.size) else w) = _
  cases hm : s.moments
  · have ht := hs.no hm
    cases p.asks
    · simp
    · simp [ht]
  · have ht := hs.yes hm
    simp only [if_true, Bool.not_true, Bool.false_or, true_and]
    cases p.asks
    · simp
    · simp only [Bool.true_and, decide_eq_true_eq, true_and]
      by_cases c : s.moment < p.time
      · rw [if_pos c, if_pos (show ¬ p.time ≤ s.moment by omega)]
        by_cases c2 : s.thr.toNat ≤ w
        · rw [if_pos c2, if_neg (show ¬ (s.thr < 0 ∨ (w : Int) < s.thr) by omega)]
        · rw [if_neg c2, if_pos (show s.thr < 0 ∨ (w : Int) < s.thr by omega)]
      · rw [if_neg c, if_neg (show ¬ ¬ p.time ≤ s.moment by omega)]
theorem meas_eq (s : Lg.Led) (took delay : Nat) : measM (ml s) took delay = ml (Lg.measure s took delay) := by
  unfold measM Lg.measure
  show (if s.measured = true then _ else _) = _
  split
  · rename_i h
    unfold ml
    simp only [h]
    rfl
  · rfl
theorem Sane.of {s s' : Lg.Led} (h : Sane s) (h1 : s'.moments = s.moments) (h2 : s'.thr = s.thr) : Sane s' := ⟨fun q => by rw [h2]; exact h.no (h1 ▸ q), fun q => by rw [h2]; exact h.yes (h1 ▸ q)⟩
theorem Sane.lose {s : Lg.Led} (h : Sane s) (now : Nat) : Sane (Lg.losing s now) := by
  unfold Lg.losing
  split
  · exact ⟨(fun q => by cases q), fun _ => Int.natCast_nonneg _⟩
  · exact h.of rfl rfl
theorem Sane.sent {s : Lg.Led} (h : Sane s) (n : Nat) (size : Int) (now : Nat) (asks : Bool) : Sane (Lg.sent s n size now asks) := by
  unfold Lg.sent
  split
  · exact h.of rfl rfl
  · exact h
theorem struck_mom (s : Lg.Led) (r : List (Nat × Nat)) (delay now : Nat) : (Lg.struck s r delay now).moments = s.moments ∧ (Lg.struck s r delay now).thr = s.thr ∧ (Lg.struck s r delay now).now = now := by
  unfold Lg.struck Lg.measure
  simp only
  split
  · split <;> split <;> exact ⟨rfl, rfl, rfl⟩
  · split <;> exact ⟨rfl, rfl, rfl⟩
theorem ml_struck {s : Lg.Led} (hs : Sane s) {r : List (Nat × Nat)} (hr : Rg.setOk r) {q : Lg.Pk} (hq : (Lg.hitL s r).getLast? = some q) (delay now : Nat) :
    cameM (hitM (atM (ml s) now) r) (Lg.hitL s r) q (Lg.endOf r) delay = ml (Lg.struck s r delay now) := by
  obtain ⟨s1, hs1⟩ : ∃ s1 : Lg.Led, s1 = { s with now := now, way := s.way.filter fun p => !Rg.hasL r p.num } := ⟨_, rfl⟩
  obtain ⟨s2, hs2⟩ : ∃ s2 : Lg.Led, s2 = if s1.fronted = true ∧ q.num ≤ s1.front then s1 else { s1 with fronted := true, front := q.num } := ⟨_, rfl⟩
  obtain ⟨s3, hs3⟩ : ∃ s3 : Lg.Led, s3 = if q.num = Lg.endOf r ∧ Lg.asksB (Lg.hitL s r) = true then Lg.measure s2 (now - q.time) delay else s2 := ⟨_, rfl⟩
  have hst : Lg.struck s r delay now = { s3 with win := (Lg.hitL s r).foldl (Lg.growW s3) s3.win } := by
    unfold Lg.struck
    simp only [hq, Option.getD_some]
    rw [hs3, hs2, hs1]
  have e1 : hitM (atM (ml s) now) r = ml s1 := by
    unfold hitM
    rw [hit_eq hr, hs1]
    rfl
  have e2 : cameF (ml s1) q = ml s2 := by
    unfold cameF
    rw [hs2]
    split
    · rename_i c
      show ({ ml s1 with front := max (if s1.fronted then s1.front else 0) q.num } : ML) = ml s1
      rw [c.1, if_pos rfl, Nat.max_eq_left c.2]
      unfold ml
      rw [c.1]
      rfl
    · rename_i c
      show ({ ml s1 with front := max (if s1.fronted then s1.front else 0) q.num } : ML) = _
      have : max (if s1.fronted then s1.front else 0) q.num = q.num := by
        split
        · rename_i c2; have : ¬ q.num ≤ s1.front := fun c3 => c ⟨c2, c3⟩; omega
        · omega
      rw [this]
      rfl
  have n1 : (ml s1).now = now := by rw [hs1]; rfl
  have e3 : cameT (ml s1) (Lg.hitL s r) q (Lg.endOf r) delay = ml s3 := by
    unfold cameT
    rw [e2, n1, hs3]
    show (if q.num = Lg.endOf r ∧ Lg.asksB (Lg.hitL s r) = true then _ else _) = _
    split
    · exact meas_eq s2 _ _
    · rfl
  have m2 : s2.moments = s.moments ∧ s2.thr = s.thr ∧ s2.win = s.win := by
    rw [hs2]
    split <;> (rw [hs1]; exact ⟨rfl, rfl, rfl⟩)
  have m3 : s3.moments = s.moments ∧ s3.thr = s.thr ∧ s3.win = s.win := by
    rw [hs3]
    split
    · unfold Lg.measure
      split <;> exact m2
    · exact m2
  have hs3' : Sane s3 := hs.of m3.1 m3.2.1
  rw [e1, hst]
  unfold cameM
  rw [e3, grow_eq hs3']
  have : (ml s1).win = s3.win := by rw [m3.2.2, hs1]; rfl
  rw [this]
  rfl
open Classical in
theorem ans_ok {s : Lg.Led} {r : List (Nat × Nat)} {delay now : Nat} : AnsOk (ml s) r delay now ↔ (Rg.setOk r ∧ r ≠ [] ∧ delay ≤ 1099511627775 ∧ Lg.timeOk s now) :=
  ⟨fun h => ⟨h.set, h.ne, h.delay, h.now.2, h.now.1⟩, fun h => ⟨h.2.1, h.1, h.2.2.1, h.2.2.2.2, h.2.2.2.1⟩⟩
theorem ans_state {s : Lg.Led} {r : List (Nat × Nat)} : lastOf r < (ml s).next ↔ (s.any = true ∧ Lg.endOf r ≤ s.last) := by
  rw [last_end]
  show _ < (if s.any then s.last + 1 else 0) ↔ _
  cases s.any
  · simp
  · simp only [if_true, true_and]; omega
theorem ansE_zero {s : Lg.Led} {r : List (Nat × Nat)} {delay now : Nat} (h1 : AnsOk (ml s) r delay now) (h2 : lastOf r < (ml s).next) : Lg.ansE s r delay now = 0 := by
  unfold Lg.ansE
  rw [if_pos (ans_ok.1 h1), if_pos (ans_state.1 h2)]
theorem ansE_nine {s : Lg.Led} {r : List (Nat × Nat)} {delay now : Nat} (h1 : AnsOk (ml s) r delay now) (h2 : ¬ lastOf r < (ml s).next) : Lg.ansE s r delay now = 9 := by
  unfold Lg.ansE
  rw [if_pos (ans_ok.1 h1), if_neg (fun q => h2 (ans_state.2 q))]
theorem ansE_one {s : Lg.Led} {r : List (Nat × Nat)} {delay now : Nat} (h1 : ¬ AnsOk (ml s) r delay now) : Lg.ansE s r delay now = 1 := by
  unfold Lg.ansE
  rw [if_neg (fun q => h1 (ans_ok.2 q))]
theorem ml_answer {s : Lg.Led} (hs : Sane s) {r : List (Nat × Nat)} {delay now : Nat} (h1 : AnsOk (ml s) r delay now) (h2 : lastOf r < (ml s).next) :
    ansM (ml s) r delay now = ml (Lg.answer s r delay now) ∧ ((ml s).way.filter (hitX r)).map (·.num) = Lg.ansGot s r delay now ∧ (ansL (ml s) r delay now).map (·.num) = Lg.ansLost s r delay now ∧ Sane (Lg.answer s r delay now) := by
  have hE := ansE_zero h1 h2
  have hT : (ml s).way.filter (hitX r) = Lg.hitL s r := by rw [hit_eq h1.set]; rfl
  unfold ansM ansL Lg.answer Lg.ansGot Lg.ansLost
  rw [hT, if_pos hE, if_pos hE]
  cases hq : (Lg.hitL s r).getLast? with
  | none =>
    have h0 : Lg.hitL s r = [] := List.getLast?_eq_none_iff.1 hq
    have hw : s.way.filter (fun p => !Rg.hasL r p.num) = s.way := List.filter_eq_self.2 (fun p hp => by
      have := List.filter_eq_nil_iff.1 h0 p hp
      simpa using this)
    rw [if_pos h0, if_neg (fun q => q.2 h0), h0]
    refine ⟨?_, rfl, rfl, hs.of rfl rfl⟩
    show hitM (atM (ml s) now) r = _
    unfold hitM
    rw [hit_eq h1.set]
    show ({ atM (ml s) now with way := s.way.filter (fun p => !Rg.hasL r p.num), ask := Lg.asum (s.way.filter (fun p => !Rg.hasL r p.num)) } : ML) = _
    rw [hw]
    rfl
  | some q =>
    have h0 : Lg.hitL s r ≠ [] := fun e => by rw [e] at hq; cases hq
    have hst := struck_mom s r delay now
    simp only
    rw [if_neg h0, if_pos ⟨hE, h0⟩, last_end, ml_struck hs h1.set hq]
    have hl := ml_lose (Lg.struck s r delay now)
    rw [hst.2.2] at hl
    refine ⟨hl.1, trivial, ?_, (hs.of hst.1 hst.2.1).lose now⟩
    rw [hl.2]
    rfl
end Go.Proofs.YtohoieleakieeaaGreatDoor
