/-
  Out of RgPlain, LgPlain, LgFit.
-/
import Derived.Test.YtohoieleakieeaaGreatDoorGl1

/-! Sets of numbers by the numbers at which they turn, on lists. No program in sight. -/
namespace Go.Proofs.YtohoieleakieeaaGreatDoor.Rg
open Go Fr

/-- Does a number stand behind an odd number of turns? -/
def par : List Nat → Nat → Bool
  | [], _ => false
  | x :: r, n => (decide (x ≤ n)) ^^ par r n
def hasL (l : List (Nat × Nat)) (n : Nat) : Bool := l.any fun r => decide (r.1 ≤ n) && decide (n ≤ r.2)
def Up (t : List Nat) : Prop := t.Pairwise (· < ·)
def oddB (n : Nat) : Bool := decide (n % 2 = 1)

/-! ### Two sets, turn by turn -/
/-- The i-th turn; behind all of them, never. -/
def nxt (t : List Nat) (i : Nat) : Nat := t[i]?.getD 18446744073709551615
/-- So far two lists of turns are gone through, and the answer's turns are these. -/
structure St (rule : Bool → Bool → Bool) (a b : List Nat) (i j : Nat) (t : List Nat) : Prop where
  hi : i ≤ a.length
  hj : j ≤ b.length
  up : Up t
  mem : ∀ x ∈ t, x ≤ 4611686018427387904
  lowA : ∀ x ∈ t, ∀ y ∈ a.drop i, x < y
  lowB : ∀ x ∈ t, ∀ y ∈ b.drop j, x < y
  lowAB : ∀ x ∈ a.take i, ∀ y ∈ b.drop j, x < y
  lowBA : ∀ x ∈ b.take j, ∀ y ∈ a.drop i, x < y
  par : ∀ n, (∀ y ∈ a.drop i, n < y) → (∀ y ∈ b.drop j, n < y) → par t n = rule (par a n) (par b n)
  ins : oddB t.length = rule (oddB i) (oddB j)
  len : t.length ≤ i + j
/-- Where a list stands when the turn m is done. -/
def go (a : List Nat) (i m : Nat) : Nat := if nxt a i = m then i + 1 else i
/-! ### What is answered -/
def setOk (l : List (Nat × Nat)) : Prop := l.length ≤ 64 ∧ setL l
end Go.Proofs.YtohoieleakieeaaGreatDoor.Rg

/-! A ledger, plainly: what was sent, what is answered and lost, the times and the window. No program in sight. -/
namespace Go.Proofs.YtohoieleakieeaaGreatDoor.Lg

/-- A packet that is on its way. -/
structure Pk where
  num : Nat
  size : Nat
  time : Nat
  asks : Bool
/-- A ledger. -/
structure Led where
  way : List Pk
  any : Bool
  last : Nat
  asked : Nat
  now : Nat
  front : Nat
  fronted : Bool
  latest : Nat
  smooth : Nat
  vary : Nat
  least : Nat
  measured : Bool
  win : Nat
  thr : Int
  moment : Nat
  moments : Bool
def new : Led := ⟨[], false, 0, 0, 0, 0, false, 0, 333, 166, 0, false, 12000, -1, 0, false⟩

/-- May it be the time? -/
def timeOk (s : Led) (now : Nat) : Prop := now ≤ 1099511627775 ∧ s.now ≤ now
instance (s : Led) (now : Nat) : Decidable (timeOk s now) := by unfold timeOk; infer_instance
def sentE (s : Led) (n : Nat) (size : Int) (now : Nat) : Int :=
  if n ≤ 4611686018427387903 ∧ (s.any = true → s.last < n) ∧ 1 ≤ size ∧ size ≤ 1200 ∧ timeOk s now then (if s.way.length < 1048576 then 0 else 6) else 1
def sent (s : Led) (n : Nat) (size : Int) (now : Nat) (asks : Bool) : Led :=
  if sentE s n size now = 0 then { s with now := now, any := true, last := n, asked := if asks then now else s.asked, way := s.way ++ [⟨n, size.toNat, now, asks⟩] } else s
def patience (s : Led) : Nat := max (9 * max s.smooth s.latest / 8) 1
/-- Is a packet lost at a time? -/
def lostB (s : Led) (now : Nat) (p : Pk) : Bool := s.fronted && decide (p.num < s.front) && (decide (3 ≤ s.front - p.num) || decide (p.time + patience s ≤ now))
def maxT : List Pk → Nat
  | [] => 0
  | p :: l => max p.time (maxT l)
def asksB (l : List Pk) : Bool := l.any (·.asks)
/-- What is lost at a time. -/
def lostL (s : Led) (now : Nat) : List Nat := (s.way.filter (lostB s now)).map (·.num)
def cutB (s : Led) (now : Nat) : Bool := asksB (s.way.filter (lostB s now)) && (!s.moments || decide (s.moment < maxT ((s.way.filter (lostB s now)).filter (·.asks))))
def losing (s : Led) (now : Nat) : Led :=
  if cutB s now then { s with way := s.way.filter (fun p => !lostB s now p), moments := true, moment := now, thr := ((s.win / 2 : Nat) : Int), win := max (s.win / 2) 2400 }
  else { s with way := s.way.filter (fun p => !lostB s now p) }
/-- What was measured. -/
def measure (s : Led) (took delay : Nat) : Led :=
  if s.measured then
    let least := min s.least took
    let a := if least + delay ≤ took then took - delay else took
    { s with latest := took, least := least, vary := (3 * s.vary + (max s.smooth a - min s.smooth a)) / 4, smooth := (7 * s.smooth + a) / 8 }
  else { s with latest := took, measured := true, smooth := took, least := took, vary := took / 2 }
/-- The window grows by a packet that was answered. -/
def growW (s : Led) (w : Nat) (p : Pk) : Nat :=
  if p.asks = true ∧ ¬ (s.moments = true ∧ p.time ≤ s.moment) then (if s.thr < 0 ∨ (w : Int) < s.thr then w + p.size else w + 1200 * p.size / w) else w
def hitL (s : Led) (r : List (Nat × Nat)) : List Pk := s.way.filter fun p => Rg.hasL r p.num
def endOf (r : List (Nat × Nat)) : Nat := (r.getLast?.getD (0, 0)).2
open Classical in
noncomputable def ansE (s : Led) (r : List (Nat × Nat)) (delay now : Nat) : Int :=
  if Rg.setOk r ∧ r ≠ [] ∧ delay ≤ 1099511627775 ∧ timeOk s now then (if s.any = true ∧ endOf r ≤ s.last then 0 else 9) else 1
/-- What is answered newly: the front, the times, the window. -/
def struck (s : Led) (r : List (Nat × Nat)) (delay now : Nat) : Led :=
  let hit := hitL s r
  let top := hit.getLast?.getD ⟨0, 0, 0, false⟩
  let s1 : Led := { s with now := now, way := s.way.filter fun p => !Rg.hasL r p.num }
  let s2 : Led := if s1.fronted = true ∧ top.num ≤ s1.front then s1 else { s1 with fronted := true, front := top.num }
  let s3 : Led := if top.num = endOf r ∧ asksB hit = true then measure s2 (now - top.time) delay else s2
  { s3 with win := hit.foldl (growW s3) s3.win }
noncomputable def ansGot (s : Led) (r : List (Nat × Nat)) (delay now : Nat) : List Nat := if ansE s r delay now = 0 then (hitL s r).map (·.num) else []
noncomputable def ansLost (s : Led) (r : List (Nat × Nat)) (delay now : Nat) : List Nat := if ansE s r delay now = 0 ∧ hitL s r ≠ [] then lostL (struck s r delay now) now else []
noncomputable def answer (s : Led) (r : List (Nat × Nat)) (delay now : Nat) : Led :=
  if ansE s r delay now = 0 then (if hitL s r = [] then { s with now := now } else losing (struck s r delay now) now) else s
def loseE (s : Led) (now : Nat) : Int := if timeOk s now then 0 else 1
def loseL (s : Led) (now : Nat) : List Nat := if timeOk s now then lostL { s with now := now } now else []
def lose (s : Led) (now : Nat) : Led := if timeOk s now then losing { s with now := now } now else s
def wait (s : Led) : Nat := s.smooth + max (4 * s.vary) 1 + 25
def away (s : Led) : Nat := ((s.way.filter (·.asks)).map (·.size)).sum

/-! ### Told once -/
/-- What was sent, and what was told of it. -/
structure Book (s : Led) (S : List Pk) (told : List Nat) : Prop where
  way : s.way = S.filter fun p => !told.contains p.num
  up : (S.map (·.num)).Pairwise (· < ·)
  top : ∀ p ∈ S, s.any = true ∧ p.num ≤ s.last
  once : told.Nodup
  known : ∀ n ∈ told, n ∈ S.map (·.num)
theorem nodup_of_up : ∀ {l : List Nat}, l.Pairwise (· < ·) → l.Nodup
  | _, h => h.imp (fun h => Nat.ne_of_lt h)
theorem num_inj {S : List Pk} (h : (S.map (·.num)).Nodup) : ∀ {p q : Pk}, p ∈ S → q ∈ S → p.num = q.num → p = q := by
  induction S with
  | nil => intro p q hp; cases hp
  | cons x S ih =>
    intro p q hp hq e
    rw [List.map_cons, List.nodup_cons] at h
    rcases List.mem_cons.1 hp with hp1 | hp1 <;> rcases List.mem_cons.1 hq with hq1 | hq1
    · rw [hp1, hq1]
    · exact absurd (List.mem_map.2 ⟨q, hq1, by rw [← hp1]; exact e.symm⟩) h.1
    · exact absurd (List.mem_map.2 ⟨p, hp1, by rw [← hq1]; exact e⟩) h.1
    · exact ih h.2 hp1 hq1 e
/-- Some of those on their way are told, and are so no longer. -/
theorem Book.take {s s' : Led} {S : List Pk} {told : List Nat} (h : Book s S told) (X : Pk → Bool) (hw : s'.way = s.way.filter fun p => !X p) (ha : s'.any = s.any) (hl : s'.last = s.last) : Book s' S (told ++ (s.way.filter X).map (·.num)) := by
  have hnd := nodup_of_up h.up
  refine ⟨?_, h.up, fun p hp => by rw [ha, hl]; exact h.top p hp, ?_, ?_⟩
  · rw [hw, h.way, List.filter_filter]
    apply List.filter_congr
    intro p hp
    cases c : told.contains p.num
    · simp only [Bool.not_false, Bool.and_true]
      have c' : p.num ∉ told := by simpa using c
      cases hx : X p
      · have : p.num ∉ told ++ (List.filter X (List.filter (fun p => !told.contains p.num) S)).map (·.num) := by
          rw [List.mem_append]
          rintro (q | q)
          · exact c' q
          · obtain ⟨y, hy, e⟩ := List.mem_map.1 q
            rw [List.mem_filter, List.mem_filter] at hy
            obtain rfl := num_inj hnd hy.1.1 hp e
            rw [hx] at hy
            exact absurd hy.2 (by decide)
        simpa using this
      · have : p.num ∈ told ++ (List.filter X (List.filter (fun p => !told.contains p.num) S)).map (·.num) := by
          rw [List.mem_append]
          exact .inr (List.mem_map.2 ⟨p, List.mem_filter.2 ⟨List.mem_filter.2 ⟨hp, by rw [c]; rfl⟩, hx⟩, rfl⟩)
        simpa using this
    · have c' : p.num ∈ told := by simpa using c
      have : p.num ∈ told ++ (List.filter X (List.filter (fun p => !told.contains p.num) S)).map (·.num) := List.mem_append.2 (.inl c')
      simpa using this
  · rw [List.nodup_append]
    refine ⟨h.once, ?_, fun a ha b hb e => ?_⟩
    · have hs : ((s.way.filter X).map (·.num)).Sublist (S.map (·.num)) := by
        rw [h.way]
        exact ((List.filter_sublist).trans List.filter_sublist).map _
      exact hnd.sublist hs
    · obtain ⟨y, hy, rfl⟩ := List.mem_map.1 hb
      have := (List.mem_filter.1 hy).1
      rw [h.way, List.mem_filter] at this
      subst e
      simp [ha] at this
  · intro n hn
    rcases List.mem_append.1 hn with q | q
    · exact h.known n q
    · obtain ⟨y, hy, rfl⟩ := List.mem_map.1 q
      have := (List.mem_filter.1 hy).1
      rw [h.way, List.mem_filter] at this
      exact List.mem_map.2 ⟨y, this.1, rfl⟩
theorem Book.new : Book new [] [] := ⟨rfl, List.Pairwise.nil, fun p hp => (by cases hp), List.nodup_nil, fun n hn => (by cases hn)⟩
theorem Book.sent {s : Led} {S : List Pk} {told : List Nat} (h : Book s S told) (n : Nat) (size : Int) (now : Nat) (asks : Bool) (he : sentE s n size now = 0) : Book (sent s n size now asks) (S ++ [⟨n, size.toNat, now, asks⟩]) told := by
  have hgt : ∀ p ∈ S, p.num < n := by
    intro p hp
    obtain ⟨h1, h2⟩ := h.top p hp
    unfold sentE at he
    split at he
    · rename_i c
      have := c.2.1 h1
      omega
    · cases he
  have hnt : n ∉ told := fun hn => by
    obtain ⟨p, hp, e⟩ := List.mem_map.1 (h.known n hn)
    have := hgt p hp
    omega
  unfold Lg.sent
  rw [if_pos he]
  refine ⟨?_, ?_, ?_, h.once, fun m hm => ?_⟩
  · show s.way ++ [_] = _
    rw [List.filter_append, h.way]
    congr 1
    simp [hnt]
  · rw [List.map_append, List.pairwise_append]
    refine ⟨h.up, List.pairwise_singleton _ _, fun a ha b hb => ?_⟩
    obtain ⟨p, hp, rfl⟩ := List.mem_map.1 ha
    obtain rfl : b = n := by simpa using hb
    exact hgt p hp
  · intro p hp
    show true = true ∧ p.num ≤ n
    refine ⟨rfl, ?_⟩
    rcases List.mem_append.1 hp with q | q
    · exact Nat.le_of_lt (hgt p q)
    · obtain rfl : p = ⟨n, size.toNat, now, asks⟩ := by simpa using q
      exact Nat.le_refl _
  · rw [List.map_append, List.mem_append]
    exact .inl (h.known m hm)
theorem losing_way (s : Led) (now : Nat) : (losing s now).way = s.way.filter (fun p => !lostB s now p) ∧ (losing s now).any = s.any ∧ (losing s now).last = s.last := by
  unfold losing
  split <;> exact ⟨rfl, rfl, rfl⟩
theorem Book.losing {s : Led} {S : List Pk} {told : List Nat} (h : Book s S told) (now : Nat) : Book (losing s now) S (told ++ lostL s now) := by
  obtain ⟨h1, h2, h3⟩ := losing_way s now
  exact h.take (lostB s now) h1 h2 h3
theorem measure_way (s : Led) (t d : Nat) : (measure s t d).way = s.way ∧ (measure s t d).any = s.any ∧ (measure s t d).last = s.last ∧ (measure s t d).win = s.win := by
  unfold measure
  split <;> exact ⟨rfl, rfl, rfl, rfl⟩
theorem struck_way (s : Led) (r : List (Nat × Nat)) (delay now : Nat) : (struck s r delay now).way = s.way.filter (fun p => !Rg.hasL r p.num) ∧ (struck s r delay now).any = s.any ∧ (struck s r delay now).last = s.last := by
  unfold struck
  simp only
  split
  · rw [(measure_way _ _ _).1, (measure_way _ _ _).2.1, (measure_way _ _ _).2.2.1]
    split <;> exact ⟨rfl, rfl, rfl⟩
  · split <;> exact ⟨rfl, rfl, rfl⟩
theorem Book.answer {s : Led} {S : List Pk} {told : List Nat} (h : Book s S told) (r : List (Nat × Nat)) (delay now : Nat) : Book (answer s r delay now) S (told ++ (ansGot s r delay now ++ ansLost s r delay now)) := by
  unfold Lg.answer ansGot ansLost
  by_cases he : ansE s r delay now = 0
  · rw [if_pos he, if_pos he]
    by_cases hh : hitL s r = []
    · rw [if_pos hh, hh, if_neg (fun q => q.2 rfl)]
      simp only [List.map_nil, List.append_nil]
      exact ⟨h.way, h.up, h.top, h.once, h.known⟩
    · rw [if_neg hh, if_pos ⟨he, hh⟩, ← List.append_assoc]
      obtain ⟨h1, h2, h3⟩ := struck_way s r delay now
      exact (h.take (s' := struck s r delay now) (fun p => Rg.hasL r p.num) h1 h2 h3).losing now
  · rw [if_neg he, if_neg he, if_neg (fun q => he q.1)]
    simp only [List.append_nil]
    exact h
theorem Book.lose {s : Led} {S : List Pk} {told : List Nat} (h : Book s S told) (now : Nat) : Book (lose s now) S (told ++ loseL s now) := by
  unfold Lg.lose loseL
  by_cases he : timeOk s now
  · rw [if_pos he, if_pos he]
    exact Book.losing (s := { s with now := now }) ⟨h.way, h.up, h.top, h.once, h.known⟩ now
  · rw [if_neg he, if_neg he, List.append_nil]
    exact h
/-- What is away: what asks, and was neither got nor lost. -/
theorem Book.away {s : Led} {S : List Pk} {told : List Nat} (h : Book s S told) : Lg.away s = ((S.filter fun p => p.asks && !told.contains p.num).map (·.size)).sum := by
  unfold Lg.away
  rw [h.way, List.filter_filter]

/-! ### The window -/
theorem growW_le (s : Led) (w : Nat) (p : Pk) : w ≤ growW s w p := by
  unfold growW
  split
  · split <;> exact Nat.le_add_right _ _
  · exact Nat.le_refl _
theorem fold_le (s : Led) : ∀ (l : List Pk) (w : Nat), w ≤ l.foldl (growW s) w
  | [], _ => Nat.le_refl _
  | p :: l, w => Nat.le_trans (growW_le s w p) (fold_le s l _)
end Go.Proofs.YtohoieleakieeaaGreatDoor.Lg

/-! A ledger stays within bounds: what a machine's numbers can hold. No program in sight. -/
namespace Go.Proofs.YtohoieleakieeaaGreatDoor.Lg

structure Fit (c : Nat) (s : Led) : Prop where
  now : s.now ≤ 1099511627775
  time : ∀ p ∈ s.way, p.time ≤ s.now
  size : ∀ p ∈ s.way, 1 ≤ p.size ∧ p.size ≤ 1200
  num : ∀ p ∈ s.way, s.any = true ∧ p.num ≤ s.last
  up : (s.way.map (·.num)).Pairwise (· < ·)
  last : s.last ≤ 4611686018427387903
  front : s.front ≤ 4611686018427387903
  asked : s.asked ≤ 1099511627775
  mom : s.moment ≤ 1099511627775
  lat : s.latest ≤ 1099511627775
  smo : s.smooth ≤ 1099511627775
  var : s.vary ≤ 1099511627775
  lea : s.least ≤ 1099511627775
  winL : 2400 ≤ s.win
  winU : s.win + 1200 * s.way.length ≤ 12000 + 1200 * c
  thrL : -1 ≤ s.thr
  thrU : s.thr ≤ 12000 + 1200 * (c : Int)
  cnt : s.way.length ≤ c
theorem Fit.new : Fit 0 new := by
  refine ⟨by decide, ?_, ?_, ?_, List.Pairwise.nil, by decide, by decide, by decide, by decide, by decide, by decide, by decide, by decide, by decide, by decide, by decide, by decide, by decide⟩
  all_goals intro p hp; cases hp
theorem Fit.more {c : Nat} {s : Led} (h : Fit c s) {d : Nat} (hd : c ≤ d) : Fit d s :=
  ⟨h.now, h.time, h.size, h.num, h.up, h.last, h.front, h.asked, h.mom, h.lat, h.smo, h.var, h.lea, h.winL, by have := h.winU; omega, h.thrL, by have := h.thrU; omega, Nat.le_trans h.cnt hd⟩
theorem Fit.sent {c : Nat} {s : Led} (h : Fit c s) (n : Nat) (size : Int) (now : Nat) (asks : Bool) : Fit (c + 1) (sent s n size now asks) := by
  unfold Lg.sent
  split
  · rename_i he
    unfold sentE at he
    split at he
    · rename_i q
      obtain ⟨q1, q2, q3, q4, q5, q6⟩ := q
      have hgt : ∀ p ∈ s.way, p.num < n := fun p hp => by
        obtain ⟨a, b⟩ := h.num p hp
        have := q2 a
        omega
      have e4 : s.way.length + 1 ≤ c + 1 := Nat.succ_le_succ h.cnt
      refine ⟨q5, fun p hp => ?_, fun p hp => ?_, fun p hp => ?_, ?_, q1, h.front, ?_, h.mom, h.lat, h.smo, h.var, h.lea, h.winL, ?_, h.thrL, ?_, ?_⟩
      · rcases List.mem_append.1 hp with g | g
        · exact Nat.le_trans (h.time p g) q6
        · obtain rfl : p = ⟨n, size.toNat, now, asks⟩ := by simpa using g
          exact Nat.le_refl _
      · rcases List.mem_append.1 hp with g | g
        · exact h.size p g
        · obtain rfl : p = ⟨n, size.toNat, now, asks⟩ := by simpa using g
          show 1 ≤ size.toNat ∧ size.toNat ≤ 1200
          omega
      · refine ⟨rfl, ?_⟩
        rcases List.mem_append.1 hp with g | g
        · exact Nat.le_of_lt (hgt p g)
        · obtain rfl : p = ⟨n, size.toNat, now, asks⟩ := by simpa using g
          exact Nat.le_refl _
      · show ((s.way ++ [_]).map _).Pairwise _
        rw [List.map_append, List.pairwise_append]
        refine ⟨h.up, List.pairwise_singleton _ _, fun a ha b hb => ?_⟩
        obtain ⟨p, hp, rfl⟩ := List.mem_map.1 ha
        obtain rfl : b = n := by simpa using hb
        exact hgt p hp
      · show (if asks = true then now else s.asked) ≤ _
        split
        · exact q5
        · exact h.asked
      · show s.win + 1200 * (s.way ++ [_]).length ≤ _
        rw [List.length_append, List.length_singleton]
        have := h.winU
        omega
      · show s.thr ≤ _
        have := h.thrU
        omega
      · show (s.way ++ [_]).length ≤ _
        rw [List.length_append, List.length_singleton]
        exact e4
    · cases he
  · exact h.more (Nat.le_succ c)
theorem filter_le {α : Type} (f : α → Bool) (l : List α) : (l.filter f).length ≤ l.length := List.length_filter_le f l
/-- Some of those on their way are taken out. -/
theorem Fit.cut {c : Nat} {s : Led} (h : Fit c s) (f : Pk → Bool) : Fit c { s with way := s.way.filter f } :=
  ⟨h.now, fun p hp => h.time p (List.mem_filter.1 hp).1, fun p hp => h.size p (List.mem_filter.1 hp).1, fun p hp => h.num p (List.mem_filter.1 hp).1, h.up.sublist ((List.filter_sublist).map _), h.last, h.front, h.asked, h.mom, h.lat, h.smo, h.var, h.lea, h.winL,
    by have := h.winU; have := filter_le f s.way; show s.win + 1200 * (s.way.filter f).length ≤ _; omega, h.thrL, h.thrU, Nat.le_trans (filter_le f s.way) h.cnt⟩
theorem Fit.losing {c : Nat} {s : Led} (h : Fit c s) (now : Nat) (hn : now ≤ 1099511627775) : Fit c (losing s now) := by
  have k := h.cut (fun p => !lostB s now p)
  unfold Lg.losing
  split
  · have e := k.winU
    have w := h.winL
    have t := h.winU
    refine ⟨k.now, k.time, k.size, k.num, k.up, k.last, k.front, k.asked, hn, k.lat, k.smo, k.var, k.lea, Nat.le_max_right _ _, ?_, ?_, ?_, k.cnt⟩
    · show max (s.win / 2) 2400 + _ ≤ _
      have hm : max (s.win / 2) 2400 ≤ s.win := Nat.max_le.2 ⟨by omega, w⟩
      exact Nat.le_trans (Nat.add_le_add_right hm _) e
    · show (-1 : Int) ≤ ((s.win / 2 : Nat) : Int)
      omega
    · show ((s.win / 2 : Nat) : Int) ≤ _
      omega
  · exact k
theorem Fit.measure {c : Nat} {s : Led} (h : Fit c s) (took delay : Nat) (ht : took ≤ 1099511627775) : Fit c (measure s took delay) := by
  have e1 := h.smo
  have e2 := h.var
  have e3 := h.lea
  unfold Lg.measure
  split
  · simp only
    obtain ⟨a, ha⟩ : ∃ a, (if min s.least took + delay ≤ took then took - delay else took) = a := ⟨_, rfl⟩
    have hab : a ≤ 1099511627775 := by
      rw [← ha]
      split <;> omega
    rw [ha]
    refine ⟨h.now, h.time, h.size, h.num, h.up, h.last, h.front, h.asked, h.mom, ht, ?_, ?_, ?_, h.winL, h.winU, h.thrL, h.thrU, h.cnt⟩
    · show (7 * s.smooth + a) / 8 ≤ _
      omega
    · show (3 * s.vary + (max s.smooth a - min s.smooth a)) / 4 ≤ _
      have : max s.smooth a ≤ 1099511627775 := Nat.max_le.2 ⟨e1, hab⟩
      omega
    · show min s.least took ≤ _
      exact Nat.le_trans (Nat.min_le_right _ _) ht
  · refine ⟨h.now, h.time, h.size, h.num, h.up, h.last, h.front, h.asked, h.mom, ht, ht, ?_, ht, h.winL, h.winU, h.thrL, h.thrU, h.cnt⟩
    show took / 2 ≤ _
    omega
theorem growW_up (s : Led) (w : Nat) (p : Pk) (hw : 2400 ≤ w) (hp : p.size ≤ 1200) : growW s w p ≤ w + 1200 := by
  unfold growW
  split
  · split
    · omega
    · have : 1200 * p.size / w ≤ 1200 := by
        refine Nat.div_le_of_le_mul ?_
        rw [Nat.mul_comm w 1200]
        exact Nat.mul_le_mul_left _ (by omega)
      omega
  · omega
theorem fold_up (s : Led) : ∀ (l : List Pk) (w : Nat), 2400 ≤ w → (∀ p ∈ l, p.size ≤ 1200) → l.foldl (growW s) w ≤ w + 1200 * l.length
  | [], w, _, _ => by simp
  | p :: l, w, hw, h => by
    have h1 := growW_up s w p hw (h p (List.mem_cons_self ..))
    have h2 := fold_up s l (growW s w p) (Nat.le_trans hw (growW_le s w p)) (fun q hq => h q (List.mem_cons_of_mem _ hq))
    rw [List.foldl_cons, List.length_cons]
    omega
theorem split_length {α : Type} (f : α → Bool) : ∀ l : List α, (l.filter f).length + (l.filter fun x => !f x).length = l.length
  | [] => rfl
  | x :: l => by
    have := split_length f l
    cases c : f x
    · rw [List.filter_cons_of_neg (by rw [c]; decide), List.filter_cons_of_pos (by rw [c]; rfl), List.length_cons, List.length_cons]; omega
    · rw [List.filter_cons_of_pos c, List.filter_cons_of_neg (by rw [c]; decide), List.length_cons, List.length_cons]; omega
theorem getLast_mem {α : Type} (l : List α) (d : α) (h : l ≠ []) : l.getLast?.getD d ∈ l := by
  cases e : l.getLast? with
  | none => exact absurd (List.getLast?_eq_none_iff.1 e) h
  | some x => exact List.mem_of_getLast? e
theorem Fit.struck {c : Nat} {s : Led} (h : Fit c s) (r : List (Nat × Nat)) (delay now : Nat) (hn : now ≤ 1099511627775) (hn2 : s.now ≤ now) (hh : hitL s r ≠ []) : Fit c (struck s r delay now) := by
  have htop := getLast_mem (hitL s r) ⟨0, 0, 0, false⟩ hh
  obtain ⟨top, ht⟩ : ∃ top, (hitL s r).getLast?.getD ⟨0, 0, 0, false⟩ = top := ⟨_, rfl⟩
  rw [ht] at htop
  have htw : top ∈ s.way := (List.mem_filter.1 htop).1
  have hl := split_length (fun p : Pk => Rg.hasL r p.num) s.way
  have hwu := h.winU
  have k1 : Fit c { s with now := now, way := s.way.filter fun p => !Rg.hasL r p.num } := by
    have k := h.cut (fun p => !Rg.hasL r p.num)
    exact ⟨hn, fun p hp => Nat.le_trans (k.time p hp) hn2, k.size, k.num, k.up, k.last, k.front, k.asked, k.mom, k.lat, k.smo, k.var, k.lea, k.winL, k.winU, k.thrL, k.thrU, k.cnt⟩
  have hfit : ∀ s3 : Led, Fit c s3 → s3.win = s.win → s3.way = s.way.filter (fun p => !Rg.hasL r p.num) → Fit c { s3 with win := (hitL s r).foldl (growW s3) s3.win } := by
    intro s3 k e1 e2
    have f := fold_up s3 (hitL s r) s3.win k.winL (fun p hp => (h.size p (List.mem_filter.1 hp).1).2)
    refine ⟨k.now, k.time, k.size, k.num, k.up, k.last, k.front, k.asked, k.mom, k.lat, k.smo, k.var, k.lea, Nat.le_trans k.winL (fold_le _ _ _), ?_, k.thrL, k.thrU, k.cnt⟩
    show (hitL s r).foldl (growW s3) s3.win + 1200 * s3.way.length ≤ _
    rw [e2]
    unfold hitL at f ⊢
    rw [e1] at f ⊢
    omega
  unfold Lg.struck
  simp only [ht]
  have k2 : ∀ s1 : Led, Fit c s1 → Fit c (if s1.fronted = true ∧ top.num ≤ s1.front then s1 else { s1 with fronted := true, front := top.num }) := by
    intro s1 k
    split
    · exact k
    · exact ⟨k.now, k.time, k.size, k.num, k.up, k.last, Nat.le_trans (h.num top htw).2 h.last, k.asked, k.mom, k.lat, k.smo, k.var, k.lea, k.winL, k.winU, k.thrL, k.thrU, k.cnt⟩
  have kk := k2 _ k1
  refine hfit _ ?_ ?_ ?_
  · split
    · exact kk.measure _ _ (by omega)
    · exact kk
  · split
    · rw [(measure_way _ _ _).2.2.2]
      split <;> rfl
    · split <;> rfl
  · split
    · rw [(measure_way _ _ _).1]
      split <;> rfl
    · split <;> rfl
theorem Fit.answer {c : Nat} {s : Led} (h : Fit c s) (r : List (Nat × Nat)) (delay now : Nat) : Fit c (answer s r delay now) := by
  unfold Lg.answer
  split
  · rename_i he
    have ht : timeOk s now := by
      unfold ansE at he
      split at he
      · rename_i q; exact q.2.2.2
      · cases he
    split
    · exact ⟨ht.1, fun p hp => Nat.le_trans (h.time p hp) ht.2, h.size, h.num, h.up, h.last, h.front, h.asked, h.mom, h.lat, h.smo, h.var, h.lea, h.winL, h.winU, h.thrL, h.thrU, h.cnt⟩
    · rename_i hh
      exact (h.struck r delay now ht.1 ht.2 hh).losing now ht.1
  · exact h
theorem Fit.lose {c : Nat} {s : Led} (h : Fit c s) (now : Nat) : Fit c (lose s now) := by
  unfold Lg.lose
  split
  · rename_i ht
    exact Fit.losing (s := { s with now := now }) ⟨ht.1, fun p hp => Nat.le_trans (h.time p hp) ht.2, h.size, h.num, h.up, h.last, h.front, h.asked, h.mom, h.lat, h.smo, h.var, h.lea, h.winL, h.winU, h.thrL, h.thrU, h.cnt⟩ now ht.1
  · exact h
theorem Fit.patience {c : Nat} {s : Led} (h : Fit c s) : Lg.patience s ≤ 1236950581248 := by
  unfold Lg.patience
  have h1 := h.smo
  have h2 := h.lat
  have : max s.smooth s.latest ≤ 1099511627775 := Nat.max_le.2 ⟨h1, h2⟩
  refine Nat.max_le.2 ⟨?_, by omega⟩
  omega
end Go.Proofs.YtohoieleakieeaaGreatDoor.Lg
