/-
  How the program reads frames, on lists: padding at once; it comes to the same. No program in sight.
-/
import Derived.Test.YtjhgelhdhdcmfaaDoorGf4
namespace Go.Proofs.YtjhgelhdhdcmfaaDoor.Fr
open Go

def padF (many : Nat) : Frame := { f0 with kind := 1, limit := many }
/-- The padding that follows. -/
def padR (many : Nat) : List By → Except Nat (Frame × List By)
  | [] => .ok (padF many, [])
  | c :: b => if c = 0 then (if many = 65536 then .error 3 else padR (many + 1) b) else .ok (padF many, c :: b)
theorem padR_told : ∀ (b : List By) (many : Nat) (f : Frame) (b' : List By), padR many b = .ok (f, b') → f.kind = 1 ∧ b'.length ≤ b.length ∧ ¬ (b'.head? = some 0)
  | [], many, f, b', h => by
    rw [padR] at h
    injection h with h
    injection h with h1 h2
    subst h1 h2
    exact ⟨rfl, Nat.le_refl _, by simp⟩
  | c :: b, many, f, b', h => by
    rw [padR] at h
    split at h
    · split at h
      · cases h
      · obtain ⟨h1, h2, h3⟩ := padR_told b _ _ _ h
        exact ⟨h1, by rw [List.length_cons]; omega, h3⟩
    · rename_i hc
      injection h with h
      injection h with h1 h2
      subst h1 h2
      exact ⟨rfl, Nat.le_refl _, by simpa using hc⟩
theorem pads_loop : ∀ (b : List By) (many : Nat) (acc : List Frame) (fuel : Nat), b.length ≤ fuel → getLoop fuel b (padF many :: acc) = match padR many b with
    | .error e => .error e
    | .ok (f, b') => getLoop fuel b' (f :: acc)
  | [], many, acc, fuel, _ => by
    rw [padR]
  | c :: b, many, acc, 0, h => by simp at h
  | c :: b, many, acc, fuel + 1, h => by
    rw [padR]
    by_cases hc : c = 0
    · rw [if_pos hc, getLoop, if_pos ⟨hc, rfl⟩]
      by_cases hm : many = 65536
      · rw [if_pos hm, if_pos (by show many = 65536; exact hm)]
      · rw [if_neg hm, if_neg (by show ¬ many = 65536; exact hm)]
        have hl : b.length ≤ fuel := by simpa using h
        have ih := pads_loop b (many + 1) acc fuel hl
        show getLoop fuel b (padF (many + 1) :: acc) = _
        rw [ih]
        cases hp : padR (many + 1) b with
        | error e => rfl
        | ok x =>
          obtain ⟨f, b'⟩ := x
          have := padR_told b _ _ _ hp
          exact getLoop_fuel _ _ _ _ (by omega) (by omega)
    · rw [if_neg hc]
/-- Is a number a type's? -/
def isType (n : Nat) : Bool := match n with
  | 0 | 1 | 2 | 4 | 5 | 6 | 8 | 9 | 10 | 11 | 12 | 13 | 14 | 15 | 16 | 17 | 18 | 19 | 20 | 21 | 28 | 29 | 30 => true
  | _ => false
theorem isType_lt {n : Nat} (h : isType n = true) : n < 31 := by
  by_cases hn : n < 31
  · exact hn
  · exfalso
    unfold isType at h
    split at h <;> first | omega | cases h
theorem body_not {n : Nat} (h : isType n = false) (b : List By) : bodyR n b = .error 5 := by
  unfold bodyR
  split <;> first | (exact absurd h (by decide)) | rfl
def bodyP (n : Nat) : R Frame := fun b => if n = 0 then padR 1 b else bodyR n b
def frameP : R Frame := fun b => match getN b with
  | none => .error 4
  | some (n, k) => if isType n = true ∧ k ≤ 1 then bodyP n (b.drop k) else .error 5
theorem frameP_other {b : List By} {n k : Nat} (h : getN b = some (n, k)) (hn : n ≠ 0) : frameP b = frameR b := by
  unfold frameP frameR
  rw [h]
  simp only
  have h1 := (getN_some h).1
  by_cases ht : isType n = true
  · have hs : szN n = 1 := by unfold szN; rw [if_pos (by have := isType_lt ht; omega)]
    by_cases hk : k ≤ 1
    · rw [if_pos ⟨ht, hk⟩, if_pos (by omega)]
      unfold bodyP
      rw [if_neg hn]
    · rw [if_neg (fun q => hk q.2), if_neg (by omega)]
  · rw [if_neg (fun q => ht q.1)]
    split
    · exact (body_not (by simpa using ht) _).symm
    · rfl
def progLoop : Nat → List By → List Frame → Except Nat (List Frame)
  | _, [], acc => .ok acc
  | 0, _ :: _, _ => .error 0
  | fuel + 1, c :: b, acc =>
    if acc.length = 1024 then .error 3
    else match frameP (c :: b) with
      | .error e => .error e
      | .ok (f, b') => progLoop fuel b' (f :: acc)
def Knd (m : R Frame) : Prop := ∀ b f b', m b = .ok (f, b') → f.kind ≠ 1
theorem knd_ok {f : Frame} (h : f.kind ≠ 1) : Knd (okR f) := by
  intro b g b' hg
  rw [(okR_inv hg).1]
  exact h
theorem knd_no (e : Nat) : Knd (noR e) := by
  intro b g b' hg
  exact (noR_inv hg).elim
theorem knd_then {α : Type} {m : R α} {f : α → R Frame} (h : ∀ a, Knd (f a)) : Knd (thenR m f) := by
  intro b g b' hg
  obtain ⟨a, b1, _, h2⟩ := thenR_inv hg
  exact h a _ _ _ h2
theorem knd_ite {c : Prop} [Decidable c] {m n : R Frame} (hm : Knd m) (hn : Knd n) : Knd (if c then m else n) := by
  split
  · exact hm
  · exact hn
theorem knd_stream (k : Nat) : Knd (streamR k) := knd_then fun _ => knd_then fun _ => knd_then fun _ => knd_ok (by simp)
theorem knd_ack : Knd ackR := knd_then fun _ => knd_then fun _ => knd_then fun _ => knd_ite (knd_no _) (knd_then fun _ => knd_ok (by simp))
theorem body_kind {n : Nat} (hn : n ≠ 0) : Knd (bodyR n) := by
  unfold bodyR
  split
  · exact absurd rfl hn
  · exact knd_ok (by decide)
  · exact knd_ack
  · exact knd_then fun _ => knd_then fun _ => knd_then fun _ => knd_ok (by simp)
  · exact knd_then fun _ => knd_then fun _ => knd_ok (by simp)
  · exact knd_then fun _ => knd_then fun _ => knd_ok (by simp)
  · exact knd_stream _
  · exact knd_stream _
  · exact knd_stream _
  · exact knd_stream _
  · exact knd_stream _
  · exact knd_stream _
  · exact knd_stream _
  · exact knd_stream _
  · exact knd_then fun _ => knd_ok (by simp)
  · exact knd_then fun _ => knd_then fun _ => knd_ok (by simp)
  · exact knd_then fun _ => knd_ite (knd_no _) (knd_ok (by simp))
  · exact knd_then fun _ => knd_ite (knd_no _) (knd_ok (by simp))
  · exact knd_then fun _ => knd_ok (by simp)
  · exact knd_then fun _ => knd_then fun _ => knd_ok (by simp)
  · exact knd_then fun _ => knd_then fun _ => knd_ite (knd_then fun _ => knd_ok (by simp)) (knd_no _)
  · exact knd_then fun _ => knd_then fun _ => knd_ok (by simp)
  · exact knd_ok (by decide)
  · exact knd_no _
theorem frameP_less {b : List By} {f : Frame} {b' : List By} (h : frameP b = .ok (f, b')) : b'.length < b.length := by
  cases hq : getN b with
  | none => unfold frameP at h; rw [hq] at h; cases h
  | some p =>
    obtain ⟨n, k⟩ := p
    obtain ⟨h1, h2, _, _⟩ := getN_some hq
    by_cases hn : n = 0
    · subst hn
      unfold frameP at h
      rw [hq] at h
      simp only at h
      split at h
      · have h3 : padR 1 (b.drop k) = .ok (f, b') := by unfold bodyP at h; rwa [if_pos rfl] at h
        have := (padR_told _ _ _ _ h3).2.1
        rw [List.length_drop] at this
        omega
      · cases h
    · rw [frameP_other hq hn] at h
      exact frameR_less h
theorem prog_loop : ∀ (fuel : Nat) (b : List By) (acc : List Frame), b.length ≤ fuel → ¬ (b.head? = some 0 ∧ padded acc = true) → progLoop fuel b acc = getLoop fuel b acc
  | _, [], _, _, _ => by rw [progLoop, getLoop]
  | 0, _ :: _, _, h, _ => by simp at h
  | fuel + 1, c :: b, acc, h, hno => by
    have hno' : ¬ (c = 0 ∧ padded acc = true) := fun q => hno ⟨by simp [q.1], q.2⟩
    rw [progLoop, getLoop, if_neg hno']
    by_cases hl : acc.length = 1024
    · rw [if_pos hl, if_pos hl]
    · rw [if_neg hl, if_neg hl]
      have hb : b.length ≤ fuel := by simpa using h
      cases hq : getN (c :: b) with
      | none =>
        have e1 : frameP (c :: b) = .error 4 := by unfold frameP; rw [hq]
        have e2 : frameR (c :: b) = .error 4 := by unfold frameR; rw [hq]
        rw [e1, e2]
      | some p =>
        obtain ⟨n, k⟩ := p
        by_cases hn : n = 0
        · subst hn
          have h1 := (getN_some hq).1
          by_cases hk : k ≤ 1
          · have hk1 : k = 1 := by omega
            subst hk1
            have e1 : frameP (c :: b) = padR 1 b := by unfold frameP; rw [hq]; simp only; rw [if_pos ⟨rfl, by omega⟩]; rfl
            have e2 : frameR (c :: b) = .ok (padF 1, b) := by unfold frameR; rw [hq]; rfl
            rw [e1, e2]
            simp only
            rw [pads_loop b 1 acc fuel hb]
            cases hp : padR 1 b with
            | error e => rfl
            | ok x =>
              obtain ⟨f, b'⟩ := x
              obtain ⟨p1, p2, p3⟩ := padR_told _ _ _ _ hp
              exact prog_loop fuel b' (f :: acc) (by omega) (fun q => p3 q.1)
          · have e1 : frameP (c :: b) = .error 5 := by unfold frameP; rw [hq]; simp only; rw [if_neg (fun q => hk q.2)]
            have e2 : frameR (c :: b) = .error 5 := by unfold frameR; rw [hq]; simp only; rw [if_neg (by unfold szN; simp; omega)]
            rw [e1, e2]
        · rw [frameP_other hq hn]
          cases hf : frameR (c :: b) with
          | error e => rfl
          | ok x =>
            obtain ⟨f, b'⟩ := x
            have hless := frameR_less hf
            have hk : f.kind ≠ 1 := by
              unfold frameR at hf
              rw [hq] at hf
              simp only at hf
              split at hf
              · exact body_kind hn _ _ _ hf
              · cases hf
            simp only
            refine prog_loop fuel b' (f :: acc) ?_ (fun q => hk (by have := q.2; simpa [padded] using this))
            rw [List.length_cons] at hless
            omega
theorem prog_all (b : List By) (hb : ¬ 1048576 < b.length) : getAll b = match progLoop b.length b [] with
    | .error e => .error e
    | .ok l => .ok l.reverse := by
  unfold getAll
  rw [if_neg hb, prog_loop _ _ _ (Nat.le_refl _) (fun q => by cases q.2)]
  cases getLoop b.length b [] <;> rfl
end Go.Proofs.YtjhgelhdhdcmfaaDoor.Fr
