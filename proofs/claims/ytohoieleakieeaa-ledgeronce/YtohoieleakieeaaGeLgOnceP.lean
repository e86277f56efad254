/-
  What holds while acts are played: told once.
-/
import Derived.Test.YtohoieleakieeaaGeLgLives
import Derived.Test.YtohoieleakieeaaGeLgActM
namespace Go.Proofs.Ytohoieleakieeaa
open Go Go.RowKit

set_option maxRecDepth 20000 in
set_option maxHeartbeats 1000000 in
theorem among_any (base : Nat) (v : Value) (l : List Nat) (n : Nat) (w : World) (h : w.ownsRow base 27 1 v l.length (vnum l)) (hl : l.length ≤ 100000) :
    Calls Try.prog 10 #[v, .int .u64 (n : Int)] w fun e w' => e = .returned (.bool (l.contains n)) ∧ w' = w := by
  obtain ⟨a, cap, rfl⟩ := own_shape15 h
  obtain ⟨m, hm⟩ : ∃ m, l.length = m := ⟨_, rfl⟩
  rw [hm] at h ⊢
  have H := veil h
  have HM := veil hm
  have hm5 : m ≤ 100000 := by rw [← hm]; exact hl
  obtain ⟨b, hb⟩ : ∃ b, l.contains n = b := ⟨_, rfl⟩
  rw [hb]
  have HBB := veil hb
  clear h hm hl hb
  go_enter Try.func10, Try.ntmps10
  go_wp2_with fail
  go_loopw [5] (fun iv wr => ∃ k : Nat, k ≤ m ∧ iv = .int .i64 k ∧ (l.take k).contains n = false ∧ wr = w)
    (fun iv _ => m - (intOf iv).toNat)
  case atStart => exact ⟨0, Nat.zero_le _, rfl, by simp, rfl⟩
  case round =>
    obtain ⟨k, hk, rfl, hno, hwr⟩ := hrel
    subst hwr
    by_cases hlt : k < m
    · have hkl : k < l.length := by rw [HM.out]; exact hlt
      obtain ⟨x, hget⟩ : ∃ x, l[k]? = some x := ⟨_, List.getElem?_eq_getElem hkl⟩
      obtain ⟨g, rfl⟩ : ∃ g, a = some ⟨g, 0, none⟩ := by
        rcases H.out.2 with ⟨_, q⟩ | ⟨g, c, cur, q, _⟩
        · omega
        · injection q with q; exact ⟨g, q⟩
      have cx := H.out.cells (g := g) rfl k (.int .u64 (x : Int)) (by unfold vnum; rw [List.getElem?_map, hget]; rfl)
      rw [Addr.add_mid, Nat.zero_add] at cx
      have HLt := veil hlt
      by_cases hx : x = n
      · have HY := veil (show b = true by
          rw [← HBB.out]
          exact List.contains_iff_mem.2 (List.mem_of_getElem? (hx ▸ hget)))
        subst hx
        clear hno hget hkl
        go_wp2
        go_ret
        exact ⟨by rw [HY.out]; rfl, rfl⟩
      · have HNO := veil (show (l.take (k + 1)).contains n = false by
          have h1 : ¬ n ∈ l.take k := fun q => by rw [List.contains_iff_mem.2 q] at hno; cases hno
          have h2 : ¬ n ∈ l.take (k + 1) := by
            rw [List.take_add_one, hget, List.mem_append]
            rintro (q | q)
            · exact h1 q
            · have q' : n = x := by simpa using q
              exact hx q'.symm
          exact Bool.eq_false_iff.2 (fun q => h2 (List.contains_iff_mem.1 q)))
        have d1 : ¬ (x : Int) = (n : Int) := by omega
        have d2 : decide ((x : Int) = (n : Int)) = false := by simp; omega
        clear hno hget hkl
        go_wp2
        go_roundw
        case rel => exact ⟨k + 1, by have := HLt.out; omega, by go_num, HNO.out, trivial⟩
        case measure => have := HLt.out; simp [intOf]; omega
    · have e : k = m := by omega
      subst e
      have hto : l.take k = l := by rw [← HM.out]; exact List.take_length
      rw [hto, HBB.out] at hno
      subst hno
      clear hto hlt
      go_wp2
      go_ret
      exact ⟨rfl, rfl⟩
theorem nodup_le : ∀ (l m : List Nat), l.Nodup → (∀ x ∈ l, x ∈ m) → l.length ≤ m.length
  | [], _, _, _ => Nat.zero_le _
  | x :: l, m, h, hs => by
    have hx := hs x (List.mem_cons_self ..)
    have h1 := nodup_le l (m.erase x) (List.nodup_cons.1 h).2 (fun y hy => (List.mem_erase_of_ne (show y ≠ x from fun e => (List.nodup_cons.1 h).1 (by rw [← e]; exact hy))).2 (hs y (List.mem_cons_of_mem _ hy)))
    have h2 := List.length_erase_of_mem hx
    have h3 := List.length_pos_of_mem hx
    rw [List.length_cons]
    omega
def pkA (a : AM) : Lg.Pk := ⟨a.num, a.size.toNat, a.now, a.asks⟩
def va (l : List AM) : List Value := l.flatMap fun a => [.int .u8 (a.kind : Int), .int .u64 (a.num : Int), .int .i64 a.size, .bool a.asks, .slice a.ranges.a a.ranges.len a.ranges.cap, .int .u64 (a.delay : Int), .int .u64 (a.now : Int)]
theorem va_append (a b : List AM) : va (a ++ b) = va a ++ va b := by unfold va; rw [List.flatMap_append]
theorem va_one (l : List AM) : ∀ u ∈ va l, u.oneCell' = true := by
  intro u hu
  obtain ⟨r, _, h⟩ := List.mem_flatMap.1 hu
  simp only [List.mem_cons, List.not_mem_nil, or_false] at h
  rcases h with rfl | rfl | rfl | rfl | rfl | rfl | rfl <;> rfl
theorem va_at : ∀ (l : List AM) (j : Nat) (p : AM), l[j]? = some p → ∀ q, q < 7 → (va l)[j * 7 + q]? = p.cells[q]?
  | [], _, _, h, _, _ => by simp at h
  | r :: l, 0, p, h, q, hq => by
    simp at h
    subst h
    match q, hq with
    | 0, _ => rfl
    | 1, _ => rfl
    | 2, _ => rfl
    | 3, _ => rfl
    | 4, _ => rfl
    | 5, _ => rfl
    | 6, _ => rfl
  | r :: l, j + 1, p, h, q, hq => by
    have h2 := va_at l j p (by simpa using h) q hq
    show (([_, _, _, _, _, _, _] : List Value) ++ va l)[(j + 1) * 7 + q]? = _
    rw [List.getElem?_append_right (by simp only [List.length_cons, List.length_nil]; omega)]
    simp only [List.length_cons, List.length_nil]
    rw [show (j + 1) * 7 + q - (0 + 1 + 1 + 1 + 1 + 1 + 1 + 1) = j * 7 + q by omega]
    exact h2
theorem Try.infoAc : (Try.prog.info? 30).map (fun i => (i.zero, i.size, i.bytes)) = some (some (.agg am0.cells), 7, 72) := by kernel_rfl
theorem ac_info : ∃ i0, Try.prog.info? 30 = some i0 ∧ i0.zero = some (.agg am0.cells) ∧ i0.size = 7 ∧ i0.bytes = 72 := by
  have h := Try.infoAc
  cases hq : Try.prog.info? 30 with
  | none => rw [hq] at h; cases h
  | some i =>
    rw [hq] at h
    simp only [Option.map_some, Option.some.injEq, Prod.mk.injEq] at h
    exact ⟨i, rfl, h.1, h.2.1, h.2.2⟩
theorem ac_append (w : World) (ty : TypeId) (base : Nat) (v : Value) (l : List AM) (x : AM) (b : Nat) (h : w.ownsRow base 30 7 v l.length (va l)) (hr : Row w b 30 x.cells) (hl : l.length ≤ 100000) (hb : base ≤ w.heap.size) :
    ∃ v' w', (Builtin.append_ #[22, 22] ty #[v, .slice (some ⟨b, 0, none⟩) 1 1]).run Try.prog w = .ok v' w' ∧ w'.ownsRow base 30 7 v' (l ++ [x]).length (va (l ++ [x])) ∧ w.grownBy w' v.ownBlock := by
  obtain ⟨i0, h1, h2, h3, h4⟩ := ac_info
  obtain ⟨v', w', a1, a2, a3, _, a4⟩ := run_append_own_at (P := Try.prog) w base 22 ty 30 i0 _ 7 72 Try.underlying22 h1 h2 h3 h4 rfl (by decide) v l.length (va l) h ⟨b, 0, none⟩ 1 1 (va [x]) rfl (fun j u hu => by
    rw [Addr.add_mid, Nat.zero_add]
    have : (va [x])[j]? = x.cells[j]? := by
      match j with
      | 0 => rfl
      | 1 => rfl
      | 2 => rfl
      | 3 => rfl
      | 4 => rfl
      | 5 => rfl
      | 6 => rfl
      | j + 7 => simp [va, AM.cells]
    rw [this] at hu
    rw [← hu]
    exact cell_of_row w b j _ _ (0, 0) hr) (va_one _) (by unfold maxLen; omega) (by omega) hb
  refine ⟨v', w', a1, ?_, a3⟩
  rw [List.length_append, List.length_singleton, va_append]
  exact a2
/-- Rows of unlike elements lie in unlike blocks. -/
theorem own_type {w : World} {B n z : Nat} {e : TypeId} {v : Value} {xs : List Value} (h : w.ownsRow B e z v n xs) {k : Nat} (hk : v.ownBlock = some k) : ∃ cur, w.heap[k]? = some (.cells cur e (0, 0)) := by
  rcases h.2 with ⟨rfl, _⟩ | ⟨g, c, cur, rfl, _, h5, _⟩
  · cases hk
  · injection hk with hk
    subst hk
    exact ⟨cur, h5⟩
theorem own_keepL {w W W' : World} {g n z : Nat} {e : TypeId} {v u : Value} {m : ML} {xs : List Value} (h : W.ownsRow w.heap.size e z u n xs) (hl : LdOk W g v m) (k : KeepL g v W W') (he1 : e ≠ 51) (he2 : e ≠ 55) : W'.ownsRow w.heap.size e z u n xs := by
  obtain ⟨h1, h2⟩ := h
  refine ⟨h1, ?_⟩
  rcases h2 with h2 | ⟨g', c, cur, h3, h4, h5, h6⟩
  · exact .inl h2
  · refine .inr ⟨g', c, cur, h3, h4, (k.block g' (Array.getElem?_eq_some_iff.1 h5).1 ?_).trans h5, h6⟩
    rintro (q | q)
    · subst q
      have := h5.symm.trans (show W.heap[g']? = some _ from hl.row)
      injection this with this
      injection this with _ this
      exact he1 this
    · rcases hl.way.2 with ⟨rfl, _⟩ | ⟨b, o, cap, cur2, rfl, hg, _⟩
      · cases q
      · injection q with q
        have q' : b = g' := q
        subst q'
        have := h5.symm.trans hg
        injection this with this
        injection this with _ this
        exact he2 this
end Go.Proofs.Ytohoieleakieeaa
