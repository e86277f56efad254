/-
  Out of TbMov, TbTak, TbAdd, TbFix.
-/
import Derived.Test.YtoajnhngcfjohaaGq2
import Derived.Test.YtoajnhngcfjohaaGq1
import Derived.Test.YtoajnhngcfjohaaRows

/-! The program's move: those that are there go to the first places. -/
namespace Go.Proofs.Ytoajnhngcfjohaa
open Go Go.RowKit

namespace Tb
theorem run_zeroF (w : World) : (zeroValue 23).run Try.prog w = .ok (.agg fd0.cells) w := by
  obtain ⟨i0, h1, h2, _⟩ := fdP_info
  simp [zeroValue, typeInfo, h1, h2]
theorem zc_len (zc : Array Value) (n : Nat) : (Builtin.zeroCells zc n).toList.length = n * zc.size := by simp [Builtin.zeroCells]
theorem zeroCells_fd (m : Nat) : (Builtin.zeroCells (Value.agg fd0.cells).cells m).toList = fds (List.replicate m fd0) := by
  apply List.ext_getElem?
  intro i
  have hl : (fds (List.replicate m fd0)).length = m * 2 := by rw [fds_length, List.length_replicate]
  rcases Nat.lt_or_ge i (m * 2) with h | h
  · have hz : (Builtin.zeroCells (Value.agg fd0.cells).cells m).toList[i]? = some (.string ⟨#[]⟩) := by
      have hs : (Value.agg fd0.cells).cells.size = 2 := rfl
      have h01 : i % 2 = 0 ∨ i % 2 = 1 := by omega
      simp only [Builtin.zeroCells, hs]
      rcases h01 with e | e <;> simp [e, h] <;> rfl
    rw [hz]
    have hi : i / 2 < m := by omega
    have h2 := fds_get (List.replicate m fd0) (i / 2) fd0 (i % 2) (by simp [hi]) (Nat.mod_lt _ (by decide))
    rw [show i / 2 * 2 + i % 2 = i by omega] at h2
    rw [h2]
    have h01 : i % 2 = 0 ∨ i % 2 = 1 := by omega
    rcases h01 with e | e <;> rw [e] <;> rfl
  · rw [List.getElem?_eq_none (by rw [zc_len]; exact h), List.getElem?_eq_none (by rw [hl]; exact h)]
section
variable {w : World} {h r s g : Nat} {A : List Fd} {p q : Nat}
theorem pt_splice (j : Nat) (B : List Fd) (hj : j + B.length ≤ A.length) : ((ptC r s g A p q).toList.take (4 + j * 2) ++ fds B ++ (ptC r s g A p q).toList.drop (4 + j * 2 + (fds B).length)).toArray = ptC r s g (A.take j ++ B ++ A.drop (j + B.length)) p q := by
  have lB := fds_length B
  have lA := fds_length A
  have hs : (ptC r s g A p q).toList = ptH r s g ++ (fds A ++ ptT p q) := rfl
  have e1 : (ptH r s g ++ (fds A ++ ptT p q)).take (4 + j * 2) = ptH r s g ++ fds (A.take j) := by
    rw [show 4 + j * 2 = (ptH r s g).length + j * 2 from rfl, List.take_length_add_append, List.take_append_of_le_length (by omega), fds_take]
  have e2 : (ptH r s g ++ (fds A ++ ptT p q)).drop (4 + j * 2 + (fds B).length) = fds (A.drop (j + B.length)) ++ ptT p q := by
    rw [lB, show 4 + j * 2 + B.length * 2 = (ptH r s g).length + (j + B.length) * 2 by simp [ptH]; omega, List.drop_length_add_append, List.drop_append_of_le_length (by omega), fds_drop]
  rw [hs, e1, e2]
  unfold ptC
  rw [fds_append, fds_append]
  simp only [List.append_assoc]
theorem set_fieldsRow (x : PtR w h r s g A p q) (j : Nat) (B : List Fd) (hj : j + B.length ≤ A.length) : PtR (w.setRow h ((ptC r s g A p q).toList.take (4 + j * 2) ++ fds B ++ (ptC r s g A p q).toList.drop (4 + j * 2 + (fds B).length)).toArray) h r s g (A.take j ++ B ++ A.drop (j + B.length)) p q := by
  have := Row.put x ((ptC r s g A p q).toList.take (4 + j * 2) ++ fds B ++ (ptC r s g A p q).toList.drop (4 + j * 2 + (fds B).length)).toArray
  unfold PtR
  rw [← pt_splice j B hj]
  exact this
theorem copy_there (x : PtR w h r s g A p q) (hA : A.length = 256) (l : List Fd) (hl : ∀ j, j < l.length → A[p + j]? = l[j]?) (hq : p + l.length ≤ 256) (ty : TypeId) :
    (Builtin.copy_ #[49, 49] ty #[.slice (some ⟨h, 4, none⟩) 256 256, .slice (some ⟨h, thA p l.length, none⟩) l.length l.length]).run Try.prog w =
      .ok (.int .i64 (l.length : Int)) (w.setRow h ((ptC r s g A p q).toList.take (4 + 0 * 2) ++ fds l ++ (ptC r s g A p q).toList.drop (4 + 0 * 2 + (fds l).length)).toArray) := by
  have hm : Nat.min l.length 256 = l.length := Nat.min_eq_left (by omega)
  have h1 := lgRun_copy (P := Try.prog) w 49 49 ty 23 h 4 256 256 ⟨h, thA p l.length, none⟩ l.length l.length 2 (ptC r s g A p q) 60 (fds l)
    Try.underlying49 fieldSize x (by rw [hm, fds_length]) (by
      intro j v hv
      have hj := (List.getElem?_eq_some_iff.1 hv).1
      rw [fds_length] at hj
      have hne : ¬ l.length = 0 := by omega
      unfold thA
      rw [if_neg hne]
      have hj2 : j / 2 < l.length := by omega
      have hf := prF x ((hl (j / 2) hj2).trans (List.getElem?_eq_getElem hj2))
      have e := fds_get l (j / 2) l[j / 2] (j % 2) (List.getElem?_eq_getElem hj2) (Nat.mod_lt _ (by decide))
      rw [show j / 2 * 2 + j % 2 = j by omega, hv] at e
      have := hf (j % 2) v e.symm
      rw [Addr.add_mid, show 4 + p * 2 + j = 4 + (p + j / 2) * 2 + j % 2 by omega]
      exact this) (by rw [ptC_size hA, fds_length]; omega) (fds_one _)
  rw [hm] at h1
  exact h1
theorem lgRun_slArr {P : Program} {a : Act} {o : Oper} {e : TypeId} {z N : Nat} (t : TypeId) (x lo : Operand) (g off j : Nat) (ho : o.op = .slice t x (some lo) none none) (hx : a.eval x = .pointer (some ⟨g, off, none⟩)) (hlo : a.eval lo = .int .i64 (j : Int))
    (hu : P.underlying t = some (.array N e)) (hs : (P.info? e).map (·.size) = some z) (h1 : j < N) (W : World) : (execOp a.eval o).run P W = .ok (.value (.slice (some ⟨g, off + j * z, none⟩) (N - j) (N - j))) W := by
  have hsz : (sizeOf e).run P W = .ok z W := by
    cases hq : P.info? e with
    | none => simp [hq] at hs
    | some i =>
      have : i.size = z := by simpa [hq] using hs
      simp [sizeOf, typeInfo, hq, this]
  unfold execOp
  simp [ho, hx, hlo, Instr.sliceAt, Instr.sliceBounds, Instr.sliceBound, asIntOf, Instr.sureAddr, run_underlying hu, hsz, Nat.le_of_lt h1, Addr.add_mid]
  intro e3
  omega
theorem lgRun_clear {P : Program} {a : Act} {o : Oper} (t : TypeId) (s : Operand) (ho : o.op = .call { callee := .builtin .clear, args := #[s], argTypes := #[t] }) (vs : Value) (hs : a.eval s = vs)
    (v' : Value) (W W' : World) (hr : (Builtin.clear_ #[t] o.type #[vs]).run P W = .ok v' W') : (execOp a.eval o).run P W = .ok (.value v') W' := by
  unfold execOp
  simp only [ho, resolve, invoke, builtin, Sem.run_bind, Sem.run_pure, Result.andThen_ok, List.map_toArray, List.map_cons, List.map_nil, hs, hr]
theorem clear_rest (x : PtR w h r s g A p q) (hA : A.length = 256) (n : Nat) (hn : n < 256) (ty : TypeId) :
    (Builtin.clear_ #[49] ty #[.slice (some ⟨h, 4 + n * 2, none⟩) (256 - n) (256 - n)]).run Try.prog w =
      .ok (.tuple #[]) (w.setRow h ((ptC r s g A p q).toList.take (4 + n * 2) ++ fds (List.replicate (256 - n) fd0) ++ (ptC r s g A p q).toList.drop (4 + n * 2 + (fds (List.replicate (256 - n) fd0)).length)).toArray) := by
  obtain ⟨k, hk⟩ : ∃ k, 256 - n = k + 1 := ⟨255 - n, by omega⟩
  have hz := zeroCells_fd (256 - n)
  have hst := run_storeCells_at Try.prog h (4 + n * 2) 60 (fds (List.replicate (256 - n) fd0)) 0 (ptC r s g A p q) w x (by rw [ptC_size hA, fds_length, List.length_replicate]; omega) (fds_one _)
  rw [Nat.add_zero] at hst
  obtain ⟨W', hW'⟩ : ∃ W', w.setRow h ((ptC r s g A p q).toList.take (4 + n * 2) ++ fds (List.replicate (256 - n) fd0) ++ (ptC r s g A p q).toList.drop (4 + n * 2 + (fds (List.replicate (256 - n) fd0)).length)).toArray = W' := ⟨_, rfl⟩
  rw [hW'] at hst ⊢
  rw [← hz, hk] at hst
  rw [hk]
  have h0 := run_zeroF
  generalize Value.agg fd0.cells = zv at h0 hst
  simp [Builtin.clear_, run_underlying Try.underlying49, h0, hst]
end
def depM1 : Nat → List Nat
  | 3 => [2]
  | 4 => [3]
  | 5 => [4]
  | 7 => [6]
  | 8 => [5, 7]
  | 9 => [0, 8]
  | 10 => [9]
  | 11 => [10, 8]
  | 12 => [1, 11]
  | 13 => [12]
  | 14 => [13, 8, 11]
  | _ => []
def dsM1 : List Nat := [2, 3, 4, 5, 6, 7, 8, 9, 10, 11, 12, 100000, 13, 14, 100001]
def valM1 (h p n : Nat) : Nat → Value
  | 0 => .pointer (some ⟨h, 0, none⟩)
  | 1 => .pointer (some ⟨h, 0, none⟩)
  | 2 => .pointer (some ⟨h, 0, none⟩)
  | 3 => .pointer (some ⟨h, 0, none⟩)
  | 4 => .pointer (some ⟨h, 4, none⟩)
  | 5 => .slice (some ⟨h, 4, none⟩) 256 256
  | 6 => .pointer (some ⟨h, 0, none⟩)
  | 7 => .slice (some ⟨h, thA p n, none⟩) n n
  | 8 => .int .i64 (n : Int)
  | 9 => .pointer (some ⟨h, 0, none⟩)
  | 10 => .pointer (some ⟨h, 516, none⟩)
  | 11 => undef
  | 12 => .pointer (some ⟨h, 0, none⟩)
  | 13 => .pointer (some ⟨h, 517, none⟩)
  | 14 => undef
  | _ => undef
def depM2 : Nat → List Nat
  | 1 => [0]
  | 2 => [1]
  | 4 => [3]
  | 5 => [4]
  | 6 => [5]
  | 7 => [2, 6]
  | 8 => [7]
  | _ => []
def dsM2 : List Nat := [15, 16, 17, 18, 19, 20, 21, 22, 100000]
def valM2 (h n : Nat) : Nat → Value
  | 0 => .pointer (some ⟨h, 0, none⟩)
  | 1 => .pointer (some ⟨h, 0, none⟩)
  | 2 => .pointer (some ⟨h, 4, none⟩)
  | 3 => .pointer (some ⟨h, 0, none⟩)
  | 4 => .pointer (some ⟨h, 0, none⟩)
  | 5 => .pointer (some ⟨h, 517, none⟩)
  | 6 => .int .i64 (n : Int)
  | 7 => .slice (some ⟨h, 4 + n * 2, none⟩) (256 - n) (256 - n)
  | 8 => .tuple #[]
  | _ => undef

set_option maxRecDepth 100000 in
set_option maxHeartbeats 4000000 in
theorem tab_move {w : World} {h : Nat} {t : Tab} {A : List Fd} {p q : Nat} (x : PtOk w h t A p q) (n : Nat) (hn : t.l.length = n) (hn1 : n ≤ 128) :
    Calls Try.prog 38 #[.pointer (some ⟨h, 0, none⟩)] w fun e w' => e = .returned (.tuple #[]) ∧
      ∃ A', PtOk w' h t A' 0 n ∧ KeepP (fun k => k = h) w w' := by
  obtain ⟨A1, hA1⟩ : ∃ A1, A.take 0 ++ t.l ++ A.drop (0 + t.l.length) = A1 := ⟨_, rfl⟩
  obtain ⟨s, hs⟩ : ∃ s, size t.l = s := ⟨_, rfl⟩
  have hA := x.al
  have hpq := x.pq
  have hq1 := x.q1
  have lA1 : A1.length = 256 := by rw [← hA1]; simp; omega
  have hrow : PtR w h t.room s t.went A p q := hs ▸ x.row
  have hl1 : ∀ j, j < n → A1[j]? = t.l[j]? := by
    intro j hj
    rw [← hA1, List.take_zero, List.nil_append, List.getElem?_append_left (by omega)]
  have H := veil (show _ ∧ _ ∧ _ from ⟨x, hrow, hA1⟩)
  have HL := veil hl1
  clear x hrow hA1 hl1
  go_enter Try.func38, Try.ntmps38
  go_upto_region 0 with fail
  go_cut [] (fun W => PtR W h t.room s t.went A1 0 n ∧ KeepP (fun k => k = h) w W)
  case first =>
    refine (wpIn_wide (n := 4)).1 ?_
    refine wpIn_region_any (by kernel_rfl) ?_
    refine anyIn_line2 (valM1 h p n) (fun m W => (m ≤ 1 → Below w.heap.size w W) ∧ (m = 2 → PtR W h t.room s t.went A1 p q ∧ KeepP (fun k => k = h) w W) ∧ (m = 3 → PtR W h t.room s t.went A1 0 q ∧ KeepP (fun k => k = h) w W) ∧ (m = 4 → PtR W h t.room s t.went A1 0 n ∧ KeepP (fun k => k = h) w W)) [7, 8, 11, 14] dsM1 depM1 (by kernel_rfl) rfl (by decide) (by decide) ?ord ?inn ?h0 ?fix ?cal ?done
    case ord =>
      intro k i j h1 h2
      match k, h1, h2 with
      | 0, h1, h2 => obtain rfl := Option.some.inj h1; obtain rfl := Option.some.inj h2; exact .inl (by decide)
      | 1, h1, h2 => obtain rfl := Option.some.inj h1; obtain rfl := Option.some.inj h2; exact .inl (by decide)
      | 2, h1, h2 => obtain rfl := Option.some.inj h1; obtain rfl := Option.some.inj h2; exact .inl (by decide)
      | k + 3, _, h2 => simp at h2
    case inn => intro j hj; simp at hj; show j < 15; omega
    case h0 => exact ⟨fun _ => (Below.refl _ _).drew, fun h => absurd h (by omega), fun h => absurd h (by omega), fun h => absurd h (by omega)⟩
    case fix =>
      intro x W m ii d hR hm hdi hc hdep
      match ii, hm, hdi, hc, hdep with
      | 0, _, hdi, _, _ =>
        obtain rfl := Option.some.inj hdi
        exact OI_value rfl rfl (about_none (by intro c h; cases h)) (by intro c h; cases h) (.pointer (some ⟨h, 0, none⟩)) W (by kernel_rfl) ⟨rfl, rfl⟩
      | 1, _, hdi, _, _ =>
        obtain rfl := Option.some.inj hdi
        exact OI_value rfl rfl (about_none (by intro c h; cases h)) (by intro c h; cases h) (.pointer (some ⟨h, 0, none⟩)) W (by kernel_rfl) ⟨rfl, rfl⟩
      | 2, _, hdi, _, _ =>
        obtain rfl := Option.some.inj hdi
        exact OI_value rfl rfl (about_none (by intro c h; cases h)) (by intro c h; cases h) (.pointer (some ⟨h, 0, none⟩)) W (by kernel_rfl) ⟨rfl, rfl⟩
      | 3, _, hdi, _, hdep =>
        obtain rfl := Option.some.inj hdi
        rw [updV_self (show x 2 = _ from hdep 2 (by simp [depM1]))]
        exact OI_value rfl rfl (about_none (by intro c h; cases h)) (by intro c h; cases h) (.pointer (some ⟨h, 0, none⟩)) W (by kernel_rfl) ⟨rfl, rfl⟩
      | 4, _, hdi, _, hdep =>
        obtain rfl := Option.some.inj hdi
        rw [updV_self (show x 3 = _ from hdep 3 (by simp [depM1]))]
        exact OI_value rfl rfl (about_none (by intro c h; cases h)) (by intro c h; cases h) (.pointer (some ⟨h, 4, none⟩)) W (by kernel_rfl) ⟨rfl, rfl⟩
      | 5, _, hdi, _, hdep =>
        obtain rfl := Option.some.inj hdi
        rw [updV_self (show x 4 = _ from hdep 4 (by simp [depM1]))]
        exact OI_value rfl rfl (about_none (by intro c h; cases h)) (by intro c h; cases h) (.slice (some ⟨h, 4, none⟩) 256 256) W (by kernel_rfl) ⟨rfl, rfl⟩
      | 6, _, hdi, _, _ =>
        obtain rfl := Option.some.inj hdi
        exact OI_value rfl rfl (about_none (by intro c h; cases h)) (by intro c h; cases h) (.pointer (some ⟨h, 0, none⟩)) W (by kernel_rfl) ⟨rfl, rfl⟩
      | 7, _, _, hc, _ => exact (hc (by simp)).elim
      | 8, _, _, hc, _ => exact (hc (by simp)).elim
      | 9, _, hdi, _, hdep =>
        obtain rfl := Option.some.inj hdi
        rw [updV_self (show x 0 = _ from hdep 0 (by simp [depM1])), updV_self (show (updV x 0 _) 8 = _ from hdep 8 (by simp [depM1]))]
        exact OI_value rfl rfl (about_none (by intro c h; cases h)) (by intro c h; cases h) (.pointer (some ⟨h, 0, none⟩)) W (by kernel_rfl) ⟨rfl, rfl⟩
      | 10, _, hdi, _, hdep =>
        obtain rfl := Option.some.inj hdi
        rw [updV_self (show x 9 = _ from hdep 9 (by simp [depM1]))]
        exact OI_value rfl rfl (about_none (by intro c h; cases h)) (by intro c h; cases h) (.pointer (some ⟨h, 516, none⟩)) W (by kernel_rfl) ⟨rfl, rfl⟩
      | 11, _, _, hc, _ => exact (hc (by simp)).elim
      | 12, _, hdi, _, hdep =>
        obtain rfl := Option.some.inj hdi
        rw [updV_self (show x 1 = _ from hdep 1 (by simp [depM1])), updV_self (show (updV x 1 _) 11 = _ from hdep 11 (by simp [depM1]))]
        exact OI_value rfl rfl (about_none (by intro c h; cases h)) (by intro c h; cases h) (.pointer (some ⟨h, 0, none⟩)) W (by kernel_rfl) ⟨rfl, rfl⟩
      | 13, _, hdi, _, hdep =>
        obtain rfl := Option.some.inj hdi
        rw [updV_self (show x 12 = _ from hdep 12 (by simp [depM1]))]
        exact OI_value rfl rfl (about_none (by intro c h; cases h)) (by intro c h; cases h) (.pointer (some ⟨h, 517, none⟩)) W (by kernel_rfl) ⟨rfl, rfl⟩
      | 14, _, _, hc, _ => exact (hc (by simp)).elim
      | _ + 15, _, hdi, _, _ => simp [dsM1] at hdi
    case cal =>
      intro x W k ii d hR hk hdi hdep
      match k, hk, hR with
      | 0, hk, hR =>
        obtain rfl := Option.some.inj hk
        obtain rfl := Option.some.inj hdi
        rw [updV_self (show x 6 = _ from hdep 6 (by simp [depM1]))]
        have hW := hR.1 (by omega)
        refine OI_call rfl rfl (by intro c h; cases h) 33 #[.pointer (some ⟨h, 0, none⟩)] (fun _ _ => trivial) (by kernel_rfl) (by decide) ?_
        refine (callsIn_wide.2 (tab_there (H.out.1.below hW) n hn)).mono ?_
        rintro e w9 ⟨rfl, m9, rfl⟩
        exact ⟨_, rfl, rfl, fun _ => below_drewN hW _, fun h => absurd h (by omega), fun h => absurd h (by omega), fun h => absurd h (by omega)⟩
      | 1, hk, hR =>
        obtain rfl := Option.some.inj hk
        obtain rfl := Option.some.inj hdi
        rw [updV_self (show x 5 = _ from hdep 5 (by simp [depM1])), updV_self (show (updV x 5 _) 7 = _ from hdep 7 (by simp [depM1]))]
        have hW := hR.1 (by omega)
        have hr := Row.below H.out.2.1 hW (Row.lt H.out.2.1)
        have hc := copy_there hr hA t.l H.out.1.l (by omega)
        rw [hn] at hc
        refine OI_value rfl rfl (about_builtin _ _ _ rfl) (by intro c h; cases h) (.int .i64 (n : Int)) _ (lgRun_copyB _ _ _ _ _ _ _ _ rfl (by kernel_rfl) (by kernel_rfl) (hc _)) ?_
        refine ⟨rfl, fun h => absurd h (by omega), fun _ => ⟨?_, (KeepP.of_below hW).trans (KeepP.setRow (st := fun k => k = h) rfl _ _)⟩, fun h => absurd h (by omega), fun h => absurd h (by omega)⟩
        have := set_fieldsRow hr 0 t.l (by rw [hA, hn]; omega)
        rw [H.out.2.2] at this
        exact this
      | 2, hk, hR =>
        obtain rfl := Option.some.inj hk
        obtain rfl := Option.some.inj hdi
        rw [updV_self (show x 10 = _ from hdep 10 (by simp [depM1]))]
        have hW := hR.2.1 rfl
        refine OI_skip rfl rfl (about_none (by intro c h; cases h)) (by intro c h; cases h) (W.setCell ⟨h, 516, none⟩ (.int .i64 ((0 : Nat) : Int))) (lgRun_store 3 _ _ ⟨h, 516, none⟩ (.int .i64 ((0 : Nat) : Int)) _ rfl rfl (by kernel_rfl) (by kernel_rfl) (by kernel_rfl) W (pr5 hW.1 lA1) (Row.frozen hW.1 516)) ?_
        refine ⟨(put_none _ _).trans (put_far _ _ _ (by rw [puts_size]; exact Nat.le_of_ble_eq_true rfl)).symm, fun h => absurd h (by omega), fun h => absurd h (by omega), fun _ => ⟨set_from hW.1 lA1 0, hW.2.trans (KeepP.setCell (st := fun k => k = h) rfl _ _ _)⟩, fun h => absurd h (by omega)⟩
      | 3, hk, hR =>
        obtain rfl := Option.some.inj hk
        obtain rfl := Option.some.inj hdi
        rw [updV_self (show x 13 = _ from hdep 13 (by simp [depM1])), updV_self (show (updV x 13 _) 8 = _ from hdep 8 (by simp [depM1]))]
        have hW := hR.2.2.1 rfl
        refine OI_skip rfl rfl (about_none (by intro c h; cases h)) (by intro c h; cases h) (W.setCell ⟨h, 517, none⟩ (.int .i64 (n : Int))) (lgRun_store 3 _ _ ⟨h, 517, none⟩ (.int .i64 (n : Int)) _ rfl rfl (by kernel_rfl) (by kernel_rfl) (by kernel_rfl) W (pr6 hW.1 lA1) (Row.frozen hW.1 517)) ?_
        refine ⟨(put_none _ _).trans (put_far _ _ _ (by rw [puts_size]; exact Nat.le_of_ble_eq_true rfl)).symm, fun h => absurd h (by omega), fun h => absurd h (by omega), fun h => absurd h (by omega), fun _ => ⟨set_to hW.1 lA1 n, hW.2.trans (KeepP.setCell (st := fun k => k = h) rfl _ _ _)⟩⟩
      | _ + 4, hk, _ => simp at hk
    case done =>
      intro W hR
      simp only [dsM1, putsV, valM1, Act.put, List.setIfInBounds_toArray, List.set_cons_succ, List.set_cons_zero, Nat.reduceAdd]
      have HR := veil (hR.2.2.2 rfl)
      clear hR
      go_wp2_with fail
      go_meet
      exact HR.out
  case rest =>
    obtain ⟨hW1, hK1⟩ := hcut
    have HW1 := veil hW1
    have HK1 := veil hK1
    clear hW1 hK1
    go_upto_region 1 with fail
    go_wp2_with fail
    refine (wpIn_wide (n := 4)).1 ?_
    refine wpIn_region_any (by kernel_rfl) ?_
    refine anyIn_line2 (valM2 h n) (fun m W => (m ≤ 0 → Below wc.heap.size wc W) ∧ (0 < m → PtR W h t.room s t.went (A1.take n ++ List.replicate (256 - n) fd0 ++ A1.drop (n + (List.replicate (256 - n) fd0).length)) 0 n ∧ KeepP (fun k => k = h) wc W)) [8] dsM2 depM2 (by kernel_rfl) rfl (by decide) (by decide) ?ord ?inn ?h0 ?fix ?cal ?done
    case ord =>
      intro k i j h1 h2
      simp at h2
    case inn => intro j hj; simp at hj; show j < 9; omega
    case h0 => exact ⟨fun _ => (Below.refl _ _).drew, fun h => absurd h (by omega)⟩
    case fix =>
      intro x W m ii d hR hm hdi hc hdep
      match ii, hm, hdi, hc, hdep with
      | 0, _, hdi, _, _ =>
        obtain rfl := Option.some.inj hdi
        exact OI_value rfl rfl (about_none (by intro c h; cases h)) (by intro c h; cases h) (.pointer (some ⟨h, 0, none⟩)) W (by kernel_rfl) ⟨rfl, rfl⟩
      | 1, _, hdi, _, hdep =>
        obtain rfl := Option.some.inj hdi
        rw [updV_self (show x 0 = _ from hdep 0 (by simp [depM2]))]
        exact OI_value rfl rfl (about_none (by intro c h; cases h)) (by intro c h; cases h) (.pointer (some ⟨h, 0, none⟩)) W (by kernel_rfl) ⟨rfl, rfl⟩
      | 2, _, hdi, _, hdep =>
        obtain rfl := Option.some.inj hdi
        rw [updV_self (show x 1 = _ from hdep 1 (by simp [depM2]))]
        exact OI_value rfl rfl (about_none (by intro c h; cases h)) (by intro c h; cases h) (.pointer (some ⟨h, 4, none⟩)) W (by kernel_rfl) ⟨rfl, rfl⟩
      | 3, _, hdi, _, _ =>
        obtain rfl := Option.some.inj hdi
        exact OI_value rfl rfl (about_none (by intro c h; cases h)) (by intro c h; cases h) (.pointer (some ⟨h, 0, none⟩)) W (by kernel_rfl) ⟨rfl, rfl⟩
      | 4, _, hdi, _, hdep =>
        obtain rfl := Option.some.inj hdi
        rw [updV_self (show x 3 = _ from hdep 3 (by simp [depM2]))]
        exact OI_value rfl rfl (about_none (by intro c h; cases h)) (by intro c h; cases h) (.pointer (some ⟨h, 0, none⟩)) W (by kernel_rfl) ⟨rfl, rfl⟩
      | 5, _, hdi, _, hdep =>
        obtain rfl := Option.some.inj hdi
        rw [updV_self (show x 4 = _ from hdep 4 (by simp [depM2]))]
        exact OI_value rfl rfl (about_none (by intro c h; cases h)) (by intro c h; cases h) (.pointer (some ⟨h, 517, none⟩)) W (by kernel_rfl) ⟨rfl, rfl⟩
      | 6, _, hdi, _, hdep =>
        obtain rfl := Option.some.inj hdi
        have hcl : W.cell? ⟨h, 517, none⟩ = some (.int .i64 (n : Int)) := by
          rcases Nat.eq_zero_or_pos m with e | e
          · exact pr6 (Row.below HW1.out (hR.1 (by omega)) (Row.lt HW1.out)) lA1
          · exact pr6 (hR.2 e).1 (by simp; omega)
        rw [updV_self (show x 5 = _ from hdep 5 (by simp [depM2]))]
        exact OI_value rfl rfl (about_none (by intro c h; cases h)) (by intro c h; cases h) (.int .i64 (n : Int)) W (lgRun_cell 3 _ ⟨h, 517, none⟩ _ _ rfl (by kernel_rfl) Try.underlying3 rfl W (hcl)) ⟨rfl, rfl⟩
      | 7, _, hdi, _, hdep =>
        obtain rfl := Option.some.inj hdi
        rw [updV_self (show x 2 = _ from hdep 2 (by simp [depM2])), updV_self (show (updV x 2 _) 6 = _ from hdep 6 (by simp [depM2]))]
        exact OI_value rfl rfl (about_none (by intro c h; cases h)) (by intro c h; cases h) (.slice (some ⟨h, 4 + n * 2, none⟩) (256 - n) (256 - n)) W (lgRun_slArr 58 _ _ h 4 n rfl (by kernel_rfl) (by kernel_rfl) Try.underlying58 fieldSize (by omega) W) ⟨rfl, rfl⟩
      | 8, _, _, hc, _ => exact (hc (by simp)).elim
      | _ + 9, _, hdi, _, _ => simp [dsM2] at hdi
    case cal =>
      intro x W k ii d hR hk hdi hdep
      match k, hk, hR with
      | 0, hk, hR =>
        obtain rfl := Option.some.inj hk
        obtain rfl := Option.some.inj hdi
        rw [updV_self (show x 7 = _ from hdep 7 (by simp [depM2]))]
        have hW := hR.1 (by omega)
        have hr := Row.below HW1.out hW (Row.lt HW1.out)
        have hc := clear_rest hr lA1 n (by omega)
        refine OI_value rfl rfl (about_builtin _ _ _ rfl) (by intro c h; cases h) (.tuple #[]) _ (lgRun_clear 49 _ rfl _ (by kernel_rfl) _ _ _ (hc _)) ?_
        refine ⟨(put_none _ _).trans (put_far _ _ _ (by rw [puts_size]; exact Nat.le_of_ble_eq_true rfl)).symm, fun h => absurd h (by omega), fun _ => ⟨?_, (KeepP.of_below hW).trans (KeepP.setRow (st := fun k => k = h) rfl _ _)⟩⟩
        exact set_fieldsRow hr n (List.replicate (256 - n) fd0) (by rw [lA1, List.length_replicate]; omega)
      | _ + 1, hk, _ => simp at hk
    case done =>
      intro W hR
      simp only [dsM2, putsV, valM2, Act.put, List.setIfInBounds_toArray, List.set_cons_succ, List.set_cons_zero, Nat.reduceAdd]
      obtain ⟨hW2, hK2⟩ := hR.2 (by decide)
      have hfin := veil (show ∃ A', PtOk W h t A' 0 n ∧ KeepP (fun k => k = h) w W from by
        refine ⟨_, ⟨by rw [hs]; exact hW2, by simp; omega, by omega, by omega, ?_, H.out.1.sz, H.out.1.rb, H.out.1.wb⟩, HK1.out.trans hK2⟩
        intro j hj
        rw [Nat.zero_add, List.append_assoc, List.getElem?_append_left (by simp; omega), List.getElem?_take_of_lt (by omega)]
        exact HL.out j (by omega))
      clear hW2 hK2 hR
      go_wp2_with fail
      go_end0
      exact ⟨rfl, hfin.out⟩
end Tb
end Go.Proofs.Ytoajnhngcfjohaa

/-! The program's take: a field comes, the last one. -/
namespace Go.Proofs.Ytoajnhngcfjohaa
open Go Go.RowKit

namespace Tb
section
variable {P : Program} {a : Act} {o : Oper}
theorem lgRun_addN (t t' : TypeId) (x y : Operand) (m r d : Nat) (hd : m + r = d) (hm : d ≤ 140737488355328) (ho : o.op = .binOp .add t x y t') (hx : a.eval x = .int .i64 (m : Int)) (hy : a.eval y = .int .i64 (r : Int)) (W : World) :
    (execOp a.eval o).run P W = .ok (.value (.int .i64 (d : Int))) W := by
  have hw : IntKind.i64.wrap ((m : Int) + (r : Int)) = (d : Int) := by rw [IntKind.wrap_i64]; omega
  unfold execOp
  simp only [ho, hx, hy]
  go_simp
end
def depT1 : Nat → List Nat
  | 2 => [1]
  | 3 => [2]
  | 4 => [3]
  | 6 => [0]
  | 7 => [6]
  | 8 => [7, 4]
  | 9 => [8, 5, 4]
  | _ => []
def dsT1 : List Nat := [11, 12, 13, 14, 15, 16, 17, 18, 19, 100000]
def valT1 (h q : Nat) (f : Fd) : Nat → Value
  | 0 => .pointer (some ⟨h, 0, none⟩)
  | 1 => .pointer (some ⟨h, 0, none⟩)
  | 2 => .pointer (some ⟨h, 0, none⟩)
  | 3 => .pointer (some ⟨h, 517, none⟩)
  | 4 => .int .i64 (q : Int)
  | 5 => .agg f.cells
  | 6 => .pointer (some ⟨h, 0, none⟩)
  | 7 => .pointer (some ⟨h, 4, none⟩)
  | 8 => .pointer (some ⟨h, 4 + q * 2, none⟩)
  | 9 => undef
  | _ => undef
def depT2 : Nat → List Nat
  | 1 => [0]
  | 2 => [1]
  | 3 => [2]
  | 5 => [4]
  | 6 => [3, 5]
  | 7 => [0]
  | 8 => [7]
  | 9 => [8, 6, 3, 4, 5]
  | _ => []
def dsT2 : List Nat := [27, 28, 29, 30, 31, 32, 33, 34, 35, 100000]
def valT2 (h s s1 : Nat) (f : Fd) : Nat → Value
  | 0 => .pointer (some ⟨h, 0, none⟩)
  | 1 => .pointer (some ⟨h, 0, none⟩)
  | 2 => .pointer (some ⟨h, 2, none⟩)
  | 3 => .int .i64 (s : Int)
  | 4 => .agg f.cells
  | 5 => .int .i64 (sz f : Nat)
  | 6 => .int .i64 (s1 : Int)
  | 7 => .pointer (some ⟨h, 0, none⟩)
  | 8 => .pointer (some ⟨h, 2, none⟩)
  | 9 => undef
  | _ => undef
theorem box_range {W : World} {b : Nat} {T : TypeId} {f : Fd} (h : Row W b T f.cells) : W.rangeAt b 0 f.cells.toList := Row.rangeH h 0 _ fun j v e => by rw [Nat.zero_add]; simpa using e
set_option maxRecDepth 100000 in
set_option maxHeartbeats 4000000 in
theorem tab_take {w : World} {h : Nat} {t : Tab} {A : List Fd} {p q : Nat} (x : PtOk w h t A p q) (f : Fd) (hf : size t.l + sz f ≤ 4096) (hc : t.came + 1 ≤ 1000000000000) :
    Calls Try.prog 36 #[.pointer (some ⟨h, 0, none⟩), .agg f.cells] w fun e w' => e = .returned (.tuple #[]) ∧
      ∃ A' p' q', PtOk w' h ⟨t.room, t.went, t.l ++ [f]⟩ A' p' q' ∧ KeepP (fun k => k = h) w w' := by
  obtain ⟨s, hs⟩ : ∃ s, size t.l = s := ⟨_, rfl⟩
  obtain ⟨s1, hs1⟩ : ∃ s1, s + sz f = s1 := ⟨_, rfl⟩
  have hsz : sz f = f.1.size + f.2.size + 32 := rfl
  obtain ⟨n, hn⟩ : ∃ n, t.l.length = n := ⟨_, rfl⟩
  have hn1 : n ≤ 127 := by have := size_length t.l; omega
  have hq1 := x.q1
  have hb : h < w.heap.size := Row.lt x.row
  have H := veil (show _ ∧ _ from ⟨x, hc⟩)
  have hs2 := veil hs
  have hfz : f.1.size + f.2.size ≤ 4096 := by omega
  rw [hs] at hf
  clear x hc hs hsz
  obtain ⟨b, hbs⟩ : ∃ b, w.heap.size = b := ⟨_, rfl⟩
  obtain ⟨fa, fb⟩ := f
  show Calls Try.prog 36 #[.pointer (some ⟨h, 0, none⟩), .agg #[.string fa, .string fb]] w _
  go_enter Try.func36, Try.ntmps36
  go_upto_region 1 with fail
  obtain ⟨w1, hw1⟩ : ∃ w1, w.alloc (.cells #[.string fa, .string fb] 23) = w1 := ⟨_, rfl⟩
  rw [hw1]
  have hB : Below w.heap.size w w1 := hw1 ▸ (Below.refl w.heap.size w).alloc (Nat.le_refl _) _
  have hbx : Row w1 b 23 (Fd.cells (fa, fb)) := by rw [← hw1, ← hbs]; exact Row.new w _ _
  have x1 : PtOk w1 h t A p q := H.out.1.below hB
  have x6 := x1.c6
  have H1 := veil (show _ ∧ _ ∧ _ from ⟨x1, hbx, hB⟩)
  have hhb : h < b := hbs ▸ hb
  clear x1 hbx hB hw1 hbs
  go_upto_if 8 with fail
  go_cut [] (fun W => ∃ A1 p1 q1, PtOk W h t A1 p1 q1 ∧ q1 < 256 ∧ Row W b 23 (Fd.cells (fa, fb)) ∧ KeepP (fun k => k = h) w W)
  case first =>
    by_cases hq : q = 256
    · have n0 : (q : Int) = 256 := by omega
      go_wp2_with (go_at_call 38; refine (tab_move H1.out.1 n hn (by omega)).mono ?_; rintro e9 w9 ⟨rfl, A9, hA9, hK9⟩)
      go_meet
      exact ⟨A9, 0, n, hA9, by omega, (hK9.block b (Row.lt H1.out.2.1) (show ¬ b = h by omega)).trans H1.out.2.1, (KeepP.of_below H1.out.2.2).trans hK9⟩
    · have n0 : ¬ (q : Int) = 256 := by omega
      go_wp2_with fail
      go_meet
      exact ⟨A, p, q, H1.out.1, by omega, H1.out.2.1, KeepP.of_below H1.out.2.2⟩
  case rest =>
    obtain ⟨A1, p1, q1, hO, hq2, hbx, hK⟩ := hcut
    have hA := hO.al
    have hpq := hO.pq
    have hr : PtR wc h t.room s t.went A1 p1 q1 := hs2.out ▸ hO.row
    have HO := veil (show _ ∧ _ ∧ _ ∧ _ from ⟨hO, hr, hbx, hK⟩)
    clear hO hr hbx hK x6
    go_upto_region 3 with fail
    go_cut [] (fun W => PtR W h t.room s t.went (A1.take q1 ++ [(fa, fb)] ++ A1.drop (q1 + 1)) p1 q1 ∧ KeepP (fun k => k = h) wc W)
    case first =>
      go_wp2_with fail
      refine (wpIn_wide (n := 4)).1 ?_
      refine wpIn_region_any (by kernel_rfl) ?_
      refine anyIn_line2 (valT1 h q1 (fa, fb)) (fun m W => (m ≤ 0 → Below wc.heap.size wc W) ∧ (0 < m → PtR W h t.room s t.went (A1.take q1 ++ [(fa, fb)] ++ A1.drop (q1 + 1)) p1 q1 ∧ KeepP (fun k => k = h) wc W)) [9] dsT1 depT1 (by kernel_rfl) rfl (by decide) (by decide) ?ord ?inn ?h0 ?fix ?cal ?done
      case ord =>
        intro k i j h1 h2
        simp at h2
      case inn => intro j hj; simp at hj; show j < 10; omega
      case h0 => exact ⟨fun _ => (Below.refl _ _).drew, fun h => absurd h (by omega)⟩
      case fix =>
        intro x W m ii d hR hm hdi hc hdep
        match ii, hm, hdi, hc, hdep with
        | 0, _, hdi, _, _ =>
          obtain rfl := Option.some.inj hdi
          exact OI_value rfl rfl (about_none (by intro c h; cases h)) (by intro c h; cases h) (.pointer (some ⟨h, 0, none⟩)) W (by kernel_rfl) ⟨rfl, rfl⟩
        | 1, _, hdi, _, _ =>
          obtain rfl := Option.some.inj hdi
          exact OI_value rfl rfl (about_none (by intro c h; cases h)) (by intro c h; cases h) (.pointer (some ⟨h, 0, none⟩)) W (by kernel_rfl) ⟨rfl, rfl⟩
        | 2, _, hdi, _, hdep =>
          obtain rfl := Option.some.inj hdi
          rw [updV_self (show x 1 = _ from hdep 1 (by simp [depT1]))]
          exact OI_value rfl rfl (about_none (by intro c h; cases h)) (by intro c h; cases h) (.pointer (some ⟨h, 0, none⟩)) W (by kernel_rfl) ⟨rfl, rfl⟩
        | 3, _, hdi, _, hdep =>
          obtain rfl := Option.some.inj hdi
          rw [updV_self (show x 2 = _ from hdep 2 (by simp [depT1]))]
          exact OI_value rfl rfl (about_none (by intro c h; cases h)) (by intro c h; cases h) (.pointer (some ⟨h, 517, none⟩)) W (by kernel_rfl) ⟨rfl, rfl⟩
        | 4, hm, hdi, _, hdep =>
          obtain rfl := Option.some.inj hdi
          have hW := hR.1 (hm 0 9 rfl (by simp [depT1]))
          rw [updV_self (show x 3 = _ from hdep 3 (by simp [depT1]))]
          exact OI_value rfl rfl (about_none (by intro c h; cases h)) (by intro c h; cases h) (.int .i64 (q1 : Int)) W (lgRun_cell 3 _ ⟨h, 517, none⟩ _ _ rfl (by kernel_rfl) Try.underlying3 rfl W (pr6 (Row.below HO.out.2.1 hW (Row.lt HO.out.2.1)) hA)) ⟨rfl, rfl⟩
        | 5, hm, hdi, _, _ =>
          obtain rfl := Option.some.inj hdi
          have hW := hR.1 (hm 0 9 rfl (by simp [depT1]))
          exact OI_value rfl rfl (about_none (by intro c h; cases h)) (by intro c h; cases h) (.agg (Fd.cells (fa, fb))) W (run_midT 23 _ b 0 (Fd.cells (fa, fb)).toList _ rfl (by kernel_rfl) Try.underlying23 rfl (by kernel_rfl) W (box_range (Row.below HO.out.2.2.1 hW (Row.lt HO.out.2.2.1)))) ⟨rfl, rfl⟩
        | 6, _, hdi, _, hdep =>
          obtain rfl := Option.some.inj hdi
          rw [updV_self (show x 0 = _ from hdep 0 (by simp [depT1]))]
          exact OI_value rfl rfl (about_none (by intro c h; cases h)) (by intro c h; cases h) (.pointer (some ⟨h, 0, none⟩)) W (by kernel_rfl) ⟨rfl, rfl⟩
        | 7, _, hdi, _, hdep =>
          obtain rfl := Option.some.inj hdi
          rw [updV_self (show x 6 = _ from hdep 6 (by simp [depT1]))]
          exact OI_value rfl rfl (about_none (by intro c h; cases h)) (by intro c h; cases h) (.pointer (some ⟨h, 4, none⟩)) W (by kernel_rfl) ⟨rfl, rfl⟩
        | 8, _, hdi, _, hdep =>
          obtain rfl := Option.some.inj hdi
          rw [updV_self (show x 7 = _ from hdep 7 (by simp [depT1])), updV_self (show (updV x 7 _) 4 = _ from hdep 4 (by simp [depT1]))]
          exact OI_value rfl rfl (about_none (by intro c h; cases h)) (by intro c h; cases h) (.pointer (some ⟨h, 4 + q1 * 2, none⟩)) W (lgRun_atArr 58 _ 256 2 _ _ h 4 q1 rfl (by kernel_rfl) (by kernel_rfl) Try.underlying58 fieldSize hq2 W) ⟨rfl, rfl⟩
        | 9, _, _, hc, _ => exact (hc (by simp)).elim
        | _ + 10, _, hdi, _, _ => simp [dsT1] at hdi
      case cal =>
        intro x W k ii d hR hk hdi hdep
        match k, hk, hR with
        | 0, hk, hR =>
          obtain rfl := Option.some.inj hk
          obtain rfl := Option.some.inj hdi
          rw [updV_self (show x 8 = _ from hdep 8 (by simp [depT1])), updV_self (show (updV x 8 _) 5 = _ from hdep 5 (by simp [depT1]))]
          have hW := hR.1 (by omega)
          refine OI_skip rfl rfl (about_none (by intro c h; cases h)) (by intro c h; cases h) (W.setCells h (4 + q1 * 2) (Fd.cells (fa, fb)).toList) (run_smidT 23 _ _ h (4 + q1 * 2) (Fd.cells (fa, fb)).toList rfl (by kernel_rfl) (by kernel_rfl) (by kernel_rfl) (fd_one _) W (Row.thereH (Row.below HO.out.2.1 hW (Row.lt HO.out.2.1)) _ _ (by rw [ptC_size hA]; show 4 + q1 * 2 + 2 ≤ 518; omega))) ?_
          refine ⟨(put_none _ _).trans (put_far _ _ _ (by rw [puts_size]; exact Nat.le_of_ble_eq_true rfl)).symm, fun h => absurd h (by omega), fun _ => ⟨?_, (KeepP.of_below hW).trans (KeepP.setCells (st := fun k => k = h) rfl _ _ _)⟩⟩
          have := set_fields (Row.below HO.out.2.1 hW (Row.lt HO.out.2.1)) q1 [(fa, fb)] (by rw [hA]; show q1 + 1 ≤ 256; omega)
          rw [fds_single] at this
          exact this
        | _ + 1, hk, _ => simp at hk
      case done =>
        intro W hR
        simp only [dsT1, putsV, valT1, Act.put, List.setIfInBounds_toArray, List.set_cons_succ, List.set_cons_zero, Nat.reduceAdd]
        have HR := veil (hR.2 (by decide))
        clear hR
        go_wp2_with fail
        go_meet
        exact HR.out
    case rest =>
      obtain ⟨hW2, hK2⟩ := hcut
      obtain ⟨A2, hA2e⟩ : ∃ A2, A1.take q1 ++ [(fa, fb)] ++ A1.drop (q1 + 1) = A2 := ⟨_, rfl⟩
      have hA2 : A2.length = 256 := by rw [← hA2e]; simp [hA]; omega
      rw [hA2e] at hW2
      have hl2 : ∀ j, j < n + 1 → A2[p1 + j]? = (t.l ++ [(fa, fb)])[j]? := by
        intro j hj
        rcases Nat.lt_or_ge j n with e | e
        · rw [← hA2e, List.append_assoc, List.getElem?_append_left (by simp; omega), List.getElem?_take_of_lt (by omega), List.getElem?_append_left (by omega)]
          exact HO.out.1.l j (by omega)
        · obtain rfl : j = n := by omega
          rw [← hA2e, List.getElem?_append_left (by simp; omega), List.getElem?_append_right (by simp; omega), List.getElem?_append_right (by omega), hn]
          simp only [List.length_take, hA]
          rw [show p1 + j - min q1 256 = 0 by omega, Nat.sub_self]
      obtain ⟨q3, hq3⟩ : ∃ q3, q1 + 1 = q3 := ⟨_, rfl⟩
      have x6 := pr6 hW2 hA2
      have f6 := Row.frozen hW2 517
      have v6 : IntKind.i64.wrap ((q1 : Int) + 1) = (q3 : Int) := by rw [IntKind.wrap_i64]; omega
      have hne : ¬ b = h := by omega
      have hbr : Row wc b 23 (Fd.cells (fa, fb)) := (hK2.block b (Row.lt HO.out.2.2.1) hne).trans HO.out.2.2.1
      have hfin := veil (show _ ∧ _ ∧ _ from ⟨set_to hW2 hA2 q3, Row.other hbr (a := ⟨h, 517, none⟩) hne (.int .i64 (q3 : Int)), (HO.out.2.2.2.trans hK2).trans (KeepP.setCell (st := fun k => k = h) rfl wc 517 (.int .i64 (q3 : Int)))⟩)
      have HL2 := veil hl2
      clear hW2 hK2 hbr hl2
      go_upto_region 5 with fail
      obtain ⟨w3, hw3⟩ : ∃ w3, wc.setCell ⟨h, 517, none⟩ (.int .i64 (q3 : Int)) = w3 := ⟨_, rfl⟩
      rw [hw3] at hfin
      rw [hw3]
      clear hw3 x6 f6
      go_wp2_with fail
      refine (wpIn_wide (n := 4)).1 ?_
      refine wpIn_region_any (by kernel_rfl) ?_
      refine anyIn_line2 (valT2 h s s1 (fa, fb)) (fun m W => (m ≤ 1 → Below w3.heap.size w3 W) ∧ (1 < m → PtR W h t.room s1 t.went A2 p1 q3 ∧ KeepP (fun k => k = h) w3 W)) [5, 9] dsT2 depT2 (by kernel_rfl) rfl (by decide) (by decide) ?ord ?inn ?h0 ?fix ?cal ?done
      case ord =>
        intro k i j h1 h2
        match k, h1, h2 with
        | 0, h1, h2 => obtain rfl := Option.some.inj h1; obtain rfl := Option.some.inj h2; exact .inl (by decide)
        | k + 1, _, h2 => simp at h2
      case inn => intro j hj; simp at hj; show j < 10; omega
      case h0 => exact ⟨fun _ => (Below.refl _ _).drew, fun h => absurd h (by omega)⟩
      case fix =>
        intro x W m ii d hR hm hdi hc hdep
        match ii, hm, hdi, hc, hdep with
        | 0, _, hdi, _, _ =>
          obtain rfl := Option.some.inj hdi
          exact OI_value rfl rfl (about_none (by intro c h; cases h)) (by intro c h; cases h) (.pointer (some ⟨h, 0, none⟩)) W (by kernel_rfl) ⟨rfl, rfl⟩
        | 1, _, hdi, _, hdep =>
          obtain rfl := Option.some.inj hdi
          rw [updV_self (show x 0 = _ from hdep 0 (by simp [depT2]))]
          exact OI_value rfl rfl (about_none (by intro c h; cases h)) (by intro c h; cases h) (.pointer (some ⟨h, 0, none⟩)) W (by kernel_rfl) ⟨rfl, rfl⟩
        | 2, _, hdi, _, hdep =>
          obtain rfl := Option.some.inj hdi
          rw [updV_self (show x 1 = _ from hdep 1 (by simp [depT2]))]
          exact OI_value rfl rfl (about_none (by intro c h; cases h)) (by intro c h; cases h) (.pointer (some ⟨h, 2, none⟩)) W (by kernel_rfl) ⟨rfl, rfl⟩
        | 3, hm, hdi, _, hdep =>
          obtain rfl := Option.some.inj hdi
          have hW := hR.1 (hm 1 9 rfl (by simp [depT2]))
          rw [updV_self (show x 2 = _ from hdep 2 (by simp [depT2]))]
          exact OI_value rfl rfl (about_none (by intro c h; cases h)) (by intro c h; cases h) (.int .i64 (s : Int)) W (lgRun_cell 3 _ ⟨h, 2, none⟩ _ _ rfl (by kernel_rfl) Try.underlying3 rfl W (pr2 (Row.below hfin.out.1 hW (Row.lt hfin.out.1)))) ⟨rfl, rfl⟩
        | 4, hm, hdi, _, _ =>
          obtain rfl := Option.some.inj hdi
          have hW := hR.1 (hm 1 9 rfl (by simp [depT2]))
          exact OI_value rfl rfl (about_none (by intro c h; cases h)) (by intro c h; cases h) (.agg (Fd.cells (fa, fb))) W (run_midT 23 _ b 0 (Fd.cells (fa, fb)).toList _ rfl (by kernel_rfl) Try.underlying23 rfl (by kernel_rfl) W (box_range (Row.below hfin.out.2.1 hW (Row.lt hfin.out.2.1)))) ⟨rfl, rfl⟩
        | 5, _, _, hc, _ => exact (hc (by simp)).elim
        | 6, _, hdi, _, hdep =>
          obtain rfl := Option.some.inj hdi
          rw [updV_self (show x 3 = _ from hdep 3 (by simp [depT2])), updV_self (show (updV x 3 _) 5 = _ from hdep 5 (by simp [depT2]))]
          exact OI_value rfl rfl (about_none (by intro c h; cases h)) (by intro c h; cases h) (.int .i64 (s1 : Int)) W (lgRun_addN _ _ _ _ s (sz (fa, fb)) s1 hs1 (by omega) rfl (by kernel_rfl) (by kernel_rfl) W) ⟨rfl, rfl⟩
        | 7, _, hdi, _, hdep =>
          obtain rfl := Option.some.inj hdi
          rw [updV_self (show x 0 = _ from hdep 0 (by simp [depT2]))]
          exact OI_value rfl rfl (about_none (by intro c h; cases h)) (by intro c h; cases h) (.pointer (some ⟨h, 0, none⟩)) W (by kernel_rfl) ⟨rfl, rfl⟩
        | 8, _, hdi, _, hdep =>
          obtain rfl := Option.some.inj hdi
          rw [updV_self (show x 7 = _ from hdep 7 (by simp [depT2]))]
          exact OI_value rfl rfl (about_none (by intro c h; cases h)) (by intro c h; cases h) (.pointer (some ⟨h, 2, none⟩)) W (by kernel_rfl) ⟨rfl, rfl⟩
        | 9, _, _, hc, _ => exact (hc (by simp)).elim
        | _ + 10, _, hdi, _, _ => simp [dsT2] at hdi
      case cal =>
        intro x W k ii d hR hk hdi hdep
        match k, hk, hR with
        | 0, hk, hR =>
          obtain rfl := Option.some.inj hk
          obtain rfl := Option.some.inj hdi
          rw [updV_self (show x 4 = _ from hdep 4 (by simp [depT2]))]
          have hW := hR.1 (by omega)
          refine OI_call rfl rfl (by intro c h; cases h) 34 #[.agg (Fd.cells (fa, fb))] (fun _ _ => trivial) (by kernel_rfl) (by decide) ?_
          refine (callsIn_wide.2 (tab_size1 (fa, fb) (by show fa.size + fb.size ≤ _; omega) W)).mono ?_
          rintro e w9 ⟨rfl, hb9⟩
          exact ⟨_, rfl, rfl, fun _ => hW.trans (hb9.mono hW.size), fun h => absurd h (by omega)⟩
        | 1, hk, hR =>
          obtain rfl := Option.some.inj hk
          obtain rfl := Option.some.inj hdi
          rw [updV_self (show x 8 = _ from hdep 8 (by simp [depT2])), updV_self (show (updV x 8 _) 6 = _ from hdep 6 (by simp [depT2]))]
          have hW := hR.1 (by omega)
          refine OI_skip rfl rfl (about_none (by intro c h; cases h)) (by intro c h; cases h) (W.setCell ⟨h, 2, none⟩ (.int .i64 (s1 : Int))) (lgRun_store 3 _ _ ⟨h, 2, none⟩ (.int .i64 (s1 : Int)) _ rfl rfl (by kernel_rfl) (by kernel_rfl) (by kernel_rfl) W (pr2 (Row.below hfin.out.1 hW (Row.lt hfin.out.1))) (Row.frozen (Row.below hfin.out.1 hW (Row.lt hfin.out.1)) 2)) ?_
          refine ⟨(put_none _ _).trans (put_far _ _ _ (by rw [puts_size]; exact Nat.le_of_ble_eq_true rfl)).symm, fun h => absurd h (by omega), fun _ => ⟨set_size (Row.below hfin.out.1 hW (Row.lt hfin.out.1)) s1, (KeepP.of_below hW).trans (KeepP.setCell (st := fun k => k = h) rfl _ _ _)⟩⟩
        | _ + 2, hk, _ => simp at hk
      case done =>
        intro W hR
        simp only [dsT2, putsV, valT2, Act.put, List.setIfInBounds_toArray, List.set_cons_succ, List.set_cons_zero, Nat.reduceAdd]
        obtain ⟨hW3, hK3⟩ := hR.2 (by decide)
        have hz : size (t.l ++ [(fa, fb)]) = s1 := by rw [size_append, hs2.out]; show s + (sz (fa, fb) + 0) = s1; omega
        have hend := veil (show ∃ A9 p9 q9, PtOk W h ⟨t.room, t.went, t.l ++ [(fa, fb)]⟩ A9 p9 q9 ∧ KeepP (fun k => k = h) w W from by
          refine ⟨A2, p1, q3, ⟨by rw [hz]; exact hW3, hA2, by simp; omega, by omega, ?_, by rw [hz]; omega, HO.out.1.rb, ?_⟩, hfin.out.2.2.trans hK3⟩
          · intro j hj
            exact HL2.out j (by simpa [hn] using hj)
          · have := H.out.2; unfold Tab.came at this ⊢; simp only [List.length_append, List.length_singleton]; omega)
        clear hW3 hK3 hR
        go_wp2_with fail
        go_end0
        exact ⟨rfl, hend.out⟩
end Tb
end Go.Proofs.Ytoajnhngcfjohaa

/-! The program's Add. -/
namespace Go.Proofs.Ytoajnhngcfjohaa
open Go Go.RowKit

namespace Tb
section
variable {P : Program} {a : Act} {o : Oper}
theorem lgRun_gtrN (t t' : TypeId) (x y : Operand) (m r : Nat) (c : Bool) (hc : decide (r < m) = c) (ho : o.op = .binOp .gtr t x y t') (hx : a.eval x = .int .i64 (m : Int)) (hy : a.eval y = .int .i64 (r : Int)) (W : World) :
    (execOp a.eval o).run P W = .ok (.value (.bool c)) W := by
  have hd : decide ((r : Int) < (m : Int)) = c := by rw [← hc]; simp
  unfold execOp
  simp only [ho, hx, hy]
  cases c with
  | true => have := of_decide_eq_true hd; go_simp
  | false => have := of_decide_eq_false hd; go_simp
end
theorem addE_no {t : Tab} {f : Fd} (h : t.room < sz f) : t.addE f = 6 ∧ t.add f = t := by unfold Tab.addE Tab.add; rw [if_pos h, if_pos h]; exact ⟨rfl, rfl⟩
theorem addE_yes {t : Tab} {f : Fd} (h : ¬ t.room < sz f) : t.addE f = 0 ∧ t.add f = ⟨t.room, t.went + gone (t.room - sz f) 0 t.l, t.l.drop (gone (t.room - sz f) 0 t.l) ++ [f]⟩ := by
  unfold Tab.addE Tab.add
  rw [if_neg h, if_neg h, gone_b _ _ (by omega)]
  exact ⟨rfl, rfl⟩
def depD1 : Nat → List Nat
  | 1 => [0]
  | 3 => [2]
  | 4 => [3]
  | 5 => [4]
  | 6 => [1, 5]
  | _ => []
def dsD1 : List Nat := [7, 8, 9, 10, 11, 12, 13]
def valD1 (h z r : Nat) (c : Bool) (fa fb : ByteArray) : Nat → Value
  | 0 => .agg (Fd.cells (fa, fb))
  | 1 => .int .i64 (z : Int)
  | 2 => .pointer (some ⟨h, 0, none⟩)
  | 3 => .pointer (some ⟨h, 0, none⟩)
  | 4 => .pointer (some ⟨h, 1, none⟩)
  | 5 => .int .i64 (r : Int)
  | 6 => .bool c
  | _ => undef
def depD2 : Nat → List Nat
  | 2 => [1]
  | 3 => [2]
  | 4 => [3]
  | 6 => [5]
  | 7 => [4, 6]
  | 8 => [0, 7, 6]
  | _ => []
def dsD2 : List Nat := [14, 15, 16, 17, 18, 19, 20, 21, 22]
def valD2 (h r z b1 : Nat) (fa fb : ByteArray) : Nat → Value
  | 0 => .pointer (some ⟨h, 0, none⟩)
  | 1 => .pointer (some ⟨h, 0, none⟩)
  | 2 => .pointer (some ⟨h, 0, none⟩)
  | 3 => .pointer (some ⟨h, 1, none⟩)
  | 4 => .int .i64 (r : Int)
  | 5 => .agg (Fd.cells (fa, fb))
  | 6 => .int .i64 (z : Int)
  | 7 => .int .i64 (b1 : Int)
  | 8 => .tuple #[]
  | _ => undef
set_option maxRecDepth 100000 in
set_option maxHeartbeats 4000000 in
theorem tab_add {w : World} {h : Nat} {t : Tab} {A : List Fd} {p q : Nat} (x : PtOk w h t A p q) (f : Fd) (hf : f.1.size + f.2.size ≤ 1000000000000000000) (hc : t.came + 1 ≤ 1000000000000) :
    Calls Try.prog 15 #[.pointer (some ⟨h, 0, none⟩), .agg f.cells] w fun e w' => e = .returned (.int .i64 (t.addE f : Nat)) ∧
      ∃ A' p' q', PtOk w' h (t.add f) A' p' q' ∧ KeepP (fun k => k = h) w w' := by
  obtain ⟨fa, fb⟩ := f
  have hz0 : sz (fa, fb) = fa.size + fb.size + 32 := rfl
  obtain ⟨z, hz⟩ : ∃ z, sz (fa, fb) = z := ⟨_, rfl⟩
  obtain ⟨r, hr⟩ : ∃ r, t.room = r := ⟨_, rfl⟩
  obtain ⟨c, hcd⟩ : ∃ c, decide (r < z) = c := ⟨_, rfl⟩
  have hrb : r ≤ 4096 := hr ▸ x.rb
  have hb : h < w.heap.size := Row.lt x.row
  obtain ⟨b, hbs⟩ : ∃ b, w.heap.size = b := ⟨_, rfl⟩
  have hfz : fa.size + fb.size ≤ 1000000000000000000 := hf
  rw [hz] at hz0
  have hsize : ∀ W, Calls Try.prog 34 #[.agg (Fd.cells (fa, fb))] W fun e w' => e = .returned (.int .i64 (z : Nat)) ∧ Below W.heap.size W w' := by
    intro W
    have := tab_size1 (fa, fb) hf W
    rw [hz] at this
    exact this
  clear hf
  have hadd := veil (show (c = true → t.addE (fa, fb) = 6 ∧ t.add (fa, fb) = t) ∧ (c = false → t.addE (fa, fb) = 0 ∧ t.add (fa, fb) = ⟨t.room, t.went + gone (r - z) 0 t.l, t.l.drop (gone (r - z) 0 t.l) ++ [(fa, fb)]⟩) from by
    refine ⟨fun e => ?_, fun e => ?_⟩
    · rw [e] at hcd
      exact addE_no (by rw [hr, hz]; exact of_decide_eq_true hcd)
    · rw [e] at hcd
      have := addE_yes (t := t) (f := (fa, fb)) (by rw [hr, hz]; exact of_decide_eq_false hcd)
      rw [hz, hr] at this
      rw [hr]
      exact this)
  have H := veil (show _ ∧ _ from ⟨x, hc⟩)
  clear x hc
  show Calls Try.prog 15 #[.pointer (some ⟨h, 0, none⟩), .agg #[.string fa, .string fb]] w _
  go_enter Try.func15, Try.ntmps15
  go_upto_region 1 with fail
  obtain ⟨w1, hw1⟩ : ∃ w1, w.alloc (.cells #[.string fa, .string fb] 23) = w1 := ⟨_, rfl⟩
  rw [hw1]
  have hB : Below w.heap.size w w1 := hw1 ▸ (Below.refl w.heap.size w).alloc (Nat.le_refl _) _
  have hbx : Row w1 b 23 (Fd.cells (fa, fb)) := by rw [← hw1, ← hbs]; exact Row.new w _ _
  have x1 : PtOk w1 h t A p q := H.out.1.below hB
  have H1 := veil (show _ ∧ _ ∧ _ ∧ _ from ⟨x1, hbx, hB, H.out.2⟩)
  have hhb : h < b := hbs ▸ hb
  clear x1 hbx hB hw1 hbs
  go_upto_region 3 with (go_at_call 32; refine (tab_none H1.out.1).mono ?_; rintro e1 w1 ⟨rfl, rfl⟩)
  go_cut [13] (fun c9 W => c9 = .bool c ∧ Below w1.heap.size w1 W)
  case first =>
    go_wp2_with fail
    refine (wpIn_wide (n := 4)).1 ?_
    refine wpIn_region_any (by kernel_rfl) ?_
    refine anyIn_line2 (valD1 h z r c fa fb) (fun m W => (m ≤ 0 → Below w1.heap.size w1 W) ∧ (0 < m → Below w1.heap.size w1 W)) [1] dsD1 depD1 (by kernel_rfl) rfl (by decide) (by decide) ?ord ?inn ?h0 ?fix ?cal ?done
    case ord =>
      intro k i j h1 h2
      simp at h2
    case inn => intro j hj; simp at hj; show j < 7; omega
    case h0 => exact ⟨fun _ => (Below.refl _ _).drew, fun h => absurd h (by omega)⟩
    case fix =>
      intro x W m ii d hR hm hdi hc hdep
      match ii, hm, hdi, hc, hdep with
      | 0, hm, hdi, _, _ =>
        obtain rfl := Option.some.inj hdi
        have hW := hR.1 (hm 0 1 rfl (by simp [depD1]))
        exact OI_value rfl rfl (about_none (by intro c h; cases h)) (by intro c h; cases h) (.agg (Fd.cells (fa, fb))) W (run_midT 23 _ b 0 (Fd.cells (fa, fb)).toList _ rfl (by kernel_rfl) Try.underlying23 rfl (by kernel_rfl) W (box_range (Row.below H1.out.2.1 hW (Row.lt H1.out.2.1)))) ⟨rfl, rfl⟩
      | 1, _, _, hc, _ => exact (hc (by simp)).elim
      | 2, _, hdi, _, _ =>
        obtain rfl := Option.some.inj hdi
        exact OI_value rfl rfl (about_none (by intro c h; cases h)) (by intro c h; cases h) (.pointer (some ⟨h, 0, none⟩)) W (by kernel_rfl) ⟨rfl, rfl⟩
      | 3, _, hdi, _, hdep =>
        obtain rfl := Option.some.inj hdi
        rw [updV_self (show x 2 = _ from hdep 2 (by simp [depD1]))]
        exact OI_value rfl rfl (about_none (by intro c h; cases h)) (by intro c h; cases h) (.pointer (some ⟨h, 0, none⟩)) W (by kernel_rfl) ⟨rfl, rfl⟩
      | 4, _, hdi, _, hdep =>
        obtain rfl := Option.some.inj hdi
        rw [updV_self (show x 3 = _ from hdep 3 (by simp [depD1]))]
        exact OI_value rfl rfl (about_none (by intro c h; cases h)) (by intro c h; cases h) (.pointer (some ⟨h, 1, none⟩)) W (by kernel_rfl) ⟨rfl, rfl⟩
      | 5, _, hdi, _, hdep =>
        obtain rfl := Option.some.inj hdi
        have hW : Below w1.heap.size w1 W := by
          rcases Nat.eq_zero_or_pos m with e | e
          · exact hR.1 (by omega)
          · exact hR.2 e
        rw [updV_self (show x 4 = _ from hdep 4 (by simp [depD1]))]
        exact OI_value rfl rfl (about_none (by intro c h; cases h)) (by intro c h; cases h) (.int .i64 (r : Int)) W (lgRun_cell 3 _ ⟨h, 1, none⟩ _ _ rfl (by kernel_rfl) Try.underlying3 rfl W (hr ▸ pr1 (Row.below H1.out.1.row hW (Row.lt H1.out.1.row)))) ⟨rfl, rfl⟩
      | 6, _, hdi, _, hdep =>
        obtain rfl := Option.some.inj hdi
        rw [updV_self (show x 1 = _ from hdep 1 (by simp [depD1])), updV_self (show (updV x 1 _) 5 = _ from hdep 5 (by simp [depD1]))]
        exact OI_value rfl rfl (about_none (by intro c h; cases h)) (by intro c h; cases h) (.bool c) W (lgRun_gtrN _ _ _ _ z r c hcd rfl (by kernel_rfl) (by kernel_rfl) W) ⟨rfl, rfl⟩
      | _ + 7, _, hdi, _, _ => simp [dsD1] at hdi
    case cal =>
      intro x W k ii d hR hk hdi hdep
      match k, hk, hR with
      | 0, hk, hR =>
        obtain rfl := Option.some.inj hk
        obtain rfl := Option.some.inj hdi
        rw [updV_self (show x 0 = _ from hdep 0 (by simp [depD1]))]
        have hW := hR.1 (by omega)
        refine OI_call rfl rfl (by intro c h; cases h) 34 #[.agg (Fd.cells (fa, fb))] (fun _ _ => trivial) (by kernel_rfl) (by decide) ?_
        refine (callsIn_wide.2 (hsize W)).mono ?_
        rintro e w9 ⟨rfl, hb9⟩
        exact ⟨_, rfl, rfl, fun h => absurd h (by omega), fun _ => hW.trans (hb9.mono hW.size)⟩
      | _ + 1, hk, _ => simp at hk
    case done =>
      intro W hR
      simp only [dsD1, putsV, valD1, Act.put, List.setIfInBounds_toArray, List.set_cons_succ, List.set_cons_zero, Nat.reduceAdd]
      have HR := veil (hR.2 (by decide))
      clear hR
      go_wp2_with fail
      go_meet
      exact ⟨rfl, HR.out⟩
  case rest =>
    obtain ⟨rfl, hB2⟩ := hcut
    have H2 := veil (show _ ∧ _ ∧ _ from ⟨H1.out.1.below hB2, Row.below H1.out.2.1 hB2 (Row.lt H1.out.2.1), (KeepP.of_below (st := fun k => k = h) H1.out.2.2.1).trans (KeepP.of_below hB2)⟩)
    clear hB2
    cases c with
    | true =>
      go_wp2_with fail
      go_ret
      rw [(hadd.out.1 (by simp)).1, (hadd.out.1 (by simp)).2]
      exact ⟨rfl, ⟨A, p, q, H2.out.1⟩, H2.out.2.2⟩
    | false =>
      have hle : z ≤ r := Nat.not_lt.1 (of_decide_eq_false hcd)
      obtain ⟨b1, hb1⟩ : ∃ b1, r - z = b1 := ⟨_, rfl⟩
      have hb2 : z + b1 = r := by omega
      rw [hb1] at hadd
      go_upto_region 5 with fail
      go_cut [] (fun W => ∃ A' p', PtOk W h ⟨t.room, t.went + gone b1 0 t.l, t.l.drop (gone b1 0 t.l)⟩ A' p' q ∧ KeepP (fun k => k = h) wc W)
      case first =>
        go_wp2_with fail
        refine (wpIn_wide (n := 4)).1 ?_
        refine wpIn_region_any (by kernel_rfl) ?_
        refine anyIn_line2 (valD2 h r z b1 fa fb) (fun m W => (m ≤ 1 → Below wc.heap.size wc W) ∧ (1 < m → ∃ A' p', PtOk W h ⟨t.room, t.went + gone b1 0 t.l, t.l.drop (gone b1 0 t.l)⟩ A' p' q ∧ KeepP (fun k => k = h) wc W)) [6, 8] dsD2 depD2 (by kernel_rfl) rfl (by decide) (by decide) ?ord ?inn ?h0 ?fix ?cal ?done
        case ord =>
          intro k i j h1 h2
          match k, h1, h2 with
          | 0, h1, h2 => obtain rfl := Option.some.inj h1; obtain rfl := Option.some.inj h2; exact .inl (by decide)
          | k + 1, _, h2 => simp at h2
        case inn => intro j hj; simp at hj; show j < 9; omega
        case h0 => exact ⟨fun _ => (Below.refl _ _).drew, fun h => absurd h (by omega)⟩
        case fix =>
          intro x W m ii d hR hm hdi hc hdep
          match ii, hm, hdi, hc, hdep with
          | 0, _, hdi, _, _ =>
            obtain rfl := Option.some.inj hdi
            exact OI_value rfl rfl (about_none (by intro c h; cases h)) (by intro c h; cases h) (.pointer (some ⟨h, 0, none⟩)) W (by kernel_rfl) ⟨rfl, rfl⟩
          | 1, _, hdi, _, _ =>
            obtain rfl := Option.some.inj hdi
            exact OI_value rfl rfl (about_none (by intro c h; cases h)) (by intro c h; cases h) (.pointer (some ⟨h, 0, none⟩)) W (by kernel_rfl) ⟨rfl, rfl⟩
          | 2, _, hdi, _, hdep =>
            obtain rfl := Option.some.inj hdi
            rw [updV_self (show x 1 = _ from hdep 1 (by simp [depD2]))]
            exact OI_value rfl rfl (about_none (by intro c h; cases h)) (by intro c h; cases h) (.pointer (some ⟨h, 0, none⟩)) W (by kernel_rfl) ⟨rfl, rfl⟩
          | 3, _, hdi, _, hdep =>
            obtain rfl := Option.some.inj hdi
            rw [updV_self (show x 2 = _ from hdep 2 (by simp [depD2]))]
            exact OI_value rfl rfl (about_none (by intro c h; cases h)) (by intro c h; cases h) (.pointer (some ⟨h, 1, none⟩)) W (by kernel_rfl) ⟨rfl, rfl⟩
          | 4, _, hdi, _, hdep =>
            obtain rfl := Option.some.inj hdi
            have hcl : W.cell? ⟨h, 1, none⟩ = some (.int .i64 (r : Int)) := by
              rcases Nat.lt_or_ge 1 m with e | e
              · obtain ⟨A9, p9, hO9, _⟩ := hR.2 e
                exact hr ▸ hO9.c1
              · exact hr ▸ (H2.out.1.below (hR.1 e)).c1
            rw [updV_self (show x 3 = _ from hdep 3 (by simp [depD2]))]
            exact OI_value rfl rfl (about_none (by intro c h; cases h)) (by intro c h; cases h) (.int .i64 (r : Int)) W (lgRun_cell 3 _ ⟨h, 1, none⟩ _ _ rfl (by kernel_rfl) Try.underlying3 rfl W (hcl)) ⟨rfl, rfl⟩
          | 5, hm, hdi, _, _ =>
            obtain rfl := Option.some.inj hdi
            have hW := hR.1 (by have := hm 0 6 rfl (by simp [depD2]); omega)
            exact OI_value rfl rfl (about_none (by intro c h; cases h)) (by intro c h; cases h) (.agg (Fd.cells (fa, fb))) W (run_midT 23 _ b 0 (Fd.cells (fa, fb)).toList _ rfl (by kernel_rfl) Try.underlying23 rfl (by kernel_rfl) W (box_range (Row.below H2.out.2.1 hW (Row.lt H2.out.2.1)))) ⟨rfl, rfl⟩
          | 6, _, _, hc, _ => exact (hc (by simp)).elim
          | 7, _, hdi, _, hdep =>
            obtain rfl := Option.some.inj hdi
            rw [updV_self (show x 4 = _ from hdep 4 (by simp [depD2])), updV_self (show (updV x 4 _) 6 = _ from hdep 6 (by simp [depD2]))]
            exact OI_value rfl rfl (about_none (by intro c h; cases h)) (by intro c h; cases h) (.int .i64 (b1 : Int)) W (lgRun_sub _ _ _ _ r z b1 hb2 (by omega) rfl (by kernel_rfl) (by kernel_rfl) W) ⟨rfl, rfl⟩
          | 8, _, _, hc, _ => exact (hc (by simp)).elim
          | _ + 9, _, hdi, _, _ => simp [dsD2] at hdi
        case cal =>
          intro x W k ii d hR hk hdi hdep
          match k, hk, hR with
          | 0, hk, hR =>
            obtain rfl := Option.some.inj hk
            obtain rfl := Option.some.inj hdi
            rw [updV_self (show x 5 = _ from hdep 5 (by simp [depD2]))]
            have hW := hR.1 (by omega)
            refine OI_call rfl rfl (by intro c h; cases h) 34 #[.agg (Fd.cells (fa, fb))] (fun _ _ => trivial) (by kernel_rfl) (by decide) ?_
            refine (callsIn_wide.2 (hsize W)).mono ?_
            rintro e w9 ⟨rfl, hb9⟩
            exact ⟨_, rfl, rfl, fun _ => hW.trans (hb9.mono hW.size), fun h => absurd h (by omega)⟩
          | 1, hk, hR =>
            obtain rfl := Option.some.inj hk
            obtain rfl := Option.some.inj hdi
            rw [updV_self (show x 0 = _ from hdep 0 (by simp [depD2])), updV_self (show (updV x 0 _) 7 = _ from hdep 7 (by simp [depD2]))]
            have hW := hR.1 (by omega)
            refine OI_call rfl rfl (by intro c h; cases h) 35 #[.pointer (some ⟨h, 0, none⟩), .int .i64 (b1 : Int)] (fun _ _ => trivial) (by kernel_rfl) (by decide) ?_
            refine (callsIn_wide.2 (tab_shrink (H2.out.1.below hW) b1 (by omega))).mono ?_
            rintro e w9 ⟨rfl, A9, p9, hO9, hK9⟩
            exact ⟨_, rfl, rfl, fun h => absurd h (by omega), fun _ => ⟨A9, p9, hO9, (KeepP.of_below hW).trans hK9⟩⟩
          | _ + 2, hk, _ => simp at hk
        case done =>
          intro W hR
          simp only [dsD2, putsV, valD2, Act.put, List.setIfInBounds_toArray, List.set_cons_succ, List.set_cons_zero, Nat.reduceAdd]
          have HR := veil (hR.2 (by decide))
          clear hR
          go_wp2_with fail
          go_meet
          exact HR.out
      case rest =>
        obtain ⟨A3, p3, hO3, hK3⟩ := hcut
        have hne : ¬ b = h := by omega
        have hbr : Row wc b 23 (Fd.cells (fa, fb)) := (hK3.block b (Row.lt H2.out.2.1) hne).trans H2.out.2.1
        have hroom : size (t.l.drop (gone b1 0 t.l)) + z ≤ 4096 := by
          have := gone_room b1 0 (Nat.zero_le _) t.l
          omega
        have hcame : (⟨t.room, t.went + gone b1 0 t.l, t.l.drop (gone b1 0 t.l)⟩ : Tab).came + 1 ≤ 1000000000000 := by
          have h1 := H.out.2
          have h2 := gone_le b1 0 t.l
          unfold Tab.came at h1 ⊢
          simp only [List.length_drop]
          omega
        have htk := veil (tab_take hO3 (fa, fb) (by rw [hz]; exact hroom) hcame)
        have b0 : wc.cell? ⟨b, 0, none⟩ = some (.string fa) := Row.cell hbr 0
        have b1 : wc.cell? ⟨b, 1, none⟩ = some (.string fb) := Row.cell hbr 1
        have hbr' : wc.heap[b]? = some (.cells #[.string fa, .string fb] 23 (0, 0)) := hbr
        clear hO3 hroom hcame hbr
        go_wp2_with (go_at_call 36; refine htk.out.mono ?_; rintro e9 w9 ⟨rfl, A9, p9, q9, hO9, hK9⟩)
        go_ret
        rw [(hadd.out.2 (by simp)).1, (hadd.out.2 (by simp)).2]
        exact ⟨rfl, A9, p9, q9, hO9, (H2.out.2.2.trans hK3).trans hK9⟩
end Tb
end Go.Proofs.Ytoajnhngcfjohaa

/-! The fixed fields, out of the document's own list. -/
namespace Go.Proofs.Ytoajnhngcfjohaa
open Go Go.RowKit

namespace Tb
/-- The operations of a function's region. -/
def regOf (id : Nat) : Code → Option (Array Oper)
  | .region k ops _ => if k = id then some ops else none
  | .seq a b => (regOf id a).orElse fun _ => regOf id b
  | .cond _ a b => (regOf id a).orElse fun _ => regOf id b
  | .block _ a => regOf id a
  | .loop a => regOf id a
  | .scope a => regOf id a
  | _ => none
noncomputable def opsOf (id : Nat) (f : Func) : Array Oper := (f.body.bind (regOf id)).getD #[]
/-- The field that an operation builds. -/
def fdOf (o : Oper) : Option Fd :=
  match o.op with
  | .build _ ps =>
    match ps.toList with
    | [(0, .const (.string a)), (1, .const (.string b))] => some (a, b)
    | _ => none
  | _ => none
/-- The fixed fields. -/
noncomputable def fixL : List Fd := (opsOf 1 Try.f27).toList.filterMap fdOf
theorem fixL_length : fixL.length = 99 := by kernel_rfl
end Tb
end Go.Proofs.Ytoajnhngcfjohaa
