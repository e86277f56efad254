/-
  The program's move: those that are there go to the first places.
-/
import Derived.Test.YtoajnhngcfjohaaTbShr
import Derived.Test.YtoajnhngcfjohaaLgToolT
namespace Go.Proofs.Ytoajnhngcfjohaa
open Go Go.RowKit

namespace Tb
theorem run_zeroF (w : World) : (zeroValue 23).run Try.prog w = .ok (.agg fd0.cells) w := by
  obtain ⟨i0, h1, h2, _⟩ := fdP_info
  simp [zeroValue, typeInfo, h1, h2]
theorem zc_len (zc : Array Value) (n : Nat) : (Builtin.zeroCells zc n).toList.length = n * zc.size := by simp [Builtin.zeroCells]
theorem zeroCells_fd (m : Nat) : (Builtin.zeroCells (Value.agg fd0.cells).cells m).toList = fds (List.replicate m fd0) := by
  apply List.ext_getElem?
  intro i
  have hl : (fds (List.replicate m fd0)).length = m * 2 := by rw [fds_length, List.length_replicate]
  rcases Nat.lt_or_ge i (m * 2) with h | h
  · have hz : (Builtin.zeroCells (Value.agg fd0.cells).cells m).toList[i]? = some (.string ⟨#[]⟩) := by
      have hs : (Value.agg fd0.cells).cells.size = 2 := rfl
      have h01 : i % 2 = 0 ∨ i % 2 = 1 := by omega
      simp only [Builtin.zeroCells, hs]
      rcases h01 with e | e <;> simp [e, h] <;> rfl
    rw [hz]
    have hi : i / 2 < m := by omega
    have h2 := fds_get (List.replicate m fd0) (i / 2) fd0 (i % 2) (by simp [hi]) (Nat.mod_lt _ (by decide))
    rw [show i / 2 * 2 + i % 2 = i by omega] at h2
    rw [h2]
    have h01 : i % 2 = 0 ∨ i % 2 = 1 := by omega
    rcases h01 with e | e <;> rw [e] <;> rfl
  · rw [List.getElem?_eq_none (by rw [zc_len]; exact h), List.getElem?_eq_none (by rw [hl]; exact h)]
section
variable {w : World} {h r s g : Nat} {A : List Fd} {p q : Nat}
theorem pt_splice (j : Nat) (B : List Fd) (hj : j + B.length ≤ A.length) : ((ptC r s g A p q).toList.take (4 + j * 2) ++ fds B ++ (ptC r s g A p q).toList.drop (4 + j * 2 + (fds B).length)).toArray = ptC r s g (A.take j ++ B ++ A.drop (j + B.length)) p q := by
  have lB := fds_length B
  have lA := fds_length A
  have hs : (ptC r s g A p q).toList = ptH r s g ++ (fds A ++ ptT p q) := rfl
  have e1 : (ptH r s g ++ (fds A ++ ptT p q)).take (4 + j * 2) = ptH r s g ++ fds (A.take j) := by
    rw [show 4 + j * 2 = (ptH r s g).length + j * 2 from rfl, List.take_length_add_append, List.take_append_of_le_length (by omega), fds_take]
  have e2 : (ptH r s g ++ (fds A ++ ptT p q)).drop (4 + j * 2 + (fds B).length) = fds (A.drop (j + B.length)) ++ ptT p q := by
    rw [lB, show 4 + j * 2 + B.length * 2 = (ptH r s g).length + (j + B.length) * 2 by simp [ptH]; omega, List.drop_length_add_append, List.drop_append_of_le_length (by omega), fds_drop]
  rw [hs, e1, e2]
  unfold ptC
  rw [fds_append, fds_append]
  simp only [List.append_assoc]
theorem set_fieldsRow (x : PtR w h r s g A p q) (j : Nat) (B : List Fd) (hj : j + B.length ≤ A.length) : PtR (w.setRow h ((ptC r s g A p q).toList.take (4 + j * 2) ++ fds B ++ (ptC r s g A p q).toList.drop (4 + j * 2 + (fds B).length)).toArray) h r s g (A.take j ++ B ++ A.drop (j + B.length)) p q := by
  have := Row.put x ((ptC r s g A p q).toList.take (4 + j * 2) ++ fds B ++ (ptC r s g A p q).toList.drop (4 + j * 2 + (fds B).length)).toArray
  unfold PtR
  rw [← pt_splice j B hj]
  exact this
theorem copy_there (x : PtR w h r s g A p q) (hA : A.length = 256) (l : List Fd) (hl : ∀ j, j < l.length → A[p + j]? = l[j]?) (hq : p + l.length ≤ 256) (ty : TypeId) :
    (Builtin.copy_ #[49, 49] ty #[.slice (some ⟨h, 4, none⟩) 256 256, .slice (some ⟨h, thA p l.length, none⟩) l.length l.length]).run Try.prog w =
      .ok (.int .i64 (l.length : Int)) (w.setRow h ((ptC r s g A p q).toList.take (4 + 0 * 2) ++ fds l ++ (ptC r s g A p q).toList.drop (4 + 0 * 2 + (fds l).length)).toArray) := by
  have hm : Nat.min l.length 256 = l.length := Nat.min_eq_left (by omega)
  have h1 := lgRun_copy (P := Try.prog) w 49 49 ty 23 h 4 256 256 ⟨h, thA p l.length, none⟩ l.length l.length 2 (ptC r s g A p q) 60 (fds l)
    Try.underlying49 fieldSize x (by rw [hm, fds_length]) (by
      intro j v hv
      have hj := (List.getElem?_eq_some_iff.1 hv).1
      rw [fds_length] at hj
      have hne : ¬ l.length = 0 := by omega
      unfold thA
      rw [if_neg hne]
      have hj2 : j / 2 < l.length := by omega
      have hf := prF x ((hl (j / 2) hj2).trans (List.getElem?_eq_getElem hj2))
      have e := fds_get l (j / 2) l[j / 2] (j % 2) (List.getElem?_eq_getElem hj2) (Nat.mod_lt _ (by decide))
      rw [show j / 2 * 2 + j % 2 = j by omega, hv] at e
      have := hf (j % 2) v e.symm
      rw [Addr.add_mid, show 4 + p * 2 + j = 4 + (p + j / 2) * 2 + j % 2 by omega]
      exact this) (by rw [ptC_size hA, fds_length]; omega) (fds_one _)
  rw [hm] at h1
  exact h1
theorem lgRun_slArr {P : Program} {a : Act} {o : Oper} {e : TypeId} {z N : Nat} (t : TypeId) (x lo : Operand) (g off j : Nat) (ho : o.op = .slice t x (some lo) none none) (hx : a.eval x = .pointer (some ⟨g, off, none⟩)) (hlo : a.eval lo = .int .i64 (j : Int))
    (hu : P.underlying t = some (.array N e)) (hs : (P.info? e).map (·.size) = some z) (h1 : j < N) (W : World) : (execOp a.eval o).run P W = .ok (.value (.slice (some ⟨g, off + j * z, none⟩) (N - j) (N - j))) W := by
  have hsz : (sizeOf e).run P W = .ok z W := by
    cases hq : P.info? e with
    | none => simp [hq] at hs
    | some i =>
      have : i.size = z := by simpa [hq] using hs
      simp [sizeOf, typeInfo, hq, this]
  unfold execOp
  simp [ho, hx, hlo, Instr.sliceAt, Instr.sliceBounds, Instr.sliceBound, asIntOf, Instr.sureAddr, run_underlying hu, hsz, Nat.le_of_lt h1, Addr.add_mid]
  intro e3
  omega
theorem lgRun_clear {P : Program} {a : Act} {o : Oper} (t : TypeId) (s : Operand) (ho : o.op = .call { callee := .builtin .clear, args := #[s], argTypes := #[t] }) (vs : Value) (hs : a.eval s = vs)
    (v' : Value) (W W' : World) (hr : (Builtin.clear_ #[t] o.type #[vs]).run P W = .ok v' W') : (execOp a.eval o).run P W = .ok (.value v') W' := by
  unfold execOp
  simp only [ho, resolve, invoke, builtin, Sem.run_bind, Sem.run_pure, Result.andThen_ok, List.map_toArray, List.map_cons, List.map_nil, hs, hr]
theorem clear_rest (x : PtR w h r s g A p q) (hA : A.length = 256) (n : Nat) (hn : n < 256) (ty : TypeId) :
    (Builtin.clear_ #[49] ty #[.slice (some ⟨h, 4 + n * 2, none⟩) (256 - n) (256 - n)]).run Try.prog w =
      .ok (.tuple #[]) (w.setRow h ((ptC r s g A p q).toList.take (4 + n * 2) ++ fds (List.replicate (256 - n) fd0) ++ (ptC r s g A p q).toList.drop (4 + n * 2 + (fds (List.replicate (256 - n) fd0)).length)).toArray) := by
  obtain ⟨k, hk⟩ : ∃ k, 256 - n = k + 1 := ⟨255 - n, by omega⟩
  have hz := zeroCells_fd (256 - n)
  have hst := run_storeCells_at Try.prog h (4 + n * 2) 60 (fds (List.replicate (256 - n) fd0)) 0 (ptC r s g A p q) w x (by rw [ptC_size hA, fds_length, List.length_replicate]; omega) (fds_one _)
  rw [Nat.add_zero] at hst
  obtain ⟨W', hW'⟩ : ∃ W', w.setRow h ((ptC r s g A p q).toList.take (4 + n * 2) ++ fds (List.replicate (256 - n) fd0) ++ (ptC r s g A p q).toList.drop (4 + n * 2 + (fds (List.replicate (256 - n) fd0)).length)).toArray = W' := ⟨_, rfl⟩
  rw [hW'] at hst ⊢
  rw [← hz, hk] at hst
  rw [hk]
  have h0 := run_zeroF
  generalize Value.agg fd0.cells = zv at h0 hst
  simp [Builtin.clear_, run_underlying Try.underlying49, h0, hst]
end
def depM1 : Nat → List Nat
  | 3 => [2]
  | 4 => [3]
  | 5 => [4]
  | 7 => [6]
  | 8 => [5, 7]
  | 9 => [0, 8]
  | 10 => [9]
  | 11 => [10, 8]
  | 12 => [1, 11]
  | 13 => [12]
  | 14 => [13, 8, 11]
  | _ => []
def dsM1 : List Nat := [2, 3, 4, 5, 6, 7, 8, 9, 10, 11, 12, 100000, 13, 14, 100001]
def valM1 (h p n : Nat) : Nat → Value
  | 0 => .pointer (some ⟨h, 0, none⟩)
  | 1 => .pointer (some ⟨h, 0, none⟩)
  | 2 => .pointer (some ⟨h, 0, none⟩)
  | 3 => .pointer (some ⟨h, 0, none⟩)
  | 4 => .pointer (some ⟨h, 4, none⟩)
  | 5 => .slice (some ⟨h, 4, none⟩) 256 256
  | 6 => .pointer (some ⟨h, 0, none⟩)
  | 7 => .slice (some ⟨h, thA p n, none⟩) n n
  | 8 => .int .i64 (n : Int)
  | 9 => .pointer (some ⟨h, 0, none⟩)
  | 10 => .pointer (some ⟨h, 516, none⟩)
  | 11 => undef
  | 12 => .pointer (some ⟨h, 0, none⟩)
  | 13 => .pointer (some ⟨h, 517, none⟩)
  | 14 => undef
  | _ => undef
def depM2 : Nat → List Nat
  | 1 => [0]
  | 2 => [1]
  | 4 => [3]
  | 5 => [4]
  | 6 => [5]
  | 7 => [2, 6]
  | 8 => [7]
  | _ => []
def dsM2 : List Nat := [15, 16, 17, 18, 19, 20, 21, 22, 100000]
def valM2 (h n : Nat) : Nat → Value
  | 0 => .pointer (some ⟨h, 0, none⟩)
  | 1 => .pointer (some ⟨h, 0, none⟩)
  | 2 => .pointer (some ⟨h, 4, none⟩)
  | 3 => .pointer (some ⟨h, 0, none⟩)
  | 4 => .pointer (some ⟨h, 0, none⟩)
  | 5 => .pointer (some ⟨h, 517, none⟩)
  | 6 => .int .i64 (n : Int)
  | 7 => .slice (some ⟨h, 4 + n * 2, none⟩) (256 - n) (256 - n)
  | 8 => .tuple #[]
  | _ => undef

set_option maxRecDepth 100000 in
set_option maxHeartbeats 4000000 in
theorem tab_move {w : World} {h : Nat} {t : Tab} {A : List Fd} {p q : Nat} (x : PtOk w h t A p q) (n : Nat) (hn : t.l.length = n) (hn1 : n ≤ 128) :
    Calls Try.prog 38 #[.pointer (some ⟨h, 0, none⟩)] w fun e w' => e = .returned (.tuple #[]) ∧
      ∃ A', PtOk w' h t A' 0 n ∧ KeepP (fun k => k = h) w w' := by
  obtain ⟨A1, hA1⟩ : ∃ A1, A.take 0 ++ t.l ++ A.drop (0 + t.l.length) = A1 := ⟨_, rfl⟩
  obtain ⟨s, hs⟩ : ∃ s, size t.l = s := ⟨_, rfl⟩
  have hA := x.al
  have hpq := x.pq
  have hq1 := x.q1
  have lA1 : A1.length = 256 := by rw [← hA1]; simp; omega
  have hrow : PtR w h t.room s t.went A p q := hs ▸ x.row
  have hl1 : ∀ j, j < n → A1[j]? = t.l[j]? := by
    intro j hj
    rw [← hA1, List.take_zero, List.nil_append, List.getElem?_append_left (by omega)]
  have H := veil (show _ ∧ _ ∧ _ from ⟨x, hrow, hA1⟩)
  have HL := veil hl1
  clear x hrow hA1 hl1
  go_enter Try.func38, Try.ntmps38
  go_upto_region 0 with fail
  go_cut [] (fun W => PtR W h t.room s t.went A1 0 n ∧ KeepP (fun k => k = h) w W)
  case first =>
    refine (wpIn_wide (n := 4)).1 ?_
    refine wpIn_region_any (by kernel_rfl) ?_
    refine anyIn_line2 (valM1 h p n) (fun m W => (m ≤ 1 → Below w.heap.size w W) ∧ (m = 2 → PtR W h t.room s t.went A1 p q ∧ KeepP (fun k => k = h) w W) ∧ (m = 3 → PtR W h t.room s t.went A1 0 q ∧ KeepP (fun k => k = h) w W) ∧ (m = 4 → PtR W h t.room s t.went A1 0 n ∧ KeepP (fun k => k = h) w W)) [7, 8, 11, 14] dsM1 depM1 (by kernel_rfl) rfl (by decide) (by decide) ?ord ?inn ?h0 ?fix ?cal ?done
    case ord =>
      intro k i j h1 h2
      match k, h1, h2 with
      | 0, h1, h2 => obtain rfl := Option.some.inj h1; obtain rfl := Option.some.inj h2; exact .inl (by decide)
      | 1, h1, h2 => obtain rfl := Option.some.inj h1; obtain rfl := Option.some.inj h2; exact .inl (by decide)
      | 2, h1, h2 => obtain rfl := Option.some.inj h1; obtain rfl := Option.some.inj h2; exact .inl (by decide)
      | k + 3, _, h2 => simp at h2
    case inn => intro j hj; simp at hj; show j < 15; omega
    case h0 => exact ⟨fun _ => (Below.refl _ _).drew, fun h => absurd h (by omega), fun h => absurd h (by omega), fun h => absurd h (by omega)⟩
    case fix =>
      intro x W m ii d hR hm hdi hc hdep
      match ii, hm, hdi, hc, hdep with
      | 0, _, hdi, _, _ =>
        obtain rfl := Option.some.inj hdi
        exact OI_value rfl rfl (about_none (by intro c h; cases h)) (by intro c h; cases h) (.pointer (some ⟨h, 0, none⟩)) W (by kernel_rfl) ⟨rfl, rfl⟩
      | 1, _, hdi, _, _ =>
        obtain rfl := Option.some.inj hdi
        exact OI_value rfl rfl (about_none (by intro c h; cases h)) (by intro c h; cases h) (.pointer (some ⟨h, 0, none⟩)) W (by kernel_rfl) ⟨rfl, rfl⟩
      | 2, _, hdi, _, _ =>
        obtain rfl := Option.some.inj hdi
        exact OI_value rfl rfl (about_none (by intro c h; cases h)) (by intro c h; cases h) (.pointer (some ⟨h, 0, none⟩)) W (by kernel_rfl) ⟨rfl, rfl⟩
      | 3, _, hdi, _, hdep =>
        obtain rfl := Option.some.inj hdi
        rw [updV_self (show x 2 = _ from hdep 2 (by simp [depM1]))]
        exact OI_value rfl rfl (about_none (by intro c h; cases h)) (by intro c h; cases h) (.pointer (some ⟨h, 0, none⟩)) W (by kernel_rfl) ⟨rfl, rfl⟩
      | 4, _, hdi, _, hdep =>
        obtain rfl := Option.some.inj hdi
        rw [updV_self (show x 3 = _ from hdep 3 (by simp [depM1]))]
        exact OI_value rfl rfl (about_none (by intro c h; cases h)) (by intro c h; cases h) (.pointer (some ⟨h, 4, none⟩)) W (by kernel_rfl) ⟨rfl, rfl⟩
      | 5, _, hdi, _, hdep =>
        obtain rfl := Option.some.inj hdi
        rw [updV_self (show x 4 = _ from hdep 4 (by simp [depM1]))]
        exact OI_value rfl rfl (about_none (by intro c h; cases h)) (by intro c h; cases h) (.slice (some ⟨h, 4, none⟩) 256 256) W (by kernel_rfl) ⟨rfl, rfl⟩
      | 6, _, hdi, _, _ =>
        obtain rfl := Option.some.inj hdi
        exact OI_value rfl rfl (about_none (by intro c h; cases h)) (by intro c h; cases h) (.pointer (some ⟨h, 0, none⟩)) W (by kernel_rfl) ⟨rfl, rfl⟩
      | 7, _, _, hc, _ => exact (hc (by simp)).elim
      | 8, _, _, hc, _ => exact (hc (by simp)).elim
      | 9, _, hdi, _, hdep =>
        obtain rfl := Option.some.inj hdi
        rw [updV_self (show x 0 = _ from hdep 0 (by simp [depM1])), updV_self (show (updV x 0 _) 8 = _ from hdep 8 (by simp [depM1]))]
        exact OI_value rfl rfl (about_none (by intro c h; cases h)) (by intro c h; cases h) (.pointer (some ⟨h, 0, none⟩)) W (by kernel_rfl) ⟨rfl, rfl⟩
      | 10, _, hdi, _, hdep =>
        obtain rfl := Option.some.inj hdi
        rw [updV_self (show x 9 = _ from hdep 9 (by simp [depM1]))]
        exact OI_value rfl rfl (about_none (by intro c h; cases h)) (by intro c h; cases h) (.pointer (some ⟨h, 516, none⟩)) W (by kernel_rfl) ⟨rfl, rfl⟩
      | 11, _, _, hc, _ => exact (hc (by simp)).elim
      | 12, _, hdi, _, hdep =>
        obtain rfl := Option.some.inj hdi
        rw [updV_self (show x 1 = _ from hdep 1 (by simp [depM1])), updV_self (show (updV x 1 _) 11 = _ from hdep 11 (by simp [depM1]))]
        exact OI_value rfl rfl (about_none (by intro c h; cases h)) (by intro c h; cases h) (.pointer (some ⟨h, 0, none⟩)) W (by kernel_rfl) ⟨rfl, rfl⟩
      | 13, _, hdi, _, hdep =>
        obtain rfl := Option.some.inj hdi
        rw [updV_self (show x 12 = _ from hdep 12 (by simp [depM1]))]
        exact OI_value rfl rfl (about_none (by intro c h; cases h)) (by intro c h; cases h) (.pointer (some ⟨h, 517, none⟩)) W (by kernel_rfl) ⟨rfl, rfl⟩
      | 14, _, _, hc, _ => exact (hc (by simp)).elim
      | _ + 15, _, hdi, _, _ => simp [dsM1] at hdi
    case cal =>
      intro x W k ii d hR hk hdi hdep
      match k, hk, hR with
      | 0, hk, hR =>
        obtain rfl := Option.some.inj hk
        obtain rfl := Option.some.inj hdi
        rw [updV_self (show x 6 = _ from hdep 6 (by simp [depM1]))]
        have hW := hR.1 (by omega)
        refine OI_call rfl rfl (by intro c h; cases h) 33 #[.pointer (some ⟨h, 0, none⟩)] (fun _ _ => trivial) (by kernel_rfl) (by decide) ?_
        refine (callsIn_wide.2 (tab_there (H.out.1.below hW) n hn)).mono ?_
        rintro e w9 ⟨rfl, m9, rfl⟩
        exact ⟨_, rfl, rfl, fun _ => below_drewN hW _, fun h => absurd h (by omega), fun h => absurd h (by omega), fun h => absurd h (by omega)⟩
      | 1, hk, hR =>
        obtain rfl := Option.some.inj hk
        obtain rfl := Option.some.inj hdi
        rw [updV_self (show x 5 = _ from hdep 5 (by simp [depM1])), updV_self (show (updV x 5 _) 7 = _ from hdep 7 (by simp [depM1]))]
        have hW := hR.1 (by omega)
        have hr := Row.below H.out.2.1 hW (Row.lt H.out.2.1)
        have hc := copy_there hr hA t.l H.out.1.l (by omega)
        rw [hn] at hc
        refine OI_value rfl rfl (about_builtin _ _ _ rfl) (by intro c h; cases h) (.int .i64 (n : Int)) _ (lgRun_copyB _ _ _ _ _ _ _ _ rfl (by kernel_rfl) (by kernel_rfl) (hc _)) ?_
        refine ⟨rfl, fun h => absurd h (by omega), fun _ => ⟨?_, (KeepP.of_below hW).trans (KeepP.setRow (st := fun k => k = h) rfl _ _)⟩, fun h => absurd h (by omega), fun h => absurd h (by omega)⟩
        have := set_fieldsRow hr 0 t.l (by rw [hA, hn]; omega)
        rw [H.out.2.2] at this
        exact this
      | 2, hk, hR =>
        obtain rfl := Option.some.inj hk
        obtain rfl := Option.some.inj hdi
        rw [updV_self (show x 10 = _ from hdep 10 (by simp [depM1]))]
        have hW := hR.2.1 rfl
        refine OI_skip rfl rfl (about_none (by intro c h; cases h)) (by intro c h; cases h) (W.setCell ⟨h, 516, none⟩ (.int .i64 ((0 : Nat) : Int))) (lgRun_store 3 _ _ ⟨h, 516, none⟩ (.int .i64 ((0 : Nat) : Int)) _ rfl rfl (by kernel_rfl) (by kernel_rfl) (by kernel_rfl) W (pr5 hW.1 lA1) (Row.frozen hW.1 516)) ?_
        refine ⟨(put_none _ _).trans (put_far _ _ _ (by rw [puts_size]; exact Nat.le_of_ble_eq_true rfl)).symm, fun h => absurd h (by omega), fun h => absurd h (by omega), fun _ => ⟨set_from hW.1 lA1 0, hW.2.trans (KeepP.setCell (st := fun k => k = h) rfl _ _ _)⟩, fun h => absurd h (by omega)⟩
      | 3, hk, hR =>
        obtain rfl := Option.some.inj hk
        obtain rfl := Option.some.inj hdi
        rw [updV_self (show x 13 = _ from hdep 13 (by simp [depM1])), updV_self (show (updV x 13 _) 8 = _ from hdep 8 (by simp [depM1]))]
        have hW := hR.2.2.1 rfl
        refine OI_skip rfl rfl (about_none (by intro c h; cases h)) (by intro c h; cases h) (W.setCell ⟨h, 517, none⟩ (.int .i64 (n : Int))) (lgRun_store 3 _ _ ⟨h, 517, none⟩ (.int .i64 (n : Int)) _ rfl rfl (by kernel_rfl) (by kernel_rfl) (by kernel_rfl) W (pr6 hW.1 lA1) (Row.frozen hW.1 517)) ?_
        refine ⟨(put_none _ _).trans (put_far _ _ _ (by rw [puts_size]; exact Nat.le_of_ble_eq_true rfl)).symm, fun h => absurd h (by omega), fun h => absurd h (by omega), fun h => absurd h (by omega), fun _ => ⟨set_to hW.1 lA1 n, hW.2.trans (KeepP.setCell (st := fun k => k = h) rfl _ _ _)⟩⟩
      | _ + 4, hk, _ => simp at hk
    case done =>
      intro W hR
      simp only [dsM1, putsV, valM1, Act.put, List.setIfInBounds_toArray, List.set_cons_succ, List.set_cons_zero, Nat.reduceAdd]
      have HR := veil (hR.2.2.2 rfl)
      clear hR
      go_wp2_with fail
      go_meet
      exact HR.out
  case rest =>
    obtain ⟨hW1, hK1⟩ := hcut
    have HW1 := veil hW1
    have HK1 := veil hK1
    clear hW1 hK1
    go_upto_region 1 with fail
    go_wp2_with fail
    refine (wpIn_wide (n := 4)).1 ?_
    refine wpIn_region_any (by kernel_rfl) ?_
    refine anyIn_line2 (valM2 h n) (fun m W => (m ≤ 0 → Below wc.heap.size wc W) ∧ (0 < m → PtR W h t.room s t.went (A1.take n ++ List.replicate (256 - n) fd0 ++ A1.drop (n + (List.replicate (256 - n) fd0).length)) 0 n ∧ KeepP (fun k => k = h) wc W)) [8] dsM2 depM2 (by kernel_rfl) rfl (by decide) (by decide) ?ord ?inn ?h0 ?fix ?cal ?done
    case ord =>
      intro k i j h1 h2
      simp at h2
    case inn => intro j hj; simp at hj; show j < 9; omega
    case h0 => exact ⟨fun _ => (Below.refl _ _).drew, fun h => absurd h (by omega)⟩
    case fix =>
      intro x W m ii d hR hm hdi hc hdep
      match ii, hm, hdi, hc, hdep with
      | 0, _, hdi, _, _ =>
        obtain rfl := Option.some.inj hdi
        exact OI_value rfl rfl (about_none (by intro c h; cases h)) (by intro c h; cases h) (.pointer (some ⟨h, 0, none⟩)) W (by kernel_rfl) ⟨rfl, rfl⟩
      | 1, _, hdi, _, hdep =>
        obtain rfl := Option.some.inj hdi
        rw [updV_self (show x 0 = _ from hdep 0 (by simp [depM2]))]
        exact OI_value rfl rfl (about_none (by intro c h; cases h)) (by intro c h; cases h) (.pointer (some ⟨h, 0, none⟩)) W (by kernel_rfl) ⟨rfl, rfl⟩
      | 2, _, hdi, _, hdep =>
        obtain rfl := Option.some.inj hdi
        rw [updV_self (show x 1 = _ from hdep 1 (by simp [depM2]))]
        exact OI_value rfl rfl (about_none (by intro c h; cases h)) (by intro c h; cases h) (.pointer (some ⟨h, 4, none⟩)) W (by kernel_rfl) ⟨rfl, rfl⟩
      | 3, _, hdi, _, _ =>
        obtain rfl := Option.some.inj hdi
        exact OI_value rfl rfl (about_none (by intro c h; cases h)) (by intro c h; cases h) (.pointer (some ⟨h, 0, none⟩)) W (by kernel_rfl) ⟨rfl, rfl⟩
      | 4, _, hdi, _, hdep =>
        obtain rfl := Option.some.inj hdi
        rw [updV_self (show x 3 = _ from hdep 3 (by simp [depM2]))]
        exact OI_value rfl rfl (about_none (by intro c h; cases h)) (by intro c h; cases h) (.pointer (some ⟨h, 0, none⟩)) W (by kernel_rfl) ⟨rfl, rfl⟩
      | 5, _, hdi, _, hdep =>
        obtain rfl := Option.some.inj hdi
        rw [updV_self (show x 4 = _ from hdep 4 (by simp [depM2]))]
        exact OI_value rfl rfl (about_none (by intro c h; cases h)) (by intro c h; cases h) (.pointer (some ⟨h, 517, none⟩)) W (by kernel_rfl) ⟨rfl, rfl⟩
      | 6, _, hdi, _, hdep =>
        obtain rfl := Option.some.inj hdi
        have hcl : W.cell? ⟨h, 517, none⟩ = some (.int .i64 (n : Int)) := by
          rcases Nat.eq_zero_or_pos m with e | e
          · exact pr6 (Row.below HW1.out (hR.1 (by omega)) (Row.lt HW1.out)) lA1
          · exact pr6 (hR.2 e).1 (by simp; omega)
        rw [updV_self (show x 5 = _ from hdep 5 (by simp [depM2]))]
        exact OI_value rfl rfl (about_none (by intro c h; cases h)) (by intro c h; cases h) (.int .i64 (n : Int)) W (lgRun_cell 3 _ ⟨h, 517, none⟩ _ _ rfl (by kernel_rfl) Try.underlying3 rfl W (hcl)) ⟨rfl, rfl⟩
      | 7, _, hdi, _, hdep =>
        obtain rfl := Option.some.inj hdi
        rw [updV_self (show x 2 = _ from hdep 2 (by simp [depM2])), updV_self (show (updV x 2 _) 6 = _ from hdep 6 (by simp [depM2]))]
        exact OI_value rfl rfl (about_none (by intro c h; cases h)) (by intro c h; cases h) (.slice (some ⟨h, 4 + n * 2, none⟩) (256 - n) (256 - n)) W (lgRun_slArr 58 _ _ h 4 n rfl (by kernel_rfl) (by kernel_rfl) Try.underlying58 fieldSize (by omega) W) ⟨rfl, rfl⟩
      | 8, _, _, hc, _ => exact (hc (by simp)).elim
      | _ + 9, _, hdi, _, _ => simp [dsM2] at hdi
    case cal =>
      intro x W k ii d hR hk hdi hdep
      match k, hk, hR with
      | 0, hk, hR =>
        obtain rfl := Option.some.inj hk
        obtain rfl := Option.some.inj hdi
        rw [updV_self (show x 7 = _ from hdep 7 (by simp [depM2]))]
        have hW := hR.1 (by omega)
        have hr := Row.below HW1.out hW (Row.lt HW1.out)
        have hc := clear_rest hr lA1 n (by omega)
        refine OI_value rfl rfl (about_builtin _ _ _ rfl) (by intro c h; cases h) (.tuple #[]) _ (lgRun_clear 49 _ rfl _ (by kernel_rfl) _ _ _ (hc _)) ?_
        refine ⟨(put_none _ _).trans (put_far _ _ _ (by rw [puts_size]; exact Nat.le_of_ble_eq_true rfl)).symm, fun h => absurd h (by omega), fun _ => ⟨?_, (KeepP.of_below hW).trans (KeepP.setRow (st := fun k => k = h) rfl _ _)⟩⟩
        exact set_fieldsRow hr n (List.replicate (256 - n) fd0) (by rw [lA1, List.length_replicate]; omega)
      | _ + 1, hk, _ => simp at hk
    case done =>
      intro W hR
      simp only [dsM2, putsV, valM2, Act.put, List.setIfInBounds_toArray, List.set_cons_succ, List.set_cons_zero, Nat.reduceAdd]
      obtain ⟨hW2, hK2⟩ := hR.2 (by decide)
      have hfin := veil (show ∃ A', PtOk W h t A' 0 n ∧ KeepP (fun k => k = h) w W from by
        refine ⟨_, ⟨by rw [hs]; exact hW2, by simp; omega, by omega, by omega, ?_, H.out.1.sz, H.out.1.rb, H.out.1.wb⟩, HK1.out.trans hK2⟩
        intro j hj
        rw [Nat.zero_add, List.append_assoc, List.getElem?_append_left (by simp; omega), List.getElem?_take_of_lt (by omega)]
        exact HL.out j (by omega))
      clear hW2 hK2 hR
      go_wp2_with fail
      go_end0
      exact ⟨rfl, hfin.out⟩
end Tb
end Go.Proofs.Ytoajnhngcfjohaa
