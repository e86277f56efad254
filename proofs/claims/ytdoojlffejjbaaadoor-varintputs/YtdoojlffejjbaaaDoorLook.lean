/-
  What a Book of lists of bytes looks at in the end: every mark is there.
-/
import Derived.Test.YtdoojlffejjbaaaDoorGrow
import Derived.BigQuiet
namespace Go.Proofs.YtdoojlffejjbaaaDoor
open Go.RowKit

set_option maxHeartbeats 400000 in
theorem is_any (n : Int) (w : World) (h0 : 0 ≤ n) (h1 : n ≤ 1000000) :
    Calls Tryd.prog 76 #[.int .u8 (1 + n % 250), .int .i64 n] w fun e w' => e = .returned (.bool true) ∧ w' = w := by
  go_enter Tryd.func76, Tryd.ntmps76
  go_wp2
  go_ret
  exact ⟨by simp, rfl⟩

theorem cell_rep {W : World} {S g c n q : Nat} {u : Value} (h : W.ownsRow S 5 1 (.slice (some ⟨g, 0, none⟩) n c) n (List.replicate n u)) (hq : q < n) : W.cell? ⟨g, q, none⟩ = some u := by
  rw [h.cellAt q (by simpa using hq), List.getElem?_replicate, if_pos hq]

theorem World.grownBy.drewN {a b : World} {row : Option Nat} (h : a.grownBy b row) (n : Nat) : a.grownBy (b.drewN n) row := ⟨h.os, h.tape, h.output, h.size, h.block⟩

set_option maxRecDepth 20000 in
set_option maxHeartbeats 4000000 in
theorem look_any (S B h m cap : Nat) (E : Nat → Value) (N : Nat → Nat) (Lg : Nat → Value) (w0 W : World) (hm2 : m ≤ 1000) (hN : ∀ i, i < m → N i ≤ 1000000) (st : St S B h m cap E N Lg (fun i => List.replicate (N i) (mark i)) w0 W) (gr : Gr S B h m m E N Lg W) :
    Calls Tryd.prog 47 #[.pointer (some ⟨B, 0, none⟩)] W fun e w' => e = .returned (.bool true) ∧ W.grownBy w' none := by
  have HST : Hid (St S B h m cap E N Lg (fun i => List.replicate (N i) (mark i)) w0 W) := st
  have HGR : Hid (Gr S B h m m E N Lg W) := gr
  have hc := st.book
  have hbB := st.bB
  have hbh := st.bh
  clear st gr
  go_enter Tryd.func47, Tryd.ntmps47
  go_wp2_with fail
  go_loopw [3] (fun i wr => ∃ k : Nat, k ≤ m ∧ i = .int .i64 k ∧ W.grownBy wr none) (fun i _ => m - (intOf i).toNat)
  case atStart => exact ⟨0, Nat.zero_le _, rfl, rfl, rfl, rfl, Nat.le_refl _, fun _ _ _ => rfl⟩
  case round =>
    obtain ⟨k, hk, rfl, hg⟩ := hrel
    have hcb : wr.cell? ⟨B, 1, none⟩ = some (.slice (some ⟨h, 0, none⟩) m cap) := hg.cell hc (by simp)
    have hsz := hg.size
    by_cases hlt : k < m
    · obtain ⟨ao, c, hE⟩ : ∃ ao c, E k = .slice ao (N k) c := by
        rcases own_shape (HST.out.rows k hlt) with ⟨h1, h2⟩ | ⟨g, c, h1, _⟩
        · exact ⟨none, 0, by rw [h1, h2]⟩
        · exact ⟨some ⟨g, 0, none⟩, c, h1⟩
      obtain ⟨gg, cc, hL⟩ : ∃ gg cc, Lg k = .slice (some ⟨gg, 0, none⟩) (N k + 40) cc := by
        rcases own_shape (HGR.out.rows k hlt) with ⟨_, h0⟩ | ⟨gg, cc, h1, _⟩
        · omega
        · exact ⟨gg, cc, h1⟩
      have HE : Hid (E k = .slice ao (N k) c) := hE
      have HL : Hid (Lg k = .slice (some ⟨gg, 0, none⟩) (N k + 40) cc) := hL
      have c0 : wr.cell? ⟨h, k * 3, none⟩ = some (.slice ao (N k) c) := (hg.cell (HST.out.l k hlt) (by simp)).trans (by rw [hE])
      have c1 : wr.cell? ⟨h, k * 3 + 1, none⟩ = some (.slice (some ⟨gg, 0, none⟩) (N k + 40) cc) := (hg.cell (HST.out.g k hlt) (by simp)).trans (by rw [hL])
      have c2 : wr.cell? ⟨h, k * 3 + 2, none⟩ = some (.int .i64 ((k : Int) + 1)) := hg.cell (HST.out.n k hlt) (by simp)
      have hNk := hN k hlt
      have HG : Hid (W.grownBy wr none) := hg
      have hne : decide (((N k + 40 : Nat) : Int) = ((N k : Nat) : Int) + 40) = true := by simp
      clear hg hE hL
      go_wp2_with fail
      obtain ⟨wo, rfl⟩ : ∃ wo : World, wo = wr := ⟨_, rfl⟩
      have HA : Hid (W.grownBy (wo.alloc (.cells #[.slice ao (N k) c, .slice (some ⟨gg, 0, none⟩) (N k + 40) cc, .int .i64 ((k : Int) + 1)] 67)) none) := HG.out.trans (World.grownBy_alloc _ _ _)
      go_loopw [5] (fun i wq => ∃ q : Nat, q ≤ N k + 40 ∧ i = .int .i64 q ∧ W.grownBy wq none ∧ wq.cell? ⟨wo.heap.size, 0, none⟩ = some (.slice ao (N k) c) ∧ wq.cell? ⟨wo.heap.size, 1, none⟩ = some (.slice (some ⟨gg, 0, none⟩) (N k + 40) cc) ∧ wq.cell? ⟨wo.heap.size, 2, none⟩ = some (.int .i64 ((k : Int) + 1))) (fun i _ => N k + 40 - (intOf i).toNat)
      case atStart => exact ⟨0, Nat.zero_le _, rfl, HA.out, by simp, by simp, by simp⟩
      case round =>
        obtain ⟨q, hq, rfl, hg2, p0, p1, p2⟩ := hrel
        have HG2 : Hid (W.grownBy wr none) := hg2
        clear HA
        by_cases hq2 : q < N k + 40
        · have hrow : wr.ownsRow S 5 1 (.slice (some ⟨gg, 0, none⟩) (N k + 40) cc) (N k + 40) (List.replicate (N k + 40) (mark k)) := by
            have := HGR.out.rows k hlt
            rw [HL.out] at this
            exact this.kept hg2 (.inr (by simp [Value.ownBlock]))
          have hcg : wr.cell? ⟨gg, q, none⟩ = some (.int .u8 (1 + ((k : Int) + 1) % 250)) := cell_rep hrow hq2
          have i1 : (0 : Int) ≤ (q : Int) := by omega
          have i2 : (q : Int) < ((N k + 40 : Nat) : Int) := by omega
          by_cases hq3 : q < N k
          · obtain ⟨g, hao⟩ : ∃ g, ao = some ⟨g, 0, none⟩ := by
              rcases own_shape (HST.out.rows k hlt) with ⟨h1, h2⟩ | ⟨g, c4, h1, _⟩
              · omega
              · rw [HE.out] at h1; injection h1 with e1 e2 e3; exact ⟨g, e1⟩
            subst hao
            have hrow2 : wr.ownsRow S 5 1 (.slice (some ⟨g, 0, none⟩) (N k) c) (N k) (List.replicate (N k) (mark k)) := by
              have := HST.out.rows k hlt
              rw [HE.out] at this
              exact this.kept hg2 (.inr (by simp [Value.ownBlock]))
            have hcl : wr.cell? ⟨g, q, none⟩ = some (.int .u8 (1 + ((k : Int) + 1) % 250)) := cell_rep hrow2 hq3
            have i3 : (q : Int) < ((N k : Nat) : Int) := by omega
            clear hrow hrow2 hg2
            go_wp2_with fail
            go_quiet (first | (go_at_call 76; exact Calls.quiet_of_same (is_any _ _ (by omega) (by omega))))
            go_wp2_with fail
            go_roundw
            case rel => exact ⟨q + 1, by omega, by go_num, World.grownBy.drewN HG2.out _, p0, p1, p2⟩
            case measure => simp [intOf]; omega
          · have i3 : decide ((q : Int) < ((N k : Nat) : Int)) = false := by simp; omega
            clear hrow hg2
            go_wp2_with fail
            go_quiet (first | (go_at_call 76; exact Calls.quiet_of_same (is_any _ _ (by omega) (by omega))))
            go_wp2_with fail
            go_roundw
            case rel => exact ⟨q + 1, by omega, by go_num, World.grownBy.drewN HG2.out _, p0, p1, p2⟩
            case measure => simp [intOf]; omega
        · clear hg2
          go_wp2_with fail
          go_roundw
          case rel => exact ⟨k + 1, by omega, by go_num, HG2.out⟩
          case measure => simp [intOf]; omega
    · have HG : Hid (W.grownBy wr none) := hg
      clear hg
      go_wp2_with fail
      go_ret
      exact ⟨rfl, HG.out⟩
end Go.Proofs.YtdoojlffejjbaaaDoor
