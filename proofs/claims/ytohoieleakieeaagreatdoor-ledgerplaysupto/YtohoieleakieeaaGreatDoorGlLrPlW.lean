/-
  LedgerPlays: the walk. Written by mklrpl.py.
-/
import Derived.Test.YtohoieleakieeaaGreatDoorGlLrPlP
import Derived.Test.YtohoieleakieeaaGreatDoorGl23
import Derived.Test.YtohoieleakieeaaGreatDoorGlLrSent
namespace Go.Proofs.YtohoieleakieeaaGreatDoor
open Go Go.RowKit

def depSe : Nat → List Nat
  | 2 => [1]
  | 4 => [3]
  | 6 => [5]
  | 8 => [7]
  | 9 => [0, 2, 4, 6, 8]
  | 12 => [11]
  | 14 => [13]
  | 16 => [15]
  | 18 => [17]
  | 19 => [9, 10, 12, 14, 16, 18]
  | 20 => [9, 19]
  | _ => []
def dsSe : List Nat := [81, 82, 83, 84, 85, 86, 87, 88, 89, 90, 91, 92, 93, 94, 95, 96, 97, 98, 99, 100, 101]
def valSe (g h bx num : Nat) (size : Int) (now : Nat) (asks : Bool) (E : Int) : Nat → Value
  | 0 => .pointer (some ⟨g, 0, none⟩)
  | 1 => .pointer (some ⟨bx, 1, none⟩)
  | 2 => .int .u64 (num : Int)
  | 3 => .pointer (some ⟨bx, 2, none⟩)
  | 4 => .int .i64 size
  | 5 => .pointer (some ⟨bx, 6, none⟩)
  | 6 => .int .u64 (now : Int)
  | 7 => .pointer (some ⟨bx, 3, none⟩)
  | 8 => .bool asks
  | 9 => .int .i64 E
  | 10 => .pointer (some ⟨h, 0, none⟩)
  | 11 => .pointer (some ⟨bx, 1, none⟩)
  | 12 => .int .u64 (num : Int)
  | 13 => .pointer (some ⟨bx, 2, none⟩)
  | 14 => .int .i64 size
  | 15 => .pointer (some ⟨bx, 6, none⟩)
  | 16 => .int .u64 (now : Int)
  | 17 => .pointer (some ⟨bx, 3, none⟩)
  | 18 => .bool asks
  | 19 => .int .i64 E
  | 20 => .bool false
  | _ => undef
set_option maxRecDepth 20000 in
set_option maxHeartbeats 4000000 in
theorem plays_walk (acts : AS) (w : World) (hacts : acts.Ok w) (hl : acts.len ≤ 1048576) (hrl : ∀ j, j < acts.len → (ga acts.l j).ranges.len ≤ 1048576) :
    Calls Tryz.prog 3 #[.slice acts.a acts.len acts.cap] w fun e w' => e = .returned (.bool true) ∧ Below w.heap.size w w' := by
  obtain ⟨aa, n, acap, ag, aoff, al⟩ := acts
  simp only at hl hrl ⊢
  have HA := veil hacts
  have HRL := veil hrl
  clear hacts hrl
  go_enter Tryz.func3, Tryz.ntmps3
  go_wp2_with fail
  go_loopw [3, 4] (fun nv iv wr => ∃ k N : Nat, k ≤ n ∧ iv = .int .i64 (k : Int) ∧ nv = .int .i64 (N : Int) ∧ k ≤ N ∧ N ≤ k * 1048577 ∧ (∀ j, j < k → (ga al j).ranges.len ≤ N) ∧ w = wr)
    (fun _ iv _ => n - (intOf iv).toNat)
  case atStart => exact ⟨0, 0, Nat.zero_le _, rfl, rfl, Nat.le_refl _, Nat.zero_le _, fun j hj => absurd hj (Nat.not_lt_zero _), rfl⟩
  case round =>
    obtain ⟨k, N, hk, rfl, rfl, hkN, hNk, hall, hwr⟩ := hrel
    subst hwr
    by_cases hlt : k < n
    · have hat : aa = some ⟨ag, aoff, none⟩ := HA.out.at_ (show 0 < n by omega)
      subst hat
      have hc := HA.out.cell k hlt
      have hL := HRL.out k hlt
      simp only at hc
      obtain ⟨a, hae⟩ : ∃ a, ga al k = a := ⟨_, rfl⟩
      rw [hae] at hc hL
      have HS := veil (show ∀ j, j < k + 1 → (ga al j).ranges.len ≤ N + 1 + a.ranges.len from fun j hj => by
        rcases Nat.lt_or_ge j k with e | e
        · have := hall j e; omega
        · obtain rfl : j = k := by omega
          rw [hae]; omega)
      clear hae hall
      obtain ⟨kd, num, size, asks, rg, delay, now⟩ := a
      have x4 : w.cell? ⟨ag, aoff + k * 7 + 4, none⟩ = some (.slice rg.a rg.len rg.cap) := hc 4 _ rfl
      simp only at hL HS
      obtain ⟨L, hLe⟩ : ∃ L, rg.len = L := ⟨_, rfl⟩
      rw [hLe] at x4 hL HS
      generalize rg.a = ra at *
      generalize rg.cap = rc at *
      have w1 : IntKind.i64.wrap ((N : Int) + 1) = ((N + 1 : Nat) : Int) := by rw [IntKind.wrap_i64]; omega
      have w2 : IntKind.i64.wrap (((N + 1 : Nat) : Int) + (L : Int)) = ((N + 1 + L : Nat) : Int) := by rw [IntKind.wrap_i64]; omega
      have HF := veil (show k + 1 ≤ N + 1 + L ∧ N + 1 + L ≤ (k + 1) * 1048577 by omega)
      have HLT := veil hlt
      have bI : (k : Int) < (n : Int) := by omega
      clear hc hLe hL hNk hkN
      generalize N + 1 = N1 at *
      generalize N1 + L = N2 at *
      go_wp2
      go_roundw
      case rel => exact ⟨k + 1, N2, HLT.out, by go_num, rfl, HF.out.1, HF.out.2, HS.out, trivial⟩
      case measure => have := HLT.out; simp [intOf]; omega
    · obtain rfl : k = n := by omega
      by_cases h1000 : 1000 < N
      · have d1 : decide ((1000 : Int) < (N : Int)) = true := by simp; omega
        have d2 : decide (1000 < N) = true := by simp; omega
        clear h1000 hall hNk hkN
        go_wp2_with fail
        refine (lives_any w).mono ?_
        rintro e1 w1 ⟨rfl, hb1⟩
        have HB1 := veil hb1
        clear hb1
        go_wp2
        go_ret
        exact ⟨rfl, HB1.out⟩
      · have d1 : decide ((1000 : Int) < (N : Int)) = false := by simp; omega
        have d2 : decide (1000 < N) = false := by simp; omega
        have HR1 := veil (show ∀ j, j < k → (ga al j).ranges.len ≤ 1000 from fun j hj => by have := hall j hj; omega)
        have hk1 : k ≤ 1000 := by omega
        have HK1 := veil hk1
        clear h1000 hall hNk hkN hlt hk HRL hl
        go_wp2_with fail
        refine (led_new w).mono ?_
        rintro e0 w0 ⟨g, rfl, hg, hL0, hb0⟩
        go_wp2_with fail
        refine (refNew_any w0).mono ?_
        rintro e1 w1 ⟨h, rfl, hh, hR0, hb1⟩
        have HP0 := veil (PlI.start hg hL0 hb0 hh hR0 hb1 45)
        clear hg hL0 hb0 hh hR0 hb1 d1 d2
        go_wp2_with fail
        obtain ⟨B, hB⟩ : ∃ B, B = w1.heap.size := ⟨_, rfl⟩
        rw [← hB] at HP0
        rw [← hB]
        clear hB
        generalize w1.alloc (.cells #[.int .i64 0, .slice none 0 0, .slice none 0 0, .slice none 0 0, .slice none 0 0, .slice none 0 0, .slice none 0 0, .slice none 0 0, .slice none 0 0, .slice none 0 0, .slice none 0 0, .slice none 0 0, .slice none 0 0] 45) = wz at *
        go_loopw [8] (fun iv wr => ∃ (i nn : Nat) (s : Lg.Led) (v u : Value) (own : Nat → Prop), i ≤ k ∧ iv = .int .i64 (i : Int) ∧ nn ≤ 3 * i ∧ Lg.Rise s ∧ PlI w g h B i nn s s v u own wr)
          (fun iv _ => k - (intOf iv).toNat)
        case atStart => exact ⟨0, 0, _, _, _, _, Nat.zero_le _, rfl, Nat.le_refl _, Lg.Rise.new, HP0.out⟩
        case round =>
          clear HP0
          obtain ⟨i, nn, s, v, u, own, hi, rfl, hnn, hrise, hP⟩ := hrel
          by_cases hlt : i < k
          · have hat : aa = some ⟨ag, aoff, none⟩ := HA.out.at_ (show 0 < k by omega)
            subst hat
            have hAw := HA.out.below hP.bel
            have hc := hAw.cell i hlt
            have ha := hAw.each i hlt
            have hrl := (HA.out.each i hlt).ranges.lt
            have hrw := (HA.out.each i hlt).ranges
            have hr1 := HR1.out i hlt
            simp only at hc ha hrl hrw
            obtain ⟨a, hae⟩ : ∃ a, ga al i = a := ⟨_, rfl⟩
            rw [hae] at hc ha hrl hr1 hrw
            clear hae
            obtain ⟨kd, num, size, asks, rg, delay, now⟩ := a
            have x0 : wr.cell? ⟨ag, aoff + i * 7, none⟩ = some (.int .u8 (kd : Int)) := hc 0 _ rfl
            have x1 : wr.cell? ⟨ag, aoff + i * 7 + 1, none⟩ = some (.int .u64 (num : Int)) := hc 1 _ rfl
            have x2 : wr.cell? ⟨ag, aoff + i * 7 + 2, none⟩ = some (.int .i64 size) := hc 2 _ rfl
            have x3 : wr.cell? ⟨ag, aoff + i * 7 + 3, none⟩ = some (.bool asks) := hc 3 _ rfl
            have x4 : wr.cell? ⟨ag, aoff + i * 7 + 4, none⟩ = some (.slice rg.a rg.len rg.cap) := hc 4 _ rfl
            have x5 : wr.cell? ⟨ag, aoff + i * 7 + 5, none⟩ = some (.int .u64 (delay : Int)) := hc 5 _ rfl
            have x6 : wr.cell? ⟨ag, aoff + i * 7 + 6, none⟩ = some (.int .u64 (now : Int)) := hc 6 _ rfl
            have hba : Below wr.heap.size wr (wr.alloc (.cells #[.int .u8 (kd : Int), .int .u64 (num : Int), .int .i64 size, .bool asks, .slice rg.a rg.len rg.cap, .int .u64 (delay : Int), .int .u64 (now : Int)] 26)) := (Below.refl _ wr).alloc (Nat.le_refl _) _
            have HP1 := veil (hP.below hba)
            have HBX := veil (show Row (wr.alloc (.cells #[.int .u8 (kd : Int), .int .u64 (num : Int), .int .i64 size, .bool asks, .slice rg.a rg.len rg.cap, .int .u64 (delay : Int), .int .u64 (now : Int)] 26)) wr.heap.size 26 #[.int .u8 (kd : Int), .int .u64 (num : Int), .int .i64 size, .bool asks, .slice rg.a rg.len rg.cap, .int .u64 (delay : Int), .int .u64 (now : Int)] from Row.new _ _ _)
            have HRGW := veil (show rg.Ok w from hrw)
            have HRG1 := veil (show (0 < rg.len → rg.g < w.heap.size) ∧ rg.len ≤ 1000 from ⟨hrl, hr1⟩)
            have HOW := veil hP.ow
            have HRI0 := veil hrise
            have HLT := veil hlt
            have HNN := veil hnn
            have HI1 := veil (show i < 1000 by have := HK1.out; omega)
            have hk3 : kd % 3 = 0 ∨ kd % 3 = 1 ∨ kd % 3 = 2 := by omega
            have m0 : Int.tmod (kd : Int) 3 = ((kd % 3 : Nat) : Int) := by rw [Int.tmod_eq_emod_of_nonneg (by omega)]; omega
            have m1 : IntKind.u8.wrap ((kd % 3 : Nat) : Int) = ((kd % 3 : Nat) : Int) := by rw [IntKind.wrap_u8]; omega
            have bI : (i : Int) < (k : Int) := by omega
            clear hAw hc ha hrl hr1 hrw hP hba hrise hnn hk1 hlt hi
            rcases hk3 with h3 | h3 | h3
            · rw [h3] at m0 m1
              clear h3
              obtain ⟨E, hE⟩ : ∃ E, Lg.sentE s num size now = E := ⟨_, rfl⟩
              obtain ⟨s1, hs1⟩ : ∃ s1, Lg.sent s num size now asks = s1 := ⟨_, rfl⟩
              have HE := veil hE
              have HS1 := veil hs1
              have HI2 := veil (show i < 2000 by have := HI1.out; omega)
              have HLW := veil (show s.way.length ≤ 2000 by have := HI1.out; have := HP1.out.lok.fit.cnt; omega)
              have hri := HRI0.out.sent HP1.out.lok.fit num size now asks
              rw [hs1] at hri
              have HRI := veil hri
              clear hE hs1 hri
              go_wp2_with fail
              obtain ⟨bx, hbx⟩ : ∃ bx, bx = wr.heap.size := ⟨_, rfl⟩
              have HR0 := veil (show RSe w g h B i nn s s1 own bx #[.int .u8 (kd : Int), .int .u64 (num : Int), .int .i64 size, .bool asks, .slice rg.a rg.len rg.cap, .int .u64 (delay : Int), .int .u64 (now : Int)] 0 ((wr.alloc (.cells #[.int .u8 (kd : Int), .int .u64 (num : Int), .int .i64 size, .bool asks, .slice rg.a rg.len rg.cap, .int .u64 (delay : Int), .int .u64 (now : Int)] 26)).drew) from ⟨⟨v, u, HP1.out.below ((Below.refl _ _).drew)⟩, by rw [hbx]; exact (HBX.out).drew⟩)
              rw [← hbx]
              clear hbx HP1 HBX HRI0 x0 x1 x2 x3 x4 x5 x6
              generalize (wr.alloc (.cells #[.int .u8 (kd : Int), .int .u64 (num : Int), .int .i64 size, .bool asks, .slice rg.a rg.len rg.cap, .int .u64 (delay : Int), .int .u64 (now : Int)] 26)) = wb at *
              refine (wpIn_wide (n := 4)).1 ?_
              refine wpIn_region_any (by kernel_rfl) ?_
              refine anyIn_line (valSe g h bx num size now asks E) (RSe w g h B i nn s s1 own bx #[.int .u8 (kd : Int), .int .u64 (num : Int), .int .i64 size, .bool asks, .slice rg.a rg.len rg.cap, .int .u64 (delay : Int), .int .u64 (now : Int)]) [9, 19] dsSe depSe (by kernel_rfl) rfl (by decide) (by decide) ?ord ?inn ?h0 ?fix ?cal ?done
              case ord =>
                intro k i j h1 h2
                match k, h1, h2 with
                | 0, h1, h2 => obtain rfl := Option.some.inj h1; obtain rfl := Option.some.inj h2; exact .inl (by decide)
                | k + 1, _, h2 => simp at h2
              case inn => intro j hj; simp at hj; show j < 21; omega
              case h0 => exact HR0.out
              case fix =>
                intro x W m ii d hR hdi hc hdep
                have rb := hR.row
                clear hR
                match ii, hdi, hc, hdep with
                | 0, hdi, _, _ =>
                  obtain rfl := Option.some.inj hdi
                  exact OI_value rfl rfl (about_none (by intro c h; cases h)) (by intro c h; cases h) (.pointer (some ⟨g, 0, none⟩)) W (by kernel_rfl) ⟨rfl, rfl⟩
                | 1, hdi, _, _ =>
                  obtain rfl := Option.some.inj hdi
                  exact OI_value rfl rfl (about_none (by intro c h; cases h)) (by intro c h; cases h) (.pointer (some ⟨bx, 1, none⟩)) W (by kernel_rfl) ⟨rfl, rfl⟩
                | 2, hdi, _, hdep =>
                  obtain rfl := Option.some.inj hdi
                  rw [updV_self (show x 1 = _ from hdep 1 (by simp [depSe]))]
                  exact OI_value rfl rfl (about_none (by intro c h; cases h)) (by intro c h; cases h) (.int .u64 (num : Int)) W (lgRun_cell 23 _ ⟨bx, 1, none⟩ _ _ rfl (by kernel_rfl) Tryz.underlying23 rfl W (rb.cell 1)) ⟨rfl, rfl⟩
                | 3, hdi, _, _ =>
                  obtain rfl := Option.some.inj hdi
                  exact OI_value rfl rfl (about_none (by intro c h; cases h)) (by intro c h; cases h) (.pointer (some ⟨bx, 2, none⟩)) W (by kernel_rfl) ⟨rfl, rfl⟩
                | 4, hdi, _, hdep =>
                  obtain rfl := Option.some.inj hdi
                  rw [updV_self (show x 3 = _ from hdep 3 (by simp [depSe]))]
                  exact OI_value rfl rfl (about_none (by intro c h; cases h)) (by intro c h; cases h) (.int .i64 size) W (lgRun_cell 3 _ ⟨bx, 2, none⟩ _ _ rfl (by kernel_rfl) Tryz.underlying3 rfl W (rb.cell 2)) ⟨rfl, rfl⟩
                | 5, hdi, _, _ =>
                  obtain rfl := Option.some.inj hdi
                  exact OI_value rfl rfl (about_none (by intro c h; cases h)) (by intro c h; cases h) (.pointer (some ⟨bx, 6, none⟩)) W (by kernel_rfl) ⟨rfl, rfl⟩
                | 6, hdi, _, hdep =>
                  obtain rfl := Option.some.inj hdi
                  rw [updV_self (show x 5 = _ from hdep 5 (by simp [depSe]))]
                  exact OI_value rfl rfl (about_none (by intro c h; cases h)) (by intro c h; cases h) (.int .u64 (now : Int)) W (lgRun_cell 23 _ ⟨bx, 6, none⟩ _ _ rfl (by kernel_rfl) Tryz.underlying23 rfl W (rb.cell 6)) ⟨rfl, rfl⟩
                | 7, hdi, _, _ =>
                  obtain rfl := Option.some.inj hdi
                  exact OI_value rfl rfl (about_none (by intro c h; cases h)) (by intro c h; cases h) (.pointer (some ⟨bx, 3, none⟩)) W (by kernel_rfl) ⟨rfl, rfl⟩
                | 8, hdi, _, hdep =>
                  obtain rfl := Option.some.inj hdi
                  rw [updV_self (show x 7 = _ from hdep 7 (by simp [depSe]))]
                  exact OI_value rfl rfl (about_none (by intro c h; cases h)) (by intro c h; cases h) (.bool asks) W (lgRun_cell 4 _ ⟨bx, 3, none⟩ _ _ rfl (by kernel_rfl) Tryz.underlying4 rfl W (rb.cell 3)) ⟨rfl, rfl⟩
                | 9, _, hc, _ => exact absurd (by decide) hc
                | 10, hdi, _, _ =>
                  obtain rfl := Option.some.inj hdi
                  exact OI_value rfl rfl (about_none (by intro c h; cases h)) (by intro c h; cases h) (.pointer (some ⟨h, 0, none⟩)) W (by kernel_rfl) ⟨rfl, rfl⟩
                | 11, hdi, _, _ =>
                  obtain rfl := Option.some.inj hdi
                  exact OI_value rfl rfl (about_none (by intro c h; cases h)) (by intro c h; cases h) (.pointer (some ⟨bx, 1, none⟩)) W (by kernel_rfl) ⟨rfl, rfl⟩
                | 12, hdi, _, hdep =>
                  obtain rfl := Option.some.inj hdi
                  rw [updV_self (show x 11 = _ from hdep 11 (by simp [depSe]))]
                  exact OI_value rfl rfl (about_none (by intro c h; cases h)) (by intro c h; cases h) (.int .u64 (num : Int)) W (lgRun_cell 23 _ ⟨bx, 1, none⟩ _ _ rfl (by kernel_rfl) Tryz.underlying23 rfl W (rb.cell 1)) ⟨rfl, rfl⟩
                | 13, hdi, _, _ =>
                  obtain rfl := Option.some.inj hdi
                  exact OI_value rfl rfl (about_none (by intro c h; cases h)) (by intro c h; cases h) (.pointer (some ⟨bx, 2, none⟩)) W (by kernel_rfl) ⟨rfl, rfl⟩
                | 14, hdi, _, hdep =>
                  obtain rfl := Option.some.inj hdi
                  rw [updV_self (show x 13 = _ from hdep 13 (by simp [depSe]))]
                  exact OI_value rfl rfl (about_none (by intro c h; cases h)) (by intro c h; cases h) (.int .i64 size) W (lgRun_cell 3 _ ⟨bx, 2, none⟩ _ _ rfl (by kernel_rfl) Tryz.underlying3 rfl W (rb.cell 2)) ⟨rfl, rfl⟩
                | 15, hdi, _, _ =>
                  obtain rfl := Option.some.inj hdi
                  exact OI_value rfl rfl (about_none (by intro c h; cases h)) (by intro c h; cases h) (.pointer (some ⟨bx, 6, none⟩)) W (by kernel_rfl) ⟨rfl, rfl⟩
                | 16, hdi, _, hdep =>
                  obtain rfl := Option.some.inj hdi
                  rw [updV_self (show x 15 = _ from hdep 15 (by simp [depSe]))]
                  exact OI_value rfl rfl (about_none (by intro c h; cases h)) (by intro c h; cases h) (.int .u64 (now : Int)) W (lgRun_cell 23 _ ⟨bx, 6, none⟩ _ _ rfl (by kernel_rfl) Tryz.underlying23 rfl W (rb.cell 6)) ⟨rfl, rfl⟩
                | 17, hdi, _, _ =>
                  obtain rfl := Option.some.inj hdi
                  exact OI_value rfl rfl (about_none (by intro c h; cases h)) (by intro c h; cases h) (.pointer (some ⟨bx, 3, none⟩)) W (by kernel_rfl) ⟨rfl, rfl⟩
                | 18, hdi, _, hdep =>
                  obtain rfl := Option.some.inj hdi
                  rw [updV_self (show x 17 = _ from hdep 17 (by simp [depSe]))]
                  exact OI_value rfl rfl (about_none (by intro c h; cases h)) (by intro c h; cases h) (.bool asks) W (lgRun_cell 4 _ ⟨bx, 3, none⟩ _ _ rfl (by kernel_rfl) Tryz.underlying4 rfl W (rb.cell 3)) ⟨rfl, rfl⟩
                | 19, _, hc, _ => exact absurd (by decide) hc
                | 20, hdi, _, hdep =>
                  obtain rfl := Option.some.inj hdi
                  rw [updV_self (show x 9 = _ from hdep 9 (by simp [depSe])), updV_self (show (updV x 9 _) 19 = _ from hdep 19 (by simp [depSe]))]
                  exact OI_value rfl rfl (about_none (by intro c h; cases h)) (by intro c h; cases h) (.bool false) W (run_neq15 _ _ _ _ E rfl (by kernel_rfl) (by kernel_rfl) W) ⟨rfl, rfl⟩
                | _ + 21, hdi, _, _ => simp [dsSe] at hdi
              case cal =>
                intro x W k ii d hR hk hdi hdep
                match k, hk, hR with
                | 0, hk, hR =>
                  obtain rfl := Option.some.inj hk
                  obtain rfl := Option.some.inj hdi
                  rw [updV_self (show x 0 = _ from hdep 0 (by simp [depSe])), updV_self (show (updV x 0 _) 2 = _ from hdep 2 (by simp [depSe])), updV_self (show (updV (updV x 0 _) 2 _) 4 = _ from hdep 4 (by simp [depSe])), updV_self (show (updV (updV (updV x 0 _) 2 _) 4 _) 6 = _ from hdep 6 (by simp [depSe])), updV_self (show (updV (updV (updV (updV x 0 _) 2 _) 4 _) 6 _) 8 = _ from hdep 8 (by simp [depSe]))]
                  obtain ⟨⟨v0, u0, hp⟩, hrow⟩ := hR
                  refine OI_call rfl rfl (by intro c h; cases h) 7 #[.pointer (some ⟨g, 0, none⟩), .int .u64 (num : Int), .int .i64 size, .int .u64 (now : Int), .bool asks] (fun _ _ => trivial) (by kernel_rfl) (by decide) ?_
                  refine (callsIn_wide.2 (led_sent hp.lok HI2.out num size now asks)).mono ?_
                  rintro e w9 ⟨rfl, v1, hL1, hk1, hs1⟩
                  rw [HE.out, HS1.out] at *
                  exact ⟨_, rfl, rfl, ⟨v1, u0, hp.led hL1 hk1 hs1⟩, hk1.row hrow (hp.notL ⟨_, hrow⟩ (by decide) (by decide))⟩
                | 1, hk, hR =>
                  obtain rfl := Option.some.inj hk
                  obtain rfl := Option.some.inj hdi
                  rw [updV_self (show x 10 = _ from hdep 10 (by simp [depSe])), updV_self (show (updV x 10 _) 12 = _ from hdep 12 (by simp [depSe])), updV_self (show (updV (updV x 10 _) 12 _) 14 = _ from hdep 14 (by simp [depSe])), updV_self (show (updV (updV (updV x 10 _) 12 _) 14 _) 16 = _ from hdep 16 (by simp [depSe])), updV_self (show (updV (updV (updV (updV x 10 _) 12 _) 14 _) 16 _) 18 = _ from hdep 18 (by simp [depSe]))]
                  obtain ⟨⟨v0, u0, hp⟩, hrow⟩ := hR
                  refine OI_call rfl rfl (by intro c h; cases h) 8 #[.pointer (some ⟨h, 0, none⟩), .int .u64 (num : Int), .int .i64 size, .int .u64 (now : Int), .bool asks] (fun _ _ => trivial) (by kernel_rfl) (by decide) ?_
                  refine (callsIn_wide.2 (refSent_any h u0 s num size now asks W hp.rd HLW.out)).mono ?_
                  rintro e w9 ⟨rfl, v1, hL1, hk1, hs1⟩
                  rw [HE.out, HS1.out] at *
                  exact ⟨_, rfl, rfl, ⟨v0, v1, hp.ref hL1 hk1 hs1⟩, hk1.row hrow (hp.notR ⟨_, hrow⟩ (by decide) (by decide))⟩
                | _ + 2, hk, _ => simp at hk
              case done =>
                rintro W ⟨⟨v1, u1, hp⟩, _⟩
                simp only [dsSe, putsV, valSe, Act.put, List.setIfInBounds_toArray, List.set_cons_succ, List.set_cons_zero, Nat.reduceAdd]
                have HP := veil hp
                clear hp HR0 HE HS1 HLW HI2
                go_wp2_with fail
                refine (same_led HP.out.lok HP.out.rd (by have := HI1.out; omega) HRI.out).mono ?_
                rintro e9 w9 ⟨rfl, hb9⟩
                have HPF := veil (HP.out.below hb9)
                have hi9 := HI1.out
                clear hb9 HP
                go_wp2
                go_roundw
                case rel => exact ⟨i + 1, nn, s1, _, _, _, by have := HLT.out; omega, by go_num, by have := HNN.out; omega, HRI.out, HPF.out⟩
                case measure => have := HLT.out; simp [intOf]; omega
            · rw [h3] at m0 m1
              clear h3
              have hi2 : i ≤ 2000 := by have := HI1.out; omega
              have LC := veil (fun W r (hL : LOk i W g v s) hr hsep => led_answer (w := W) hL hi2 r hr hsep delay now)
              have LD := veil (fun W (hW : RdOk W h u s) (hr : rg.Ok W) => refAnswer_any h u s rg delay now W hW hr i HP1.out.lok.fit hi2 (fun p => by have := HRG1.out.1 p; have := HP1.out.hw; omega) (by have := HRG1.out.2; omega))
              have HRI := veil (HRI0.out.answer rg.l delay now)
              have hgl : (Lg.ansGot s rg.l delay now).length ≤ 2000 ∧ (Lg.ansLost s rg.l delay now).length ≤ 2000 := by
                have h1 := HP1.out.lok.fit.cnt
                constructor
                · unfold Lg.ansGot
                  split
                  · rw [List.length_map]
                    exact Nat.le_trans (List.length_filter_le _ _) (by omega)
                  · simp
                · unfold Lg.ansLost
                  split
                  · unfold Lg.lostL
                    rw [List.length_map]
                    refine Nat.le_trans (List.length_filter_le _ _) ?_
                    rw [(Lg.struck_way s rg.l delay now).1]
                    exact Nat.le_trans (List.length_filter_le _ _) (by omega)
                  · simp
              have HOK := veil (show rg.Ok w from HRGW.out)
              have hlb := HRGW.out.hb
              obtain ⟨ra, rn, rc, rgg, ro, rl⟩ := rg
              simp only at HRG1 hlb hgl LC LD HRI HOK x4 HBX HP1 ⊢
              obtain ⟨E, hE⟩ : ∃ E, Lg.ansE s rl delay now = E := ⟨_, rfl⟩
              obtain ⟨s1, hs1⟩ : ∃ s1, Lg.answer s rl delay now = s1 := ⟨_, rfl⟩
              obtain ⟨G, hG⟩ : ∃ G, Lg.ansGot s rl delay now = G := ⟨_, rfl⟩
              obtain ⟨L, hL⟩ : ∃ L, Lg.ansLost s rl delay now = L := ⟨_, rfl⟩
              obtain ⟨ng, hng⟩ : ∃ ng, G.length = ng := ⟨_, rfl⟩
              obtain ⟨nl, hnl⟩ : ∃ nl, L.length = nl := ⟨_, rfl⟩
              rw [hE, hs1, hG, hL] at LD
              rw [hs1] at HRI
              rw [hG, hL, hng, hnl] at hgl
              have HGL := veil hgl
              have HNG := veil hng
              have HNL := veil hnl
              have HLB := veil hlb
              have HEQ := veil (show Lg.ansE s rl delay now = E ∧ Lg.answer s rl delay now = s1 ∧ Lg.ansGot s rl delay now = G ∧ Lg.ansLost s rl delay now = L from ⟨hE, hs1, hG, hL⟩)
              have n9 : (E != E) = false := by simp
              have n8 : decide (E = E) = true := by simp
              have HZ := veil (show w.heap.size ≤ (wr.alloc (.cells #[.int .u8 (kd : Int), .int .u64 (num : Int), .int .i64 size, .bool asks, .slice ra rn rc, .int .u64 (delay : Int), .int .u64 (now : Int)] 26)).heap.size ∧ ∀ q, own q → q < (wr.alloc (.cells #[.int .u8 (kd : Int), .int .u64 (num : Int), .int .i64 size, .bool asks, .slice ra rn rc, .int .u64 (delay : Int), .int .u64 (now : Int)] 26)).heap.size from ⟨HP1.out.bel.size, fun q hq => (HP1.out.ow q hq).2⟩)
              have TW := veil (twin_rl ⟨ra, rn, rc, rgg, ro, rl⟩ (wr.alloc (.cells #[.int .u8 (kd : Int), .int .u64 (num : Int), .int .i64 size, .bool asks, .slice ra rn rc, .int .u64 (delay : Int), .int .u64 (now : Int)] 26)) (HOK.out.below HP1.out.bel) (by have := HRG1.out.2; simp only; omega))
              simp only at TW
              clear hE hs1 hG hL hng hnl hgl hlb HRI0 hi2 HRGW
              go_wp2_with fail
              refine TW.out.mono ?_
              rintro e1 w1 ⟨rfl, ot, hb1⟩
              have hP1 := HP1.out.below hb1
              have bx1 := HBX.out.below hb1 HBX.out.lt
              have BXL := veil HBX.out.lt
              have y5 : w1.cell? ⟨wr.heap.size, 5, none⟩ = some (.int .u64 (delay : Int)) := bx1.cell 5
              have y6 : w1.cell? ⟨wr.heap.size, 6, none⟩ = some (.int .u64 (now : Int)) := bx1.cell 6
              obtain ⟨b, hb⟩ : ∃ b, b = (wr.alloc (.cells #[.int .u8 (kd : Int), .int .u64 (num : Int), .int .i64 size, .bool asks, .slice ra rn rc, .int .u64 (delay : Int), .int .u64 (now : Int)] 26)).heap.size := ⟨_, rfl⟩
              rw [← hb] at ot HZ
              rw [vr_append] at ot
              have orr := own_cut15 ot (by rw [vr_length, HLB.out, Nat.mul_comm])
              have hrr := rl_own orr HLB.out HOK.out.small
              have HBB := veil (show g < b ∧ (∀ q, v.ownBlock = some q → q < b) from ⟨by rw [hb]; exact HP1.out.lok.ld.lt, fun q e => by rw [hb]; exact HP1.out.lok.ld.way.lt q e⟩)
              have LE := veil (LC.out w1 _ hP1.lok hrr (fun _ => ⟨by have := HBB.out.1; simp only; omega, fun e => by have := HBB.out.2 b e; omega⟩))
              simp only at LE
              rw [HEQ.out.1, HEQ.out.2.1, HEQ.out.2.2.1, HEQ.out.2.2.2, HNG.out, HNL.out] at LE
              have OT := veil ot
              have HPA := veil hP1
              have BX1 := veil bx1
              have HB1 := veil (show b < w1.heap.size from (orr.lt b rfl).2)
              rw [← hb]
              clear ot orr hrr hP1 bx1 hb1 hb TW LC HP1 HBX x0 x1 x2 x3 x4 x5 x6
              go_wp2_with fail
              refine LE.out.mono ?_
              rintro e2 w2 ⟨g1, g2, v2, rfl, o1, o2, ap, hL2, hk2, hv2⟩
              obtain ⟨ga1, gc1, rfl⟩ := own_shape15 o1
              obtain ⟨ga2, gc2, rfl⟩ := own_shape15 o2
              have bx2 := hk2.row BX1.out (HPA.out.notL ⟨_, BX1.out⟩ (by decide) (by decide))
              have ot2 := own_keep15 OT.out hk2 (fun q e => HPA.out.notL (Ty.own OT.out e) (by decide) (by decide))
              have HPB := veil (HPA.out.led hL2 hk2 (fun q e => .inl (by rw [← hv2]; exact e)))
              have y4 : w2.cell? ⟨wr.heap.size, 4, none⟩ = some (.slice ra rn rc) := bx2.cell 4
              have y5 : w2.cell? ⟨wr.heap.size, 5, none⟩ = some (.int .u64 (delay : Int)) := bx2.cell 5
              have y6 : w2.cell? ⟨wr.heap.size, 6, none⟩ = some (.int .u64 (now : Int)) := bx2.cell 6
              have O1 := veil o1
              have O2 := veil o2
              have AP := veil ap
              have OT2 := veil ot2
              have BX2 := veil bx2
              clear o1 o2 ap ot2 bx2 hL2 hk2 hv2 LE OT BX1 HPA
              go_wp2_with fail
              refine (LD.out w2 HPB.out.rd (HOK.out.below HPB.out.bel)).mono ?_
              rintro e3 w3 ⟨t1, t2, u3, rfl, o3, o4, hR3, hk3, hs3⟩
              obtain ⟨ta1, tc1, rfl⟩ := own_shape15 o3
              obtain ⟨ta2, tc2, rfl⟩ := own_shape15 o4
              have o1 := own_keep15 O1.out hk3 (fun q e q2 => HPB.out.notR (Ty.own O1.out e) (by decide) (by decide) (.inl q2))
              have o2 := own_keep15 O2.out hk3 (fun q e q2 => HPB.out.notR (Ty.own O2.out e) (by decide) (by decide) (.inl q2))
              have ot := own_keep15 OT2.out hk3 (fun q e q2 => HPB.out.notR (Ty.own OT2.out e) (by decide) (by decide) (.inl q2))
              have bx3 := hk3.row BX2.out (fun q2 => HPB.out.notR ⟨_, BX2.out⟩ (by decide) (by decide) (.inl q2))
              have HPC := veil (HPB.out.ref hR3 (hk3.mono (fun q e => .inl e)) hs3)
              have SN := veil (same_nums _ _ _ _ G w3 (by rw [HNG.out]; exact o1) o3 (by have := HGL.out; have := HNG.out; omega))
              rw [HNG.out] at SN
              rw [HNL.out] at o4
              rw [HNG.out, HNL.out]
              have O1' := veil o1
              have O2' := veil o2
              have O4 := veil o4
              have OT3 := veil ot
              have BX3 := veil bx3
              clear o1 o2 o3 o4 ot bx3 hR3 hk3 hs3 LD O1 O2 OT2 BX2 HPB y4 y5 y6
              go_wp2_with fail
              refine SN.out.mono ?_
              rintro e4 w4 ⟨rfl, hb4⟩
              have o1 := own_below15 O1'.out hb4
              have o2 := own_below15 O2'.out hb4
              have o4 := own_below15 O4.out hb4
              have ot := own_below15 OT3.out hb4
              have bx4 := BX3.out.below hb4 BX3.out.lt
              have HPD := veil (HPC.out.below hb4)
              have SM := veil (same_nums _ _ _ _ L w4 (by rw [HNL.out]; exact o2) (by rw [HNL.out]; exact o4) (by have := HGL.out; have := HNL.out; omega))
              have P1 := veil o1
              have P2 := veil o2
              have PT := veil ot
              have BX4 := veil bx4
              clear o1 o2 o4 ot bx4 hb4 SN O1' O2' O4 OT3 BX3 HPC
              go_wp2_with fail
              refine SM.out.mono ?_
              rintro e5 w5 ⟨rfl, hb5⟩
              have o1 := own_below15 P1.out hb5
              have o2 := own_below15 P2.out hb5
              have ot := own_below15 PT.out hb5
              have bx5 := BX4.out.below hb5 BX4.out.lt
              have y4 : w5.cell? ⟨wr.heap.size, 4, none⟩ = some (.slice ra rn rc) := bx5.cell 4
              have HPE := veil (HPD.out.below hb5)
              have LR := veil (left_rl ⟨ra, rn, rc, rgg, ro, rl⟩ b w5 (HOK.out.below HPE.out.bel) (by have := HRG1.out.2; simp only; omega) (TwinR.of_own (by rw [vr_append]; exact ot)))
              simp only at LR
              have Q1 := veil o1
              have Q2 := veil o2
              have QT := veil ot
              clear o1 o2 ot bx5 hb5 SM P1 P2 PT BX4 HPD
              go_wp2_with fail
              refine LR.out.mono ?_
              rintro e6 w6 ⟨rfl, hb6⟩
              have o1 := own_low2 (B' := w.heap.size) (own_below15 Q1.out hb6) (by have := HB1.out; have := HZ.out.1; omega)
              have o2 := own_low2 (B' := w.heap.size) (own_below15 Q2.out hb6) (by have := HB1.out; have := HZ.out.1; omega)
              have or6 := own_low2 (B' := w.heap.size) (own_cut15 (own_below15 QT.out hb6) (by rw [vr_length, HLB.out, Nat.mul_comm])) HZ.out.1
              have lo1 : ∀ q, (Value.slice ga1 ng gc1).ownBlock = some q → b < q := fun q e => by have := (Q1.out.lt q e).1; have := HB1.out; omega
              have lo2 : ∀ q, (Value.slice ga2 nl gc2).ownBlock = some q → b < q := fun q e => by have := (Q2.out.lt q e).1; have := HB1.out; omega
              have HPF := veil (HPE.out.below hb6)
              have T1 := veil (HPF.out.bk.tellRange (some ⟨b, 0, none⟩) rn (rn + 1) rl (by have := HNN.out; have := HI1.out; omega) or6 (by have := HRG1.out.2; omega) (fun q e q2 => by
                injection e with e
                have := HZ.out.2 q q2
                have e : b = q := e
                omega))
              have R1 := veil o1
              have R2 := veil o2
              have RR := veil or6
              have LO1 := veil lo1
              have LO2 := veil lo2
              clear o1 o2 or6 lo1 lo2 hb6 LR Q1 Q2 QT HPE y4
              go_wp2_with fail
              refine T1.out.mono ?_
              rintro e7 w7 ⟨rfl, hk7, hb7⟩
              obtain ⟨own7, hP7, hw7⟩ := HPF.out.told hb7 hk7 RR.out (Nat.le_refl _) (by decide) (by decide) (by decide) (by decide)
              have n1 : ∀ q, (Value.slice ga1 ng gc1).ownBlock = some q → ¬ own q := fun q e q2 => by have := LO1.out q e; have := HZ.out.2 q q2; omega
              have n2 : ∀ q, (Value.slice ga2 nl gc2).ownBlock = some q → ¬ own q := fun q e q2 => by have := LO2.out q e; have := HZ.out.2 q q2; omega
              have o1 := own_keep15 R1.out hk7 n1
              have o2 := own_keep15 R2.out hk7 n2
              have n3 : ∀ q, (Value.slice ga1 ng gc1).ownBlock = some q → ¬ own7 q := fun q e q2 => by
                rcases hw7 q (R1.out.lt q e).2 q2 with q3 | q3
                · exact n1 q e q3
                · injection q3 with q3
                  have q3 : b = q := q3
                  have := LO1.out q e
                  omega
              have n4 : ∀ q, (Value.slice ga2 nl gc2).ownBlock = some q → ¬ own7 q := fun q e q2 => by
                rcases hw7 q (R2.out.lt q e).2 q2 with q3 | q3
                · exact n2 q e q3
                · injection q3 with q3
                  have q3 : b = q := q3
                  have := LO2.out q e
                  omega
              have T2 := veil (hP7.bk.tellNumber ga1 ng gc1 _ (by have := HNN.out; have := HI1.out; omega) o1 (by have := HGL.out; omega) n3)
              have HP7 := veil hP7
              have S1' := veil o1
              have S2' := veil o2
              have N4 := veil n4
              clear hP7 hw7 n1 n2 n3 n4 o1 o2 hk7 hb7 T1 R1 R2 RR HPF
              go_wp2_with fail
              refine T2.out.mono ?_
              rintro e8 w8 ⟨rfl, hk8, hb8⟩
              obtain ⟨own8, hP8, hw8⟩ := HP7.out.told hb8 hk8 S1'.out (Nat.le_refl _) (by decide) (by decide) (by decide) (by decide)
              have o2 := own_keep15 S2'.out hk8 N4.out
              have n5 : ∀ q, (Value.slice ga2 nl gc2).ownBlock = some q → ¬ own8 q := fun q e q2 => by
                rcases hw8 q (S2'.out.lt q e).2 q2 with q3 | q3
                · exact N4.out q e q3
                · exact AP.out q q3 e
              have T3 := veil (hP8.bk.tellNumber ga2 nl gc2 _ (by have := HNN.out; have := HI1.out; omega) o2 (by have := HGL.out; omega) n5)
              have HP8 := veil hP8
              have S3' := veil o2
              clear hP8 hw8 n5 o2 hk8 hb8 T2 S1' S2' HP7 N4 AP
              go_wp2_with fail
              refine T3.out.mono ?_
              rintro e9 w9 ⟨rfl, hk9, hb9⟩
              obtain ⟨own9, hP9, _⟩ := HP8.out.told hb9 hk9 S3'.out (Nat.le_refl _) (by decide) (by decide) (by decide) (by decide)
              have HP := veil hP9
              clear hP9 hk9 hb9 T3 S3' HP8
              go_wp2_with fail
              refine (same_led HP.out.lok HP.out.rd (by have := HI1.out; omega) HRI.out).mono ?_
              rintro e9 w9 ⟨rfl, hb9⟩
              have HPF := veil ((HP.out.below hb9).more (Nat.le_succ i))
              have hi9 := HI1.out
              clear hb9 HP
              go_wp2
              go_roundw
              case rel => exact ⟨i + 1, nn + 1 + 1 + 1, s1, _, _, _, by have := HLT.out; omega, by go_num, by have := HNN.out; omega, HRI.out, HPF.out⟩
              case measure => have := HLT.out; simp [intOf]; omega
            · rw [h3] at m0 m1
              clear h3
              have LC := veil (led_lose HP1.out.lok (show i ≤ 2000 by have := HI1.out; omega) now)
              have LD := veil (fun W (hW : RdOk W h u s) => refLose_any h u s now i W hW HP1.out.lok.fit (show i ≤ 2000 by have := HI1.out; omega))
              have HRI := veil (HRI0.out.lose now)
              have hll : (Lg.loseL s now).length ≤ 2000 := by
                have h1 := HP1.out.lok.fit.cnt
                have h2 := HI1.out
                unfold Lg.loseL
                split
                · unfold Lg.lostL
                  rw [List.length_map]
                  exact Nat.le_trans (List.length_filter_le _ _) (by show s.way.length ≤ 2000; omega)
                · simp
              obtain ⟨E, hE⟩ : ∃ E, Lg.loseE s now = E := ⟨_, rfl⟩
              obtain ⟨s1, hs1⟩ : ∃ s1, Lg.lose s now = s1 := ⟨_, rfl⟩
              obtain ⟨l, hl9⟩ : ∃ l, Lg.loseL s now = l := ⟨_, rfl⟩
              rw [hE, hs1, hl9] at LC LD
              rw [hs1] at HRI
              rw [hl9] at hll
              have HLL := veil hll
              have n9 : (E != E) = false := by simp
              have n8 : decide (E = E) = true := by simp
              clear hE hs1 hl9 HRI0 hll
              obtain ⟨nl, hnl⟩ : ∃ nl, l.length = nl := ⟨_, rfl⟩
              go_wp2_with fail
              refine LC.out.mono ?_
              rintro e1 w1 ⟨l1, v1, rfl, o1, hL1, hk1, hv1⟩
              have hP2 := HP1.out.led hL1 hk1 (fun q e => .inl (by rw [← hv1]; exact e))
              have bx1 := hk1.row HBX.out (HP1.out.notL ⟨_, HBX.out⟩ (by decide) (by decide))
              have y6 : w1.cell? ⟨wr.heap.size, 6, none⟩ = some (.int .u64 (now : Int)) := bx1.cell 6
              obtain ⟨la, lc, rfl⟩ := own_shape15 o1
              rw [hnl] at o1 ⊢
              have HP2 := veil hP2
              have O1 := veil o1
              have HZ := veil (show w.heap.size ≤ (wr.alloc (.cells #[.int .u8 (kd : Int), .int .u64 (num : Int), .int .i64 size, .bool asks, .slice rg.a rg.len rg.cap, .int .u64 (delay : Int), .int .u64 (now : Int)] 26)).heap.size ∧ ∀ q, own q → q < (wr.alloc (.cells #[.int .u8 (kd : Int), .int .u64 (num : Int), .int .i64 size, .bool asks, .slice rg.a rg.len rg.cap, .int .u64 (delay : Int), .int .u64 (now : Int)] 26)).heap.size from ⟨HP1.out.bel.size, fun q hq => (HP1.out.ow q hq).2⟩)
              clear hP2 o1 bx1 hL1 hk1 hv1 LC x0 x1 x2 x3 x4 x5 x6 HBX HP1
              go_wp2_with fail
              refine (LD.out w1 HP2.out.rd).mono ?_
              rintro e2 w2 ⟨l2, u2, rfl, o2, hR2, hk2, hs2⟩
              have hP3 := HP2.out.ref hR2 (hk2.mono (fun q e => .inl e)) hs2
              have o1 := own_keep15 O1.out hk2 (fun b e q => HP2.out.notR (Ty.own O1.out e) (by decide) (by decide) (.inl q))
              obtain ⟨la2, lc2, rfl⟩ := own_shape15 o2
              rw [hnl] at o2 ⊢
              have SN := veil (same_nums _ _ _ _ l w2 (by rw [hnl]; exact o1) (by rw [hnl]; exact o2) (by have := HLL.out; omega))
              have HP3 := veil hP3
              have O2 := veil o1
              clear hP3 o1 o2 hR2 hk2 hs2 LD HP2 O1 y6
              have HNL := veil hnl
              clear hnl
              go_wp2_with fail
              refine SN.out.mono ?_
              rintro e3 w3 ⟨rfl, hb3⟩
              have HP4 := veil (HP3.out.below hb3)
              have o3 := own_low2 (own_below15 O2.out hb3) HZ.out.1
              have TC := veil (HP4.out.bk.tellNumber la nl lc _ (by have := HNN.out; have := HI1.out; omega) o3 (by have := HLL.out; have := HNL.out; omega) (fun q e q2 => by have := (O2.out.lt q e).1; have := HZ.out.2 q q2; omega))
              have O3 := veil o3
              clear hb3 o3 HP3 O2 SN
              go_wp2_with fail
              refine TC.out.mono ?_
              rintro e4 w4 ⟨rfl, hk4, hb4⟩
              obtain ⟨own4, hP5, _⟩ := HP4.out.told hb4 hk4 O3.out (Nat.le_refl _) (by decide) (by decide) (by decide) (by decide)
              have HP := veil hP5
              clear hP5 hk4 hb4 TC O3 HP4
              go_wp2_with fail
              refine (same_led HP.out.lok HP.out.rd (by have := HI1.out; omega) HRI.out).mono ?_
              rintro e9 w9 ⟨rfl, hb9⟩
              have HPF := veil ((HP.out.below hb9).more (Nat.le_succ i))
              have hi9 := HI1.out
              clear hb9 HP
              go_wp2
              go_roundw
              case rel => exact ⟨i + 1, nn + 1, s1, _, _, _, by have := HLT.out; omega, by go_num, by have := HNN.out; omega, HRI.out, HPF.out⟩
              case measure => have := HLT.out; simp [intOf]; omega
          · obtain rfl : i = k := by omega
            have HPZ := veil hP
            have HNN := veil (show nn ≤ 3000000 by have := HK1.out; omega)
            have HRI9 := veil hrise
            clear hP hrise hlt hi hnn
            go_wp2_with fail
            refine (HPZ.out.bk.apart HNN.out).mono ?_
            rintro e2 w2 ⟨rfl, hk2⟩
            have HB2 := veil (HPZ.out.bel.trans (hk2.below (fun q hq => (HPZ.out.ow q hq).1) HPZ.out.bel.size))
            clear hk2 HPZ
            go_wp2_with fail
            refine (lives_any w2).mono ?_
            rintro e3 w3 ⟨rfl, hb3⟩
            have HB3 := veil (HB2.out.trans (hb3.mono HB2.out.size))
            clear hb3
            go_wp2
            go_ret
            exact ⟨rfl, HB3.out⟩
end Go.Proofs.YtohoieleakieeaaGreatDoor
