/-
  Told once: the walk. Written by mklgonce.py.
-/
import Derived.Test.YtohoieleakieeaaGeLgOnceS
namespace Go.Proofs.Ytohoieleakieeaa
open Go Go.RowKit

set_option maxRecDepth 20000 in
set_option maxHeartbeats 4000000 in
theorem once_walk (acts : AS) (w : World) (hacts : acts.Ok w) :
    Calls Try.prog 3 #[.slice acts.a acts.len acts.cap] w fun e w' => e = .returned (.bool true) ∧ Below w.heap.size w w' := by
  obtain ⟨aa, n, acap, ag, aoff, al⟩ := acts
  simp only
  have HA := veil hacts
  clear hacts
  by_cases h300 : 300 < n
  · have d1 : decide ((300 : Int) < (n : Int)) = true := by simp; omega
    have d2 : decide (300 < n) = true := by simp; omega
    clear h300
    go_enter Try.func3, Try.ntmps3
    go_wp2_with fail
    refine (lives_any w).mono ?_
    rintro e1 w1 ⟨rfl, hb1⟩
    have HB1 := veil hb1
    clear hb1
    go_wp2
    go_ret
    exact ⟨rfl, HB1.out⟩
  have d1 : decide ((300 : Int) < (n : Int)) = false := by simp; omega
  have d2 : decide (300 < n) = false := by simp; omega
  have hn3 : n ≤ 300 := by omega
  clear h300
  go_enter Try.func3, Try.ntmps3
  go_wp2_with fail
  refine (led_new w).mono ?_
  rintro e0 w0 ⟨g, rfl, hg, hL0, hb0⟩
  have HI0 := veil (show OnceI w g 0 [] [] Lg.new (.slice none 0 0) (.slice none 0 0) (.slice none 0 0) w0 from ⟨hL0, hb0, hg, (fun q h => by cases h), World.ownsRow_nil _ _ _ _, World.ownsRow_nil _ _ _ _, Lg.Book.new, (fun a h => by cases h), Nat.le_refl _⟩)
  clear hg hL0 hb0 d1 d2
  go_wp2_with fail
  go_loopw [4, 5, 6] (fun sv tv iv wr => ∃ (i : Nat) (v sv' tv' : Value) (s : Lg.Led) (As : List AM) (T0 : List Nat), i ≤ n ∧ iv = .int .i64 i ∧ sv = sv' ∧ tv = tv' ∧ OnceI w g i As T0 s v sv' tv' wr)
    (fun _ _ iv _ => n - (intOf iv).toNat)
  case atStart => exact ⟨0, _, _, _, _, _, _, Nat.zero_le _, rfl, rfl, rfl, HI0.out⟩
  case round =>
    clear HI0
    obtain ⟨i, v, sv, tv, s, As, T0, hi, rfl, hsv, htv, hI⟩ := hrel
    symm at hsv
    symm at htv
    subst hsv
    subst htv
    by_cases hlt : i < n
    · have hat : aa = some ⟨ag, aoff, none⟩ := HA.out.at_ (show 0 < n by omega)
      subst hat
      have hAw := HA.out.below hI.bel
      have hc := hAw.cell i hlt
      have ha := hAw.each i hlt
      have hrl := (HA.out.each i hlt).ranges.lt
      simp only at hc ha hrl
      obtain ⟨a, hae⟩ : ∃ a, ga al i = a := ⟨_, rfl⟩
      rw [hae] at hc ha hrl
      clear hae
      obtain ⟨kd, num, size, asks, rg, delay, now⟩ := a
      have x0 : wr.cell? ⟨ag, aoff + i * 7, none⟩ = some (.int .u8 (kd : Int)) := hc 0 _ rfl
      have x1 : wr.cell? ⟨ag, aoff + i * 7 + 1, none⟩ = some (.int .u64 (num : Int)) := hc 1 _ rfl
      have x2 : wr.cell? ⟨ag, aoff + i * 7 + 2, none⟩ = some (.int .i64 size) := hc 2 _ rfl
      have x3 : wr.cell? ⟨ag, aoff + i * 7 + 3, none⟩ = some (.bool asks) := hc 3 _ rfl
      have x4 : wr.cell? ⟨ag, aoff + i * 7 + 4, none⟩ = some (.slice rg.a rg.len rg.cap) := hc 4 _ rfl
      have x5 : wr.cell? ⟨ag, aoff + i * 7 + 5, none⟩ = some (.int .u64 (delay : Int)) := hc 5 _ rfl
      have x6 : wr.cell? ⟨ag, aoff + i * 7 + 6, none⟩ = some (.int .u64 (now : Int)) := hc 6 _ rfl
      have hba : Below wr.heap.size wr (wr.alloc (.cells #[.int .u8 (kd : Int), .int .u64 (num : Int), .int .i64 size, .bool asks, .slice rg.a rg.len rg.cap, .int .u64 (delay : Int), .int .u64 (now : Int)] 30)) := (Below.refl _ wr).alloc (Nat.le_refl _) _
      have hI1 := hI.below hba
      have hbx : Row (wr.alloc (.cells #[.int .u8 (kd : Int), .int .u64 (num : Int), .int .i64 size, .bool asks, .slice rg.a rg.len rg.cap, .int .u64 (delay : Int), .int .u64 (now : Int)] 30)) wr.heap.size 30 #[.int .u8 (kd : Int), .int .u64 (num : Int), .int .i64 size, .bool asks, .slice rg.a rg.len rg.cap, .int .u64 (delay : Int), .int .u64 (now : Int)] := Row.new _ _ _
      have HRG := veil (show rg.Ok (wr.alloc (.cells #[.int .u8 (kd : Int), .int .u64 (num : Int), .int .i64 size, .bool asks, .slice rg.a rg.len rg.cap, .int .u64 (delay : Int), .int .u64 (now : Int)] 30)) from ha.ranges.below hba)
      have HRL := veil (show 0 < rg.len → rg.g < w.heap.size from hrl)
      have HI1 := veil hI1
      have HBX := veil hbx
      have HLT := veil hlt
      have hgl := hI.lok.ld.lt
      have HGL := veil hgl
      have HVL := veil hI.lok.ld.way.lt
      have hk3 : kd % 3 = 0 ∨ kd % 3 = 1 ∨ kd % 3 = 2 := by omega
      have m0 : Int.tmod (kd : Int) 3 = ((kd % 3 : Nat) : Int) := by rw [Int.tmod_eq_emod_of_nonneg (by omega)]; omega
      have m1 : IntKind.u8.wrap ((kd % 3 : Nat) : Int) = ((kd % 3 : Nat) : Int) := by rw [IntKind.wrap_u8]; omega
      clear hAw hc ha hrl hI hba hI1 hbx hgl
      rcases hk3 with h3 | h3 | h3
      · rw [h3] at m0 m1
        clear h3
        have SC := veil (led_sent HI1.out.lok (by omega) num size now asks)
        obtain ⟨E, hE⟩ : ∃ E, Lg.sentE s num size now = E := ⟨_, rfl⟩
        rw [hE] at SC
        by_cases hE0 : E = 0
        · subst hE0
          go_wp2_with fail
          refine SC.out.mono ?_
          rintro e1 w1 ⟨rfl, v1, hL1, hk1, hs1⟩
          have bx1 : Row w1 wr.heap.size 30 #[.int .u8 (kd : Int), .int .u64 (num : Int), .int .i64 size, .bool asks, .slice rg.a rg.len rg.cap, .int .u64 (delay : Int), .int .u64 (now : Int)] := hk1.row HBX.out (fun q => q.elim (fun q => by have := HGL.out; omega) (fun q => by have := HVL.out _ q; omega))
          obtain ⟨sa, sc, W2, a1, hI2⟩ := HI1.out.sendYes (a := ⟨kd, num, size, asks, rg, delay, now⟩) (by omega) hE hL1 hk1 hs1
          obtain ⟨mm, hmm⟩ : ∃ mm, (As ++ [(⟨kd, num, size, asks, rg, delay, now⟩ : AM)]).length = mm := ⟨_, rfl⟩
          rw [hmm] at a1 hI2
          have A1 := veil a1
          have HK0 := veil hI2.quiet
          have y0 : w1.cell? ⟨wr.heap.size, 0, none⟩ = some (.int .u8 (kd : Int)) := bx1.cell 0
          have y1 : w1.cell? ⟨wr.heap.size, 1, none⟩ = some (.int .u64 (num : Int)) := bx1.cell 1
          have y2 : w1.cell? ⟨wr.heap.size, 2, none⟩ = some (.int .i64 size) := bx1.cell 2
          have y3 : w1.cell? ⟨wr.heap.size, 3, none⟩ = some (.bool asks) := bx1.cell 3
          have y4 : w1.cell? ⟨wr.heap.size, 4, none⟩ = some (.slice rg.a rg.len rg.cap) := bx1.cell 4
          have y5 : w1.cell? ⟨wr.heap.size, 5, none⟩ = some (.int .u64 (delay : Int)) := bx1.cell 5
          have y6 : w1.cell? ⟨wr.heap.size, 6, none⟩ = some (.int .u64 (now : Int)) := bx1.cell 6
          clear bx1 a1 hI2 hL1 hk1 hs1 SC hE x0 x1 x2 x3 x4 x5 x6 HBX HI1 HRG HRL HGL HVL
          go_wp2_with (with_reducible (show wpList _ _ _ (⟨some 55, Op.call _, _, _, _, _⟩ :: _) _ _)
                       refine wpL_append rfl _ _ _ rfl _ _ _ _ rfl rfl A1.out ?_)
          clear y0 y1 y2 y3 y4 y5 y6 A1
          generalize As ++ [⟨kd, num, size, asks, rg, delay, now⟩] = As at *
          generalize Lg.sent s num size now asks = s at *
          have HMM := veil hmm
          have hm3 : mm ≤ 301 := by rw [← hmm]; have := HK0.out.len; omega
          clear hmm
          go_wp2_with fail
          go_loopw [5, 10] (fun tq kv wq => ∃ (k : Nat) (tv' : Value), k ≤ 0 ∧ kv = .int .i64 k ∧ tq = tv' ∧ OnceK w g (i + 1) As T0 [] [] s v1 (.slice sa mm sc) (.slice none 0 0) (.slice none 0 0) k tv' wq)
            (fun _ kv _ => 0 - (intOf kv).toNat)
          case atStart => exact ⟨0, _, Nat.zero_le _, rfl, rfl, HK0.out⟩
          case round =>
            clear HK0
            obtain ⟨k, tq, hk, rfl, htq, hK⟩ := hrel
            symm at htq
            subst htq
            have dd : decide ((k : Int) < 0) = false := by simp
            have hI2 := hK.done (Nat.zero_le _)
            obtain ⟨T, hT⟩ : ∃ T, T0 ++ ([] ++ []) = T := ⟨_, rfl⟩
            rw [hT] at hI2
            have HI2 := veil hI2
            have hTl : T.length ≤ 100000 := by have := told_le hI2.book; have := hI2.len; omega
            have HTL := veil hTl
            clear hK hT hI2 hTl
            go_wp2_with fail
            go_loopw [12, 13] (fun av jv wq2 => ∃ j : Nat, j ≤ mm ∧ jv = .int .i64 j ∧ av = .int .i64 (awayTo As T j : Int) ∧ wq2 = wr)
              (fun _ jv _ => mm - (intOf jv).toNat)
            case atStart => exact ⟨0, Nat.zero_le _, rfl, by simp [awayTo], rfl⟩
            case round =>
              obtain ⟨j, hj, rfl, rfl, hwq⟩ := hrel
              subst hwq
              have hAb := awayTo_le HI2.out.sz T j
              by_cases hlt3 : j < mm
              · obtain ⟨a9, hget⟩ : ∃ a9, As[j]? = some a9 := ⟨_, List.getElem?_eq_getElem (by rw [HMM.out]; exact hlt3)⟩
                obtain ⟨b9, cp9, hs9, y1, y2, y3⟩ := HI2.out.act hget
                rw [HMM.out] at hs9
                injection hs9 with hs9 _ hs9c
                subst hs9 hs9c
                have hsz9 := HI2.out.sz a9 (List.mem_of_getElem? hget)
                have hsucc := awayTo_succ (T := T) hget
                obtain ⟨kd9, num9, size9, asks9, rg9, delay9, now9⟩ := a9
                simp only at y1 y2 y3 hsz9 hsucc
                have HLt3 := veil hlt3
                have AM9 := veil (among_any w.heap.size _ T num9 wr HI2.out.told HTL.out)
                clear hget
                cases asks9
                · have HSU := veil (show awayTo As T (j + 1) = awayTo As T j by rw [hsucc]; simp)
                  clear hsucc
                  generalize awayTo As T j = aw at *
                  go_wp2_with fail
                  go_roundw
                  case rel => exact ⟨j + 1, by have := HLt3.out; omega, by go_num, by rw [HSU.out], trivial⟩
                  case measure => have := HLt3.out; simp [intOf]; omega
                · cases hcn : T.contains num9
                  · obtain ⟨aw2, haw2⟩ : ∃ aw2, awayTo As T (j + 1) = aw2 := ⟨_, rfl⟩
                    have hsu : awayTo As T j + size9.toNat = aw2 := by rw [← haw2, hsucc, hcn]; simp
                    have HSU := veil haw2
                    rw [hcn] at AM9
                    obtain ⟨aw, haw⟩ : ∃ aw, awayTo As T j = aw := ⟨_, rfl⟩
                    rw [haw] at hsu hAb ⊢
                    have w9 : IntKind.i64.wrap ((aw : Int) + size9) = (aw2 : Int) := by rw [IntKind.wrap_i64]; omega
                    clear hsucc hcn haw2 haw hsu
                    go_wp2_with fail
                    refine AM9.out.mono ?_
                    rintro e9 w9' ⟨rfl, rfl⟩
                    go_wp2
                    go_roundw
                    case rel => exact ⟨j + 1, by have := HLt3.out; omega, by go_num, by rw [HSU.out], trivial⟩
                    case measure => have := HLt3.out; simp [intOf]; omega
                  · have HSU := veil (show awayTo As T (j + 1) = awayTo As T j by rw [hsucc, hcn]; simp)
                    rw [hcn] at AM9
                    clear hsucc hcn
                    generalize awayTo As T j = aw at *
                    go_wp2_with fail
                    refine AM9.out.mono ?_
                    rintro e9 w9' ⟨rfl, rfl⟩
                    go_wp2
                    go_roundw
                    case rel => exact ⟨j + 1, by have := HLt3.out; omega, by go_num, by rw [HSU.out], trivial⟩
                    case measure => have := HLt3.out; simp [intOf]; omega
              · obtain rfl : j = mm := by omega
                have haw : awayTo As T j = Lg.away s := by have := HI2.out.away; rw [HMM.out] at this; exact this
                obtain ⟨aw, hawe⟩ : ∃ aw, awayTo As T j = aw := ⟨_, rfl⟩
                have AW := veil (away_any g v1 _ wr HI2.out.lok.ld HI2.out.lok.win)
                have RC := veil (room_any g v1 _ wr HI2.out.lok.ld HI2.out.lok.win)
                rw [show (ml s).ask = aw from (haw.symm.trans hawe)] at AW
                have hwin : 2400 ≤ s.win := HI2.out.lok.fit.winL
                rw [show (ml s).win = s.win from rfl] at RC
                have w1 : decide ((s.win : Int) < 2400) = false := by simp; omega
                have w2 : decide (s.win < 2400) = false := by simp; omega
                rw [hawe]
                clear haw hawe hAb hlt3 hj
                go_wp2_with fail
                refine AW.out.mono ?_
                rintro e7 w7 ⟨rfl, rfl⟩
                go_wp2_with fail
                refine RC.out.mono ?_
                rintro e8 w8 ⟨rfl, rfl⟩
                have hlt := HLT.out
                go_wp2
                go_roundw
                case rel => exact ⟨i + 1, v1, _, _, s, As, T, by have := HLT.out; omega, by go_num, rfl, rfl, HI2.out⟩
                case measure => have := HLT.out; simp [intOf]; omega
        · have hl9 : s.way.length < 1048576 := by have := HI1.out.lok.fit.cnt; omega
          have hE1 : E = 1 := by rw [← hE]; exact sentE_one hl9 (by rw [hE]; exact hE0)
          have hsame : Lg.sent s num size now asks = s := by unfold Lg.sent; rw [if_neg (by rw [hE]; exact hE0)]
          rw [hsame] at SC
          subst hE1
          go_wp2_with fail
          refine SC.out.mono ?_
          rintro e1 w1 ⟨rfl, v1, hL1, hk1, hs1⟩
          have HK0 := veil (HI1.out.sendNo hL1 hk1 hs1).quiet
          clear hL1 hk1 hs1 SC hE hE0 hl9 hsame x0 x1 x2 x3 x4 x5 x6 HBX HI1 HRG HRL HGL HVL
          obtain ⟨sa, sc, hsh⟩ := own_shape15 HK0.out.sent
          obtain ⟨mm, hmm⟩ : ∃ mm, As.length = mm := ⟨_, rfl⟩
          rw [hmm] at hsh
          subst hsh
          have HMM := veil hmm
          have hm3 : mm ≤ 301 := by rw [← hmm]; have := HK0.out.len; omega
          clear hmm
          go_wp2_with fail
          go_loopw [5, 10] (fun tq kv wq => ∃ (k : Nat) (tv' : Value), k ≤ 0 ∧ kv = .int .i64 k ∧ tq = tv' ∧ OnceK w g (i + 1) As T0 [] [] s v1 (.slice sa mm sc) (.slice none 0 0) (.slice none 0 0) k tv' wq)
            (fun _ kv _ => 0 - (intOf kv).toNat)
          case atStart => exact ⟨0, _, Nat.zero_le _, rfl, rfl, HK0.out⟩
          case round =>
            clear HK0
            obtain ⟨k, tq, hk, rfl, htq, hK⟩ := hrel
            symm at htq
            subst htq
            have dd : decide ((k : Int) < 0) = false := by simp
            have hI2 := hK.done (Nat.zero_le _)
            obtain ⟨T, hT⟩ : ∃ T, T0 ++ ([] ++ []) = T := ⟨_, rfl⟩
            rw [hT] at hI2
            have HI2 := veil hI2
            have hTl : T.length ≤ 100000 := by have := told_le hI2.book; have := hI2.len; omega
            have HTL := veil hTl
            clear hK hT hI2 hTl
            go_wp2_with fail
            go_loopw [12, 13] (fun av jv wq2 => ∃ j : Nat, j ≤ mm ∧ jv = .int .i64 j ∧ av = .int .i64 (awayTo As T j : Int) ∧ wq2 = wr)
              (fun _ jv _ => mm - (intOf jv).toNat)
            case atStart => exact ⟨0, Nat.zero_le _, rfl, by simp [awayTo], rfl⟩
            case round =>
              obtain ⟨j, hj, rfl, rfl, hwq⟩ := hrel
              subst hwq
              have hAb := awayTo_le HI2.out.sz T j
              by_cases hlt3 : j < mm
              · obtain ⟨a9, hget⟩ : ∃ a9, As[j]? = some a9 := ⟨_, List.getElem?_eq_getElem (by rw [HMM.out]; exact hlt3)⟩
                obtain ⟨b9, cp9, hs9, y1, y2, y3⟩ := HI2.out.act hget
                rw [HMM.out] at hs9
                injection hs9 with hs9 _ hs9c
                subst hs9 hs9c
                have hsz9 := HI2.out.sz a9 (List.mem_of_getElem? hget)
                have hsucc := awayTo_succ (T := T) hget
                obtain ⟨kd9, num9, size9, asks9, rg9, delay9, now9⟩ := a9
                simp only at y1 y2 y3 hsz9 hsucc
                have HLt3 := veil hlt3
                have AM9 := veil (among_any w.heap.size _ T num9 wr HI2.out.told HTL.out)
                clear hget
                cases asks9
                · have HSU := veil (show awayTo As T (j + 1) = awayTo As T j by rw [hsucc]; simp)
                  clear hsucc
                  generalize awayTo As T j = aw at *
                  go_wp2_with fail
                  go_roundw
                  case rel => exact ⟨j + 1, by have := HLt3.out; omega, by go_num, by rw [HSU.out], trivial⟩
                  case measure => have := HLt3.out; simp [intOf]; omega
                · cases hcn : T.contains num9
                  · obtain ⟨aw2, haw2⟩ : ∃ aw2, awayTo As T (j + 1) = aw2 := ⟨_, rfl⟩
                    have hsu : awayTo As T j + size9.toNat = aw2 := by rw [← haw2, hsucc, hcn]; simp
                    have HSU := veil haw2
                    rw [hcn] at AM9
                    obtain ⟨aw, haw⟩ : ∃ aw, awayTo As T j = aw := ⟨_, rfl⟩
                    rw [haw] at hsu hAb ⊢
                    have w9 : IntKind.i64.wrap ((aw : Int) + size9) = (aw2 : Int) := by rw [IntKind.wrap_i64]; omega
                    clear hsucc hcn haw2 haw hsu
                    go_wp2_with fail
                    refine AM9.out.mono ?_
                    rintro e9 w9' ⟨rfl, rfl⟩
                    go_wp2
                    go_roundw
                    case rel => exact ⟨j + 1, by have := HLt3.out; omega, by go_num, by rw [HSU.out], trivial⟩
                    case measure => have := HLt3.out; simp [intOf]; omega
                  · have HSU := veil (show awayTo As T (j + 1) = awayTo As T j by rw [hsucc, hcn]; simp)
                    rw [hcn] at AM9
                    clear hsucc hcn
                    generalize awayTo As T j = aw at *
                    go_wp2_with fail
                    refine AM9.out.mono ?_
                    rintro e9 w9' ⟨rfl, rfl⟩
                    go_wp2
                    go_roundw
                    case rel => exact ⟨j + 1, by have := HLt3.out; omega, by go_num, by rw [HSU.out], trivial⟩
                    case measure => have := HLt3.out; simp [intOf]; omega
              · obtain rfl : j = mm := by omega
                have haw : awayTo As T j = Lg.away s := by have := HI2.out.away; rw [HMM.out] at this; exact this
                obtain ⟨aw, hawe⟩ : ∃ aw, awayTo As T j = aw := ⟨_, rfl⟩
                have AW := veil (away_any g v1 _ wr HI2.out.lok.ld HI2.out.lok.win)
                have RC := veil (room_any g v1 _ wr HI2.out.lok.ld HI2.out.lok.win)
                rw [show (ml s).ask = aw from (haw.symm.trans hawe)] at AW
                have hwin : 2400 ≤ s.win := HI2.out.lok.fit.winL
                rw [show (ml s).win = s.win from rfl] at RC
                have w1 : decide ((s.win : Int) < 2400) = false := by simp; omega
                have w2 : decide (s.win < 2400) = false := by simp; omega
                rw [hawe]
                clear haw hawe hAb hlt3 hj
                go_wp2_with fail
                refine AW.out.mono ?_
                rintro e7 w7 ⟨rfl, rfl⟩
                go_wp2_with fail
                refine RC.out.mono ?_
                rintro e8 w8 ⟨rfl, rfl⟩
                have hlt := HLT.out
                go_wp2
                go_roundw
                case rel => exact ⟨i + 1, v1, _, _, s, As, T, by have := HLT.out; omega, by go_num, rfl, rfl, HI2.out⟩
                case measure => have := HLT.out; simp [intOf]; omega
      · rw [h3] at m0 m1
        clear h3
        have AC0 := veil (led_answer HI1.out.lok (by omega) rg HRG.out (fun p => ⟨by have := HRL.out p; have := HI1.out.gw; omega, fun q => by have := HRL.out p; have := HI1.out.vw _ q; omega⟩) delay now)
        have HBK := veil (HI1.out.book.answer rg.l delay now)
        clear HRL HRG
        go_wp2_with fail
        refine AC0.out.mono ?_
        rintro e1 w1 ⟨u1, u2, v1, rfl, o1, o2, _, hL1, hk1, hv1⟩
        obtain ⟨a1, c1, hu1⟩ := own_shape15 o1
        obtain ⟨a2, c2, hu2⟩ := own_shape15 o2
        subst hu1 hu2
        have hK0 := HI1.out.tell hL1 hk1 hv1 o1 o2 HBK.out
        clear o1 o2 hL1 hk1 hv1 AC0 HBK x0 x1 x2 x3 x4 x5 x6 HBX HI1 HGL HVL
        generalize Lg.ansGot s rg.l delay now = A at *
        generalize Lg.ansLost s rg.l delay now = B at *
        generalize Lg.answer s rg.l delay now = s at *
        have hle := told_le hK0.book
        rw [List.length_append, List.length_append] at hle
        have hle2 := hK0.len
        obtain ⟨n1, hn1⟩ : ∃ n1, A.length = n1 := ⟨_, rfl⟩
        obtain ⟨n2, hn2⟩ : ∃ n2, B.length = n2 := ⟨_, rfl⟩
        have HK0 := veil hK0
        rw [hn1, hn2] at HK0 hle ⊢
        have HN1 := veil hn1
        have HN2 := veil hn2
        obtain ⟨N, hN⟩ : ∃ N, n1 + n2 = N := ⟨_, rfl⟩
        have HNN := veil hN
        have wS : IntKind.i64.wrap ((n1 : Int) + (n2 : Int)) = (N : Int) := by rw [IntKind.wrap_i64]; omega
        have hN3 : N ≤ 301 := by omega
        clear hK0 hle hle2 hn1 hn2 hN
        obtain ⟨sa, sc, hsh⟩ := own_shape15 HK0.out.sent
        obtain ⟨mm, hmm⟩ : ∃ mm, As.length = mm := ⟨_, rfl⟩
        rw [hmm] at hsh
        subst hsh
        have HMM := veil hmm
        have hm3 : mm ≤ 301 := by rw [← hmm]; have := HK0.out.len; omega
        clear hmm
        go_wp2_with fail
        go_loopw [5, 10] (fun tq kv wq => ∃ (k : Nat) (tv' : Value), k ≤ N ∧ kv = .int .i64 k ∧ tq = tv' ∧ OnceK w g (i + 1) As T0 A B s v1 (.slice sa mm sc) (.slice a1 n1 c1) (.slice a2 n2 c2) k tv' wq)
          (fun _ kv _ => N - (intOf kv).toNat)
        case atStart => exact ⟨0, _, Nat.zero_le _, rfl, rfl, HK0.out⟩
        case round =>
          clear HK0
          obtain ⟨k, tq, hk, rfl, htq, hK⟩ := hrel
          symm at htq
          subst htq
          by_cases hlt2 : k < N
          · have hxl : k < (A ++ B).length := by rw [List.length_append]; rw [HN1.out, HN2.out]; have := HNN.out; omega
            obtain ⟨x, hx⟩ : ∃ x, (A ++ B)[k]? = some x := ⟨_, List.getElem?_eq_getElem hxl⟩
            obtain ⟨hno, hl5, ta, tc, W2, q1, hK2⟩ := hK.next hx (by omega)
            obtain ⟨tl, htl⟩ : ∃ tl, (T0 ++ (A ++ B).take (k + 1)).length = tl := ⟨_, rfl⟩
            rw [htl] at q1 hK2
            clear htl
            have AC := veil (among_any w.heap.size _ _ x wr hK.told hl5)
            rw [hno] at AC
            have HQ1 := veil q1
            have HK2 := veil hK2
            have HLt2 := veil hlt2
            have dd : decide ((k : Int) < (N : Int)) = true := by simp; omega
            have dn : decide (k < N) = true := by simp; omega
            by_cases hka : k < n1
            · have hx1 : A[k]? = some x := by rw [List.getElem?_append_left (by rw [HN1.out]; exact hka)] at hx; exact hx
              obtain ⟨g1, rfl⟩ : ∃ g1, a1 = some ⟨g1, 0, none⟩ := by
                rcases hK.r1.2 with ⟨_, q⟩ | ⟨g1, c9, cur, q, _⟩
                · rw [HN1.out] at q; omega
                · injection q with q; exact ⟨g1, q⟩
              have cx := hK.r1.cells (g := g1) rfl k (.int .u64 (x : Int)) (by unfold vnum; rw [List.getElem?_map, hx1]; rfl)
              rw [Addr.add_mid, Nat.zero_add] at cx
              have f1 : decide ((k : Int) < (n1 : Int)) = true := by simp; omega
              have f2 : decide (k < n1) = true := by simp; omega
              clear hxl hx hno hl5 q1 hK2 hK hx1
              go_wp2_with fail
              refine AC.out.mono ?_
              rintro e6 w6 ⟨rfl, rfl⟩
              go_wp2_with (with_reducible (show wpList _ _ _ (⟨some 100, Op.call _, _, _, _, _⟩ :: _) _ _)
                           refine wpL_append rfl _ _ _ rfl _ _ _ _ rfl rfl HQ1.out ?_)
              go_roundw
              case rel => exact ⟨k + 1, _, by have := HLt2.out; omega, by go_num, rfl, HK2.out⟩
              case measure => have := HLt2.out; simp [intOf]; omega
            · have hx1 : B[k - n1]? = some x := by rw [List.getElem?_append_right (show A.length ≤ k by rw [HN1.out]; omega)] at hx; rw [HN1.out] at hx; exact hx
              obtain ⟨g2, rfl⟩ : ∃ g2, a2 = some ⟨g2, 0, none⟩ := by
                rcases hK.r2.2 with ⟨_, q⟩ | ⟨g2, c9, cur, q, _⟩
                · rw [HN2.out] at q; have q2 := (List.getElem?_eq_some_iff.1 hx1).1; rw [HN2.out] at q2; omega
                · injection q with q; exact ⟨g2, q⟩
              obtain ⟨k2, hk2⟩ : ∃ k2, k - n1 = k2 := ⟨_, rfl⟩
              rw [hk2] at hx1
              have cx := hK.r2.cells (g := g2) rfl k2 (.int .u64 (x : Int)) (by unfold vnum; rw [List.getElem?_map, hx1]; rfl)
              rw [Addr.add_mid, Nat.zero_add] at cx
              have hk2l : k2 < n2 := by have := (List.getElem?_eq_some_iff.1 hx1).1; rw [HN2.out] at this; exact this
              have f1 : decide ((k : Int) < (n1 : Int)) = false := by simp; omega
              have f2 : decide (k < n1) = false := by simp; omega
              have f3 : IntKind.i64.wrap ((k : Int) - (n1 : Int)) = (k2 : Int) := by rw [IntKind.wrap_i64]; omega
              clear hxl hx hno hl5 q1 hK2 hK hx1 hk2
              go_wp2_with fail
              refine AC.out.mono ?_
              rintro e6 w6 ⟨rfl, rfl⟩
              go_wp2_with (with_reducible (show wpList _ _ _ (⟨some 100, Op.call _, _, _, _, _⟩ :: _) _ _)
                           refine wpL_append rfl _ _ _ rfl _ _ _ _ rfl rfl HQ1.out ?_)
              go_roundw
              case rel => exact ⟨k + 1, _, by have := HLt2.out; omega, by go_num, rfl, HK2.out⟩
              case measure => have := HLt2.out; simp [intOf]; omega
          · have dd : decide ((k : Int) < (N : Int)) = false := by simp; omega
            have dn : decide (k < N) = false := by simp; omega
            have hI2 := hK.done (show (A ++ B).length ≤ k by rw [List.length_append]; rw [HN1.out, HN2.out]; have := HNN.out; omega)
            obtain ⟨T, hT⟩ : ∃ T, T0 ++ (A ++ B) = T := ⟨_, rfl⟩
            rw [hT] at hI2
            have HI2 := veil hI2
            have hTl : T.length ≤ 100000 := by have := told_le hI2.book; have := hI2.len; omega
            have HTL := veil hTl
            clear hK hT hI2 hTl
            go_wp2_with fail
            go_loopw [12, 13] (fun av jv wq2 => ∃ j : Nat, j ≤ mm ∧ jv = .int .i64 j ∧ av = .int .i64 (awayTo As T j : Int) ∧ wq2 = wr)
              (fun _ jv _ => mm - (intOf jv).toNat)
            case atStart => exact ⟨0, Nat.zero_le _, rfl, by simp [awayTo], rfl⟩
            case round =>
              obtain ⟨j, hj, rfl, rfl, hwq⟩ := hrel
              subst hwq
              have hAb := awayTo_le HI2.out.sz T j
              by_cases hlt3 : j < mm
              · obtain ⟨a9, hget⟩ : ∃ a9, As[j]? = some a9 := ⟨_, List.getElem?_eq_getElem (by rw [HMM.out]; exact hlt3)⟩
                obtain ⟨b9, cp9, hs9, y1, y2, y3⟩ := HI2.out.act hget
                rw [HMM.out] at hs9
                injection hs9 with hs9 _ hs9c
                subst hs9 hs9c
                have hsz9 := HI2.out.sz a9 (List.mem_of_getElem? hget)
                have hsucc := awayTo_succ (T := T) hget
                obtain ⟨kd9, num9, size9, asks9, rg9, delay9, now9⟩ := a9
                simp only at y1 y2 y3 hsz9 hsucc
                have HLt3 := veil hlt3
                have AM9 := veil (among_any w.heap.size _ T num9 wr HI2.out.told HTL.out)
                clear hget
                cases asks9
                · have HSU := veil (show awayTo As T (j + 1) = awayTo As T j by rw [hsucc]; simp)
                  clear hsucc
                  generalize awayTo As T j = aw at *
                  go_wp2_with fail
                  go_roundw
                  case rel => exact ⟨j + 1, by have := HLt3.out; omega, by go_num, by rw [HSU.out], trivial⟩
                  case measure => have := HLt3.out; simp [intOf]; omega
                · cases hcn : T.contains num9
                  · obtain ⟨aw2, haw2⟩ : ∃ aw2, awayTo As T (j + 1) = aw2 := ⟨_, rfl⟩
                    have hsu : awayTo As T j + size9.toNat = aw2 := by rw [← haw2, hsucc, hcn]; simp
                    have HSU := veil haw2
                    rw [hcn] at AM9
                    obtain ⟨aw, haw⟩ : ∃ aw, awayTo As T j = aw := ⟨_, rfl⟩
                    rw [haw] at hsu hAb ⊢
                    have w9 : IntKind.i64.wrap ((aw : Int) + size9) = (aw2 : Int) := by rw [IntKind.wrap_i64]; omega
                    clear hsucc hcn haw2 haw hsu
                    go_wp2_with fail
                    refine AM9.out.mono ?_
                    rintro e9 w9' ⟨rfl, rfl⟩
                    go_wp2
                    go_roundw
                    case rel => exact ⟨j + 1, by have := HLt3.out; omega, by go_num, by rw [HSU.out], trivial⟩
                    case measure => have := HLt3.out; simp [intOf]; omega
                  · have HSU := veil (show awayTo As T (j + 1) = awayTo As T j by rw [hsucc, hcn]; simp)
                    rw [hcn] at AM9
                    clear hsucc hcn
                    generalize awayTo As T j = aw at *
                    go_wp2_with fail
                    refine AM9.out.mono ?_
                    rintro e9 w9' ⟨rfl, rfl⟩
                    go_wp2
                    go_roundw
                    case rel => exact ⟨j + 1, by have := HLt3.out; omega, by go_num, by rw [HSU.out], trivial⟩
                    case measure => have := HLt3.out; simp [intOf]; omega
              · obtain rfl : j = mm := by omega
                have haw : awayTo As T j = Lg.away s := by have := HI2.out.away; rw [HMM.out] at this; exact this
                obtain ⟨aw, hawe⟩ : ∃ aw, awayTo As T j = aw := ⟨_, rfl⟩
                have AW := veil (away_any g v1 _ wr HI2.out.lok.ld HI2.out.lok.win)
                have RC := veil (room_any g v1 _ wr HI2.out.lok.ld HI2.out.lok.win)
                rw [show (ml s).ask = aw from (haw.symm.trans hawe)] at AW
                have hwin : 2400 ≤ s.win := HI2.out.lok.fit.winL
                rw [show (ml s).win = s.win from rfl] at RC
                have w1 : decide ((s.win : Int) < 2400) = false := by simp; omega
                have w2 : decide (s.win < 2400) = false := by simp; omega
                rw [hawe]
                clear haw hawe hAb hlt3 hj
                go_wp2_with fail
                refine AW.out.mono ?_
                rintro e7 w7 ⟨rfl, rfl⟩
                go_wp2_with fail
                refine RC.out.mono ?_
                rintro e8 w8 ⟨rfl, rfl⟩
                have hlt := HLT.out
                go_wp2
                go_roundw
                case rel => exact ⟨i + 1, v1, _, _, s, As, T, by have := HLT.out; omega, by go_num, rfl, rfl, HI2.out⟩
                case measure => have := HLT.out; simp [intOf]; omega
      · rw [h3] at m0 m1
        clear h3
        have LC0 := veil (led_lose HI1.out.lok (by omega) now)
        have HBK := veil (HI1.out.book.lose now)
        clear HRL HRG
        go_wp2_with fail
        refine LC0.out.mono ?_
        rintro e1 w1 ⟨u2, v1, rfl, o2, hL1, hk1, hv1⟩
        obtain ⟨a2, c2, hu2⟩ := own_shape15 o2
        subst hu2
        have hK0 := HI1.out.tell (A := []) (u1 := .slice none 0 0) hL1 hk1 hv1 (World.ownsRow_nil _ _ _ _) o2 HBK.out
        clear o2 hL1 hk1 hv1 LC0 HBK x0 x1 x2 x3 x4 x5 x6 HBX HI1 HGL HVL
        generalize Lg.loseL s now = B at *
        generalize Lg.lose s now = s at *
        have hle := told_le hK0.book
        rw [List.length_append, List.length_append] at hle
        have hle2 := hK0.len
        obtain ⟨n2, hn2⟩ : ∃ n2, B.length = n2 := ⟨_, rfl⟩
        have HK0 := veil hK0
        rw [hn2] at HK0 hle ⊢
        have HN2 := veil hn2
        have wS : IntKind.i64.wrap (n2 : Int) = (n2 : Int) := by rw [IntKind.wrap_i64]; omega
        have hN3 : n2 ≤ 301 := by omega
        clear hK0 hle hle2 hn2
        obtain ⟨sa, sc, hsh⟩ := own_shape15 HK0.out.sent
        obtain ⟨mm, hmm⟩ : ∃ mm, As.length = mm := ⟨_, rfl⟩
        rw [hmm] at hsh
        subst hsh
        have HMM := veil hmm
        have hm3 : mm ≤ 301 := by rw [← hmm]; have := HK0.out.len; omega
        clear hmm
        go_wp2_with fail
        go_loopw [5, 10] (fun tq kv wq => ∃ (k : Nat) (tv' : Value), k ≤ n2 ∧ kv = .int .i64 k ∧ tq = tv' ∧ OnceK w g (i + 1) As T0 [] B s v1 (.slice sa mm sc) (.slice none 0 0) (.slice a2 n2 c2) k tv' wq)
          (fun _ kv _ => n2 - (intOf kv).toNat)
        case atStart => exact ⟨0, _, Nat.zero_le _, rfl, rfl, HK0.out⟩
        case round =>
          clear HK0
          obtain ⟨k, tq, hk, rfl, htq, hK⟩ := hrel
          symm at htq
          subst htq
          by_cases hlt2 : k < n2
          · have hxl : k < ([] ++ B).length := by rw [List.length_append]; rw [HN2.out]; simp; omega
            obtain ⟨x, hx⟩ : ∃ x, ([] ++ B)[k]? = some x := ⟨_, List.getElem?_eq_getElem hxl⟩
            obtain ⟨hno, hl5, ta, tc, W2, q1, hK2⟩ := hK.next hx (by omega)
            obtain ⟨tl, htl⟩ : ∃ tl, (T0 ++ ([] ++ B).take (k + 1)).length = tl := ⟨_, rfl⟩
            rw [htl] at q1 hK2
            clear htl
            have AC := veil (among_any w.heap.size _ _ x wr hK.told hl5)
            rw [hno] at AC
            have HQ1 := veil q1
            have HK2 := veil hK2
            have HLt2 := veil hlt2
            have dd : decide ((k : Int) < (n2 : Int)) = true := by simp; omega
            have dn : decide (k < n2) = true := by simp; omega
            have hx1 : B[k]? = some x := by simpa using hx
            obtain ⟨g2, rfl⟩ : ∃ g2, a2 = some ⟨g2, 0, none⟩ := by
              rcases hK.r2.2 with ⟨_, q⟩ | ⟨g2, c9, cur, q, _⟩
              · rw [HN2.out] at q; have q2 := (List.getElem?_eq_some_iff.1 hx1).1; rw [HN2.out] at q2; omega
              · injection q with q; exact ⟨g2, q⟩
            have cx := hK.r2.cells (g := g2) rfl k (.int .u64 (x : Int)) (by unfold vnum; rw [List.getElem?_map, hx1]; rfl)
            rw [Addr.add_mid, Nat.zero_add] at cx
            have hkl9 : k < n2 := by have := (List.getElem?_eq_some_iff.1 hx1).1; rw [HN2.out] at this; exact this
            have f3 : IntKind.i64.wrap (k : Int) = (k : Int) := by rw [IntKind.wrap_i64]; omega
            clear hxl hx hno hl5 q1 hK2 hK hx1
            go_wp2_with fail
            refine AC.out.mono ?_
            rintro e6 w6 ⟨rfl, rfl⟩
            go_wp2_with (with_reducible (show wpList _ _ _ (⟨some 100, Op.call _, _, _, _, _⟩ :: _) _ _)
                         refine wpL_append rfl _ _ _ rfl _ _ _ _ rfl rfl HQ1.out ?_)
            go_roundw
            case rel => exact ⟨k + 1, _, by have := HLt2.out; omega, by go_num, rfl, HK2.out⟩
            case measure => have := HLt2.out; simp [intOf]; omega
          · have dd : decide ((k : Int) < (n2 : Int)) = false := by simp; omega
            have dn : decide (k < n2) = false := by simp; omega
            have hI2 := hK.done (show ([] ++ B).length ≤ k by rw [List.length_append]; rw [HN2.out]; simp; omega)
            obtain ⟨T, hT⟩ : ∃ T, T0 ++ ([] ++ B) = T := ⟨_, rfl⟩
            rw [hT] at hI2
            have HI2 := veil hI2
            have hTl : T.length ≤ 100000 := by have := told_le hI2.book; have := hI2.len; omega
            have HTL := veil hTl
            clear hK hT hI2 hTl
            go_wp2_with fail
            go_loopw [12, 13] (fun av jv wq2 => ∃ j : Nat, j ≤ mm ∧ jv = .int .i64 j ∧ av = .int .i64 (awayTo As T j : Int) ∧ wq2 = wr)
              (fun _ jv _ => mm - (intOf jv).toNat)
            case atStart => exact ⟨0, Nat.zero_le _, rfl, by simp [awayTo], rfl⟩
            case round =>
              obtain ⟨j, hj, rfl, rfl, hwq⟩ := hrel
              subst hwq
              have hAb := awayTo_le HI2.out.sz T j
              by_cases hlt3 : j < mm
              · obtain ⟨a9, hget⟩ : ∃ a9, As[j]? = some a9 := ⟨_, List.getElem?_eq_getElem (by rw [HMM.out]; exact hlt3)⟩
                obtain ⟨b9, cp9, hs9, y1, y2, y3⟩ := HI2.out.act hget
                rw [HMM.out] at hs9
                injection hs9 with hs9 _ hs9c
                subst hs9 hs9c
                have hsz9 := HI2.out.sz a9 (List.mem_of_getElem? hget)
                have hsucc := awayTo_succ (T := T) hget
                obtain ⟨kd9, num9, size9, asks9, rg9, delay9, now9⟩ := a9
                simp only at y1 y2 y3 hsz9 hsucc
                have HLt3 := veil hlt3
                have AM9 := veil (among_any w.heap.size _ T num9 wr HI2.out.told HTL.out)
                clear hget
                cases asks9
                · have HSU := veil (show awayTo As T (j + 1) = awayTo As T j by rw [hsucc]; simp)
                  clear hsucc
                  generalize awayTo As T j = aw at *
                  go_wp2_with fail
                  go_roundw
                  case rel => exact ⟨j + 1, by have := HLt3.out; omega, by go_num, by rw [HSU.out], trivial⟩
                  case measure => have := HLt3.out; simp [intOf]; omega
                · cases hcn : T.contains num9
                  · obtain ⟨aw2, haw2⟩ : ∃ aw2, awayTo As T (j + 1) = aw2 := ⟨_, rfl⟩
                    have hsu : awayTo As T j + size9.toNat = aw2 := by rw [← haw2, hsucc, hcn]; simp
                    have HSU := veil haw2
                    rw [hcn] at AM9
                    obtain ⟨aw, haw⟩ : ∃ aw, awayTo As T j = aw := ⟨_, rfl⟩
                    rw [haw] at hsu hAb ⊢
                    have w9 : IntKind.i64.wrap ((aw : Int) + size9) = (aw2 : Int) := by rw [IntKind.wrap_i64]; omega
                    clear hsucc hcn haw2 haw hsu
                    go_wp2_with fail
                    refine AM9.out.mono ?_
                    rintro e9 w9' ⟨rfl, rfl⟩
                    go_wp2
                    go_roundw
                    case rel => exact ⟨j + 1, by have := HLt3.out; omega, by go_num, by rw [HSU.out], trivial⟩
                    case measure => have := HLt3.out; simp [intOf]; omega
                  · have HSU := veil (show awayTo As T (j + 1) = awayTo As T j by rw [hsucc, hcn]; simp)
                    rw [hcn] at AM9
                    clear hsucc hcn
                    generalize awayTo As T j = aw at *
                    go_wp2_with fail
                    refine AM9.out.mono ?_
                    rintro e9 w9' ⟨rfl, rfl⟩
                    go_wp2
                    go_roundw
                    case rel => exact ⟨j + 1, by have := HLt3.out; omega, by go_num, by rw [HSU.out], trivial⟩
                    case measure => have := HLt3.out; simp [intOf]; omega
              · obtain rfl : j = mm := by omega
                have haw : awayTo As T j = Lg.away s := by have := HI2.out.away; rw [HMM.out] at this; exact this
                obtain ⟨aw, hawe⟩ : ∃ aw, awayTo As T j = aw := ⟨_, rfl⟩
                have AW := veil (away_any g v1 _ wr HI2.out.lok.ld HI2.out.lok.win)
                have RC := veil (room_any g v1 _ wr HI2.out.lok.ld HI2.out.lok.win)
                rw [show (ml s).ask = aw from (haw.symm.trans hawe)] at AW
                have hwin : 2400 ≤ s.win := HI2.out.lok.fit.winL
                rw [show (ml s).win = s.win from rfl] at RC
                have w1 : decide ((s.win : Int) < 2400) = false := by simp; omega
                have w2 : decide (s.win < 2400) = false := by simp; omega
                rw [hawe]
                clear haw hawe hAb hlt3 hj
                go_wp2_with fail
                refine AW.out.mono ?_
                rintro e7 w7 ⟨rfl, rfl⟩
                go_wp2_with fail
                refine RC.out.mono ?_
                rintro e8 w8 ⟨rfl, rfl⟩
                have hlt := HLT.out
                go_wp2
                go_roundw
                case rel => exact ⟨i + 1, v1, _, _, s, As, T, by have := HLT.out; omega, by go_num, rfl, rfl, HI2.out⟩
                case measure => have := HLT.out; simp [intOf]; omega
    · obtain rfl : i = n := by omega
      have HB := veil hI.bel
      clear hI hlt
      go_wp2_with fail
      refine (lives_any wr).mono ?_
      rintro e1 w1 ⟨rfl, hb1⟩
      have HB1 := veil (show Below w.heap.size w w1 from HB.out.trans (hb1.mono HB.out.size))
      clear hb1
      go_wp2
      go_ret
      exact ⟨rfl, HB1.out⟩
end Go.Proofs.Ytohoieleakieeaa
