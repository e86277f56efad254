/-
  What bits tells: the bits of words, one by one, with their places.
-/
import Derived.Test.YtiecpkkklefjdaaGreatDoorGuHfBitsP
import Derived.Test.YtiecpkkklefjdaaGreatDoorGuRgGuard
namespace Go.Proofs.YtiecpkkklefjdaaGreatDoor
open Go Go.RowKit Go.Shelf
attribute [local go_sem] Oper.semAt_some

def depBt (i : Nat) : List Nat := match i with
  | 3 => [2] | 5 => [3, 4] | 6 => [5] | 7 => [0, 1, 6] | 8 => [7] | _ => []
def dclBt (i : Nat) : List Nat := match i with
  | 3 => [2] | 5 => [3, 4, 2] | 6 => [5, 3, 4, 2] | 7 => [0, 1, 6, 5, 3, 4, 2] | 8 => [7, 0, 1, 6, 5, 3, 4, 2] | _ => []
def valBt (l N b v r : Nat) (x : Bool) (i : Nat) : Value := match i with
  | 0 => .func (.yield l) #[] #[]
  | 1 => .int .i64 (N : Int)
  | 2 => .pointer (some ⟨b, 1, none⟩)
  | 3 => .int .u32 (v : Int)
  | 4 => .int .i64 (r : Int)
  | 5 => .int .u32 ((v / 2 ^ r : Nat) : Int)
  | 6 => .int .u32 (x.toNat : Int)
  | _ => undef
def RBt (W0 : World) (T F : World → Prop) (m : Nat) (W : World) (u : Value) : Prop := match m with
  | 0 => W = W0
  | 1 => u = .bool true ∧ T W ∨ u = .bool false ∧ F W
  | _ => u = .bool false ∧ T W ∨ u = .bool true ∧ F W

set_option maxRecDepth 100000 in
set_option maxHeartbeats 2000000 in
theorem bits1_tells (D : Nat) (gf : Nat) (lb : Array Value) (row : List (Nat × Nat)) (st : Nat → Prop) (w : World) (hD : Row w D 63 #[.func (.func gf) #[] lb])
    (eg : ∀ args w, (callFunc gf args).run Tryz.prog w = .ok (.enter gf args) w)
    (hp : ∀ p ∈ row, p.1 ≤ 30 ∧ p.2 < 4294967296) (hlen : (bitsRow row).length ≤ 1000000000)
    (hrow : ∀ (st' : Nat → Prop) (W : World), Below w.heap.size w W → (∀ k, k < w.heap.size → st' k → st k) → TellsM Tryz.prog gf lb encW st' (StepW row) (EndW row) 0 W) :
    TellsM Tryz.prog 96 #[.pointer (some ⟨D, 0, none⟩)] encB st (StepB (bitsRow row)) (EndB (bitsRow row)) 0 w := by
  intro n l J Js W hbW hJ hJs hY h0
  have HY := veil hY
  have HJ := veil hJ
  have HJS := veil hJs
  have HP := veil hp
  have HLN := veil hlen
  have HROW := veil hrow
  have hwW := hbW.size
  have hDW := hD.below hbW hD.lt
  clear hY hJ hJs hp hlen hrow hD
  have y0 : Row ((W.alloc (.cells #[.func (.yield l) #[] #[]] 148)).alloc (.cells #[.int .i64 0] 3)) W.heap.size 148 #[.func (.yield l) #[] #[]] := (Row.new _ _ _).alloc _
  have a0 : Row ((W.alloc (.cells #[.func (.yield l) #[] #[]] 148)).alloc (.cells #[.int .i64 0] 3)) (W.heap.size + 1) 3 #[.int .i64 0] := Row.new1 _ _ _ _
  have d0 := (hDW.alloc (.cells #[.func (.yield l) #[] #[]] 148)).alloc (.cells #[.int .i64 0] 3)
  have b0 : Below W.heap.size W ((W.alloc (.cells #[.func (.yield l) #[] #[]] 148)).alloc (.cells #[.int .i64 0] 3)) := ((Below.refl _ W).alloc (Nat.le_refl _) _).alloc (by simp) _
  have z0 : ((W.alloc (.cells #[.func (.yield l) #[] #[]] 148)).alloc (.cells #[.int .i64 0] 3)).heap.size = W.heap.size + 2 := by simp
  have cD : ((W.alloc (.cells #[.func (.yield l) #[] #[]] 148)).alloc (.cells #[.int .i64 0] 3)).cell? ⟨D, 0, none⟩ = some (.func (.func gf) #[] lb) := d0.cell 0
  refine callsIn_wide.2 ((callsIn_wide (n := 9)).1 ?_)
  refine callsIn_of_wp_marks Tryz.func96 rfl trivial ?_ rfl
  simp only [Tryz.ntmps96, List.size_toArray, List.length_cons, List.length_nil, Nat.reduceAdd, Nat.reduceSub, Array.replicate_succ, Array.replicate_zero, List.push_toArray, List.append_toArray, List.nil_append, List.cons_append]
  gi_wp2_with fail
  have I0 : BI W.heap.size (W.heap.size + 2) 148 l J 0 (fun _ => False) ((W.alloc (.cells #[.func (.yield l) #[] #[]] 148)).alloc (.cells #[.int .i64 0] 3)) :=
    ⟨⟨_, (fun k h => h.elim), (fun k h1 _ h3 => .inr ⟨h1, h3⟩), HJ.out _ _ _ _ h0 (KeepM.of_below b0)⟩, (fun k h => h.elim), by omega, y0, a0⟩
  have bw := hbW.trans (b0.mono hwW)
  generalize ((W.alloc (.cells #[.func (.yield l) #[] #[]] 148)).alloc (.cells #[.int .i64 0] 3)) = W2 at *
  clear y0 a0 d0 cD h0 b0
  have hab : W.heap.size + 1 < W2.heap.size := by omega
  have hT0 : TellsM Tryz.prog gf lb encW (stIn w.heap.size W.heap.size st) (StepW row) (EndW row) 0 W2 := HROW.out _ W2 bw (fun k hk h => by
    rcases h with h | ⟨h1, h2 | h2⟩
    · omega
    · exact h2
    · omega)
  rw [← z0] at I0
  have HI0 := veil I0
  clear I0
  refine rangeFunc_tellsM (n := 9) (gf := gf) (lb := lb) rfl eg (encs := encW) (fun _ => rfl) (stIn w.heap.size W.heap.size st) (stIn_lt hab) hT0
    (fun j M X => BI W.heap.size W2.heap.size 148 l J (bitsRow (row.take j)).length M X) (fun M X => BS W.heap.size W2.heap.size Js M X) ?hI ?hIs ?hIm ?hIsm ?h0
    (fun p b => { tmps := #[.func (.yield l) #[] #[], .pointer (some ⟨D, 0, none⟩), .pointer (some ⟨W.heap.size, 0, none⟩), .pointer (some ⟨W.heap.size + 1, 0, none⟩), .pointer (some ⟨b, 0, none⟩), undef, .func (.func gf) #[] lb, .agg #[.int .i64 (p.1 : Int), .int .u32 (p.2 : Int)], undef, undef, undef, undef, undef, undef, undef, undef, undef, undef, undef, undef, undef, undef, undef, undef, undef, undef], defers := [] })
    (fun p b X => Row X b 150 #[.int .i64 (p.1 : Int), .int .u32 (p.2 : Int)]) ?hRx ?assign ?body ?done ?stop
  case hI => exact fun s M A B h k => h.keep HJ.out hab k
  case hIs => exact fun M A B h k => h.keep HJS.out hab k
  case hIm => exact fun s M A B h k => h.more HJ.out hab k
  case hIsm => exact fun M A B h k => h.more HJS.out k
  case h0 => exact HI0.out
  case hRx => exact fun p b X X' h e => e.trans h
  case assign =>
    intro l' p X K hK
    unfold encW
    gi_wp2_with fail
    refine hK _ ?_ ?_
    · exact (Below.refl _ X).alloc (Nat.le_refl _) _
    · exact Row.new _ _ _
  case done =>
    rintro D2 j M X hD2 hE hI hK
    obtain ⟨Mo, h1, h2, h3⟩ := hI.ex
    have hEE : (bitsRow (row.take j)).length = (bitsRow row).length := by rw [show j = row.length from hE, List.take_length]
    have hlt := (Array.getElem?_eq_some_iff.1 hK).1
    have HF := veil (show J (bitsRow row).length _ (X.putObj D2 (.deferred none)) from hEE ▸ HJ.out _ _ _ _ h3 (keepM_of_keepP (keepP_put X D2 _) (fun hl => h2 D2 (by omega) (by omega) hl)))
    have HK := veil hK
    clear hK hI h1 h2 h3 hE hD2
    gi_wp2_with fail
    refine ⟨by simp, .inl ⟨_, _, rfl, run_takeDeferred HK.out, ?_⟩⟩
    exact ⟨_, results_none rfl _ _ _, ⟨_, rfl⟩, .inl ⟨_, _, rfl, HF.out⟩⟩
  case stop =>
    rintro D2 M X hD2 hI hK
    obtain ⟨Mo, h1, h2, h3⟩ := hI.ex
    have hlt := (Array.getElem?_eq_some_iff.1 hK).1
    have HF := veil (show Js _ (X.putObj D2 (.deferred none)) from HJS.out _ _ _ h3 (keepM_of_keepP (keepP_put X D2 _) (fun hl => h2 D2 (by omega) (by omega) hl)))
    have HK := veil hK
    clear hK hI h1 h2 h3 hD2
    gi_wp2_with fail
    refine ⟨by simp, .inl ⟨_, _, rfl, run_takeDeferred HK.out, ?_⟩⟩
    exact ⟨_, results_none rfl _ _ _, ⟨_, rfl⟩, .inr ⟨_, HF.out⟩⟩
  case body =>
    rintro l' j p j' M V X ⟨hrj, rfl⟩ hI hk hR hsz hM
    obtain ⟨Mo, h1, h2, h3⟩ := hI.ex
    have hple := HP.out p (List.mem_of_getElem? hrj)
    have HTK := veil (bitsRow_take hrj)
    have HGET := veil (fun i (hi : i < p.1) => bitsRow_get hrj hi)
    have hNle := bitsRow_le row (j + 1)
    rw [HTK.out, List.length_append, Hf.bitsN_length] at hNle
    have hN2 := HLN.out
    have HJ1 := veil (HJ.out _ _ _ _ h3 (keepM_of_keepP hk (fun hl => h2 _ (by omega) (by omega) hl)))
    have HOWN1 := veil (own_new (B := X) h2)
    have HSUB1 := veil (show ∀ k, M k → newM Mo V X k from fun k hk => .inl (h1 k hk))
    have HMB := veil (show newM Mo V X V.heap.size from .inr ⟨Nat.le_refl _, hR.lt⟩)
    have y1 := hk.row hI.y (by omega)
    have a1 := hk.row hI.at_ (by omega)
    have HLO := veil hI.lo
    have HXS := veil (show W2.heap.size + 2 ≤ X.heap.size by have := hk.size; omega)
    have hMb : ¬ M V.heap.size := fun e => by have := hM _ e; omega
    generalize newM Mo V X = M1 at *
    generalize V.heap.size = b at *
    generalize hNdef : (bitsRow (row.take j)).length = N at *
    have c0 : X.cell? ⟨b, 0, none⟩ = some (.int .i64 (p.1 : Int)) := hR.cell 0
    have HND := veil hNdef
    clear hI hk h1 h2 h3 hM hNdef
    gi_wp2_with fail
    gi_loopw [5] (fun av wr => ∃ (i : Nat) (z : Int) (Mo : Nat → Prop), i ≤ p.1 ∧ z + 1 + (i : Int) = (p.1 : Int) ∧ av = .int .i64 z ∧ J (N + i) Mo wr ∧ (∀ k, M k → Mo k) ∧ (∀ k, W.heap.size ≤ k → k < W2.heap.size + 2 → k < wr.heap.size → Mo k) ∧ Mo b ∧ Row wr W.heap.size 148 #[.func (.yield l) #[] #[]] ∧ Row wr (W.heap.size + 1) 3 #[.int .i64 ((N + i : Nat) : Int)] ∧ Row wr b 150 #[.int .i64 (p.1 : Int), .int .u32 (p.2 : Int)] ∧ KeepY (W2.heap.size + 2) (stIn w.heap.size W.heap.size st) M X wr)
      (fun av _ => (intOf av + 1).toNat)
    case atStart => exact ⟨0, _, M1, Nat.zero_le _, by omega, rfl, HJ1.out, HSUB1.out, HOWN1.out, HMB.out, y1, a1, hR, KeepY.refl _ _ _ _⟩
    case round =>
      clear c0 y1 a1 hR HJ1 HSUB1 HOWN1 HMB
      obtain ⟨i, z, Mo, hi, hz, rfl, hj, hsub, hown, hmb, y1, a1, hR, hky⟩ := hrel
      have HKY := veil hky
      have HSUB := veil hsub
      have HOWN := veil hown
      have HMB := veil hmb
      have HJJ := veil hj
      clear hky hsub hown hmb hj
      by_cases hlt : i < p.1
      · obtain ⟨r, rfl⟩ : ∃ r : Nat, z = (r : Int) := ⟨z.toNat, by omega⟩
        have hr : r = p.1 - 1 - i := by omega
        have HG := veil (HGET.out i hlt)
        rw [← hr] at HG
        have hr30 : r ≤ 32 := by omega
        have HW3 := veil (HJ.out _ _ _ _ HJJ.out (KeepM.of_below ((Below.refl _ wr).drew)))
        have HSUB3 := veil (show ∀ k, M k → newM Mo wr wr.drew k from fun k hk => .inl (HSUB.out k hk))
        have HOWN3 := veil (own_new (B := wr.drew) HOWN.out)
        have HMB3 := veil (show newM Mo wr wr.drew b from .inl HMB.out)
        have HKY3 := veil (HKY.out.trans (KeepY.of_below ((Below.refl _ wr).drew)))
        have cy : wr.drew.cell? ⟨W.heap.size, 0, none⟩ = some (.func (.yield l) #[] #[]) := y1.drew.cell 0
        have ca : wr.drew.cell? ⟨W.heap.size + 1, 0, none⟩ = some (.int .i64 ((N + i : Nat) : Int)) := a1.drew.cell 0
        have cb : wr.drew.cell? ⟨b, 1, none⟩ = some (.int .u32 (p.2 : Int)) := hR.drew.cell 1
        have y3 := y1.drew
        have a3 := a1.drew
        have R3 := hR.drew
        generalize hM3 : newM Mo wr wr.drew = M3 at *
        have HYY := veil (HY.out (N + i) (N + i, decide (p.2 / 2 ^ r % 2 = 1)) (N + i + 1) M3 wr.drew ⟨rfl, HG.out, rfl⟩ HW3.out)
        have hbit : ((decide (p.2 / 2 ^ r % 2 = 1)).toNat : Int) = ((p.2 / 2 ^ r % 2 : Nat) : Int) := by
          by_cases c : p.2 / 2 ^ r % 2 = 1
          · rw [decide_eq_true c, c]; rfl
          · rw [decide_eq_false c, show p.2 / 2 ^ r % 2 = 0 by omega]; rfl
        have hdv : p.2 / 2 ^ r < 4294967296 := Nat.lt_of_le_of_lt (Nat.div_le_self _ _) hple.2
        generalize decide (p.2 / 2 ^ r % 2 = 1) = bt at *
        clear y1 a1 hR hr hM3
        gi_wp2_with fail
        refine wpIn_region_any (by kernel_rfl) ?_
        refine anyIn_spine (valBt l (N + i) b p.2 r bt) (RBt wr.drew (fun W' => J (N + i + 1) M3 W' ∧ KeepY w.heap.size st M3 wr.drew W') (fun W' => Js M3 W' ∧ KeepY w.heap.size st M3 wr.drew W')) undef [7, 8] [15, 16, 17, 18, 19, 20, 21, 22, 23] depBt dclBt (by kernel_rfl) (by decide) rfl (by decide) (by decide) ?ord (by decide) rfl ?fix ?cal ?don
        case ord =>
          intro k i j h1 h2
          match k, h1, h2 with
          | 0, h1, h2 =>
            obtain rfl := Option.some.inj h1
            obtain rfl := Option.some.inj h2
            decide
          | 1, _, h2 => simp at h2
          | _ + 2, h1, _ => simp at h1
        case fix =>
          intro x W4 m2 ii d u hRR hdi hni hdep hlo hhi
          have hm : m2 = 0 ∨ 8 < ii := by
            by_cases h8 : 8 < ii
            · exact .inr h8
            · refine .inl (Nat.le_zero.1 (hhi 0 7 rfl ?_))
              have : ii = 0 ∨ ii = 1 ∨ ii = 2 ∨ ii = 3 ∨ ii = 4 ∨ ii = 5 ∨ ii = 6 := by
                have : ii ≠ 7 := fun e => hni (by rw [e]; decide)
                have : ii ≠ 8 := fun e => hni (by rw [e]; decide)
                omega
              rcases this with rfl | rfl | rfl | rfl | rfl | rfl | rfl <;> decide
          by_cases h8 : 8 < ii
          · rw [List.getElem?_eq_none (by simp; omega)] at hdi
            cases hdi
          obtain rfl := hm.resolve_right h8
          have hW4 : W4 = wr.drew := hRR
          subst hW4
          clear hm h8 hRR
          match ii, hdi, hdep with
          | 0, hdi, _ =>
            obtain rfl := Option.some.inj hdi
            exact OI_value rfl rfl (about_none (by intro c h; cases h)) (by intro c h; cases h) (.func (.yield l) #[] #[]) wr.drew (run_cellH 148 _ ⟨W.heap.size, 0, none⟩ _ _ rfl (by kernel_rfl) Tryz.underlying148 rfl _ cy) ⟨rfl, rfl⟩
          | 1, hdi, _ =>
            obtain rfl := Option.some.inj hdi
            exact OI_value rfl rfl (about_none (by intro c h; cases h)) (by intro c h; cases h) (.int .i64 ((N + i : Nat) : Int)) wr.drew (run_cellH 3 _ ⟨W.heap.size + 1, 0, none⟩ _ _ rfl (by kernel_rfl) Tryz.underlying3 rfl _ ca) ⟨rfl, rfl⟩
          | 2, hdi, _ =>
            obtain rfl := Option.some.inj hdi
            exact OI_value rfl rfl (about_none (by intro c h; cases h)) (by intro c h; cases h) (.pointer (some ⟨b, 1, none⟩)) wr.drew (by kernel_rfl) ⟨rfl, rfl⟩
          | 3, hdi, hdep =>
            obtain rfl := Option.some.inj hdi
            rw [updV_self (show x 2 = _ from hdep 2 (by simp [depBt]) (by decide))]
            exact OI_value rfl rfl (about_none (by intro c h; cases h)) (by intro c h; cases h) (.int .u32 (p.2 : Int)) wr.drew (run_cellH 65 _ ⟨b, 1, none⟩ _ _ rfl (by kernel_rfl) Tryz.underlying65 rfl _ cb) ⟨rfl, rfl⟩
          | 4, hdi, _ =>
            obtain rfl := Option.some.inj hdi
            exact OI_value rfl rfl (about_none (by intro c h; cases h)) (by intro c h; cases h) (.int .i64 (r : Int)) wr.drew (by kernel_rfl) ⟨rfl, rfl⟩
          | 5, hdi, hdep =>
            obtain rfl := Option.some.inj hdi
            rw [updV_self (show x 3 = _ from hdep 3 (by simp [depBt]) (by decide)), updV_self (show (updV x 3 _) 4 = _ from hdep 4 (by simp [depBt]) (by decide))]
            exact OI_value rfl rfl (about_none (by intro c h; cases h)) (by intro c h; cases h) (.int .u32 ((p.2 / 2 ^ r : Nat) : Int)) wr.drew (run_shrH _ _ _ _ p.2 r _ hr30 rfl rfl (by kernel_rfl) (by kernel_rfl) _) ⟨rfl, rfl⟩
          | 6, hdi, hdep =>
            obtain rfl := Option.some.inj hdi
            rw [updV_self (show x 5 = _ from hdep 5 (by simp [depBt]) (by decide))]
            refine OI_value rfl rfl (about_none (by intro c h; cases h)) (by intro c h; cases h) (.int .u32 ((p.2 / 2 ^ r % 2 : Nat) : Int)) wr.drew (run_andH _ _ _ _ (p.2 / 2 ^ r) hdv rfl (by kernel_rfl) (by kernel_rfl) _) ⟨?_, rfl⟩
            rw [← hbit]
            rfl
          | 7, _, _ => exact absurd (by decide) hni
          | 8, _, _ => exact absurd (by decide) hni
        case cal =>
          intro x W4 k2 ii d u hRR hk hdi hdep hu0 hup
          match k2, hk, hRR, hup with
          | 0, hk, hRR, _ =>
            obtain rfl := Option.some.inj hk
            obtain rfl := Option.some.inj hdi
            have hW4 : W4 = wr.drew := hRR
            subst hW4
            rw [updV_self (show x 0 = _ from hdep 0 (by simp [depBt]) (by decide)), updV_self (show (updV x 0 _) 1 = _ from hdep 1 (by simp [depBt]) (by decide)), updV_self (show (updV (updV x 0 _) 1 _) 6 = _ from hdep 6 (by simp [depBt]) (by decide))]
            obtain ⟨fn, tmps, assign, body, hy, hRND⟩ := HYY.out 6
            refine OI_yield rfl rfl (by intro c h; cases h) l fn tmps assign body (fun _ _ => trivial) (exec_yield2 (.tmp 15) (.tmp 16) (.tmp 21) 3 65 l _ _ _ rfl (by kernel_rfl) (by kernel_rfl) (by kernel_rfl) hy) (by decide) ?_
            refine RoundIn.mono hRND ?_
            rintro e w' ⟨⟨rfl, hj'⟩ | ⟨rfl, hj'⟩, hk'⟩
            · exact ⟨_, rfl, _, rfl, .inl ⟨rfl, hj', hk'⟩⟩
            · exact ⟨_, rfl, _, rfl, .inr ⟨rfl, hj', hk'⟩⟩
          | 1, hk, hRR, hup =>
            obtain rfl := Option.some.inj hk
            obtain rfl := Option.some.inj hdi
            have hx7 : x 7 = u := hup 0 7 rfl rfl
            rcases hRR with ⟨rfl, hT⟩ | ⟨rfl, hF⟩
            · rw [updV_self (show x 7 = _ from hx7)]
              exact OI_value rfl rfl (about_none (by intro c h; cases h)) (by intro c h; cases h) (.bool false) W4 (by kernel_rfl) ⟨_, rfl, .inl ⟨rfl, hT⟩⟩
            · rw [updV_self (show x 7 = _ from hx7)]
              exact OI_value rfl rfl (about_none (by intro c h; cases h)) (by intro c h; cases h) (.bool true) W4 (by kernel_rfl) ⟨_, rfl, .inr ⟨rfl, hF⟩⟩
          | _ + 2, hk, _, _ => simp at hk
        case don =>
          intro x W4 u hRR hx hlast
          have q0 := hx 0 (by decide) (by decide)
          have q1 := hx 1 (by decide) (by decide)
          have q2 := hx 2 (by decide) (by decide)
          have q3 := hx 3 (by decide) (by decide)
          have q4 := hx 4 (by decide) (by decide)
          have q5 := hx 5 (by decide) (by decide)
          have q6 := hx 6 (by decide) (by decide)
          have q8 := hlast 1 8 rfl rfl
          simp only [putsV, q0, q1, q2, q3, q4, q5, q6, q8, valBt, Act.put, List.setIfInBounds_toArray, List.set_cons_succ, List.set_cons_zero, Nat.reduceAdd]
          generalize x 7 = x7
          clear q0 q1 q2 q3 q4 q5 q6 q8 hx hlast
          rcases hRR with ⟨rfl, hT, hk4⟩ | ⟨rfl, hF, hk4⟩
          · have y4 : Row W4 W.heap.size _ _ := (hk4.block _ y3.lt (.inr (HOWN3.out _ (by omega) (by omega) y3.lt))).trans y3
            have a4 : Row W4 (W.heap.size + 1) _ _ := (hk4.block _ a3.lt (.inr (HOWN3.out _ (by omega) (by omega) a3.lt))).trans a3
            have R4 : Row W4 b _ _ := (hk4.block _ R3.lt (.inr HMB3.out)).trans R3
            have ca4 : W4.cell? ⟨W.heap.size + 1, 0, none⟩ = some (.int .i64 ((N + i : Nat) : Int)) := a4.cell 0
            have fa4 := a4.frozen 0
            have hs4 := hk4.size
            have HJ4 := veil (HJ.out _ _ _ _ hT (KeepM.setCell (g := W.heap.size + 1) (HOWN3.out _ (by omega) (by omega) a3.lt) W4 0 (.int .i64 ((N + i + 1 : Nat) : Int))))
            have HSUB4 := veil (show ∀ k, M k → newM M3 W4 (W4.setCell ⟨W.heap.size + 1, 0, none⟩ (.int .i64 ((N + i + 1 : Nat) : Int))) k from fun k hk => .inl (HSUB3.out k hk))
            have HOWN4 := veil (own_new (a := W.heap.size) (b := W2.heap.size) (Mo := M3) (A := W4) (B := W4.setCell ⟨W.heap.size + 1, 0, none⟩ (.int .i64 ((N + i + 1 : Nat) : Int))) (fun k h1 h2 h3 => by
              rcases Nat.lt_or_ge k wr.drew.heap.size with c | c
              · exact HOWN3.out k h1 h2 c
              · have hx1 := HXS.out
                have hx2 := HKY3.out.size
                omega))
            have HMB4 := veil (show newM M3 W4 (W4.setCell ⟨W.heap.size + 1, 0, none⟩ (.int .i64 ((N + i + 1 : Nat) : Int))) b from .inl HMB3.out)
            have HKY4 := veil ((HKY3.out.trans (keepY_in hk4 HSUB3.out HOWN3.out)).trans (KeepY.setCell (g := W.heap.size + 1) (.inl (.inl rfl)) (fun e => by have := HLO.out _ e; omega) W4 0 (.int .i64 ((N + i + 1 : Nat) : Int))))
            have y5 := y4.other (a := ⟨W.heap.size + 1, 0, none⟩) (show W.heap.size ≠ W.heap.size + 1 by omega) (.int .i64 ((N + i + 1 : Nat) : Int))
            have a5 : Row (W4.setCell ⟨W.heap.size + 1, 0, none⟩ (.int .i64 ((N + i + 1 : Nat) : Int))) (W.heap.size + 1) 3 #[.int .i64 ((N + i + 1 : Nat) : Int)] := a4.set 0 (.int .i64 ((N + i + 1 : Nat) : Int))
            have R5 := R4.other (a := ⟨W.heap.size + 1, 0, none⟩) (show b ≠ W.heap.size + 1 by omega) (.int .i64 ((N + i + 1 : Nat) : Int))
            have hN5 : ((N + i : Nat) : Int) + 1 = ((N + i + 1 : Nat) : Int) := by omega
            clear hT hk4
            gi_wp2_with fail
            go_roundw
            case rel => exact ⟨i + 1, (r : Int) - 1, _, by omega, by omega, by go_num, HJ4.out, HSUB4.out, HOWN4.out, HMB4.out, y5, a5, R5, HKY4.out⟩
            case measure => simp [intOf]
          · have HPOST := veil (show KeepY (W2.heap.size + 2) (stIn w.heap.size W.heap.size st) M X W4 from HKY3.out.trans (keepY_in hk4 HSUB3.out HOWN3.out))
            have HBS := veil (show BS W.heap.size W2.heap.size Js M W4 from ⟨⟨M3, HSUB3.out, (fun k h1 h2 h3 => HOWN3.out k h1 h2 (by have hx1 := HXS.out; have hx2 := HKY3.out.size; omega)), hF⟩, HLO.out, by have := HPOST.out.size; have := HXS.out; omega⟩)
            clear hF hk4
            gi_wp2_with fail
            rw [← z0]
            exact ⟨HPOST.out, HBS.out⟩
      · have hz1 : z = -1 := by omega
        subst hz1
        obtain rfl : i = p.1 := by omega
        have hNN : (bitsRow (row.take (j + 1))).length = N + p.1 := by rw [HTK.out, List.length_append, Hf.bitsN_length, HND.out]
        have HPOST := veil (show BI W.heap.size W2.heap.size 148 l J (bitsRow (row.take (j + 1))).length M wr from ⟨⟨Mo, HSUB.out, HOWN.out, by rw [hNN]; exact HJJ.out⟩, HLO.out, by have := HKY.out.size; have := HXS.out; omega, y1, by rw [hNN]; exact a1⟩)
        clear hz hlt hNN
        gi_wp2_with fail
        rw [← z0]
        exact ⟨HKY.out, HPOST.out⟩
end Go.Proofs.YtiecpkkklefjdaaGreatDoor
