/-
  What the law's of, sum and repeat answer.
-/
import Derived.Test.YtholddbmnlnkkaaPlTag
import Derived.Deep.QuietTactic
import Derived.BigQuiet
namespace Go.Proofs.Ytholddbmnlnkkaa
open Go Go.RowKit

theorem alloc_row {P : Program} {ops : Array Oper} {rest : List Oper} {o : Oper} {a : Act} {w : World} {Q : Exit → Act → World → Prop} (hgd : o.guard = none) (t : TypeId) (ho : o.op = .alloc t) (cs : Array Value) (hz : (P.info? t).map (·.zero) = some (some (.agg cs)))
    (h : wpList P ops Q rest (a.put o.dst (.pointer (some ⟨w.heap.size, 0, none⟩))) (w.alloc (.cells cs t))) : wpList P ops Q (o :: rest) a w :=
  wpList_plain hgd fun _ hK => by
    unfold Oper.wp
    rw [exec_alloc_row t ho cs hz]
    exact hK _ _ h
theorem tagL_length (key b : List By) : (tagL key b).length = 16 := by16_length _
set_option maxRecDepth 20000 in
set_option maxHeartbeats 1000000 in
theorem of_any (key : List By) (hk : key.length = 32) (q : SL) (w : World) (hq : q.Ok w) (hl : q.len ≤ 4194304) :
    Calls Try.prog 13 #[.agg (bs key), .slice q.a q.len q.cap] w fun e w' => e = .returned (.agg (bs (tagL key q.b))) ∧ Below w.heap.size w w' := by
  obtain ⟨w0, hw0⟩ : ∃ w0, w0 = (w.alloc (.cells (bs key) 22)).alloc (.cells (bs z16) 25) := ⟨_, rfl⟩
  have rk : Row w0 w.heap.size 22 (bs key) := by rw [hw0]; exact (Row.new _ _ _).alloc _
  have ro : Row w0 (w.heap.size + 1) 25 (bs z16) := by rw [hw0]; exact Row.new1 _ _ _ _
  have b0 : Below w.heap.size w w0 := by rw [hw0]; exact ((Below.refl _ w).alloc (Nat.le_refl _) _).alloc (by simp) _
  have HQ := veil (hq.below b0)
  have hks : (bs key).size = 32 := by rw [bs_size, hk]
  have HK := veil hk
  have rk' := rk
  rw [hw0] at rk'
  have HW0 := veil hw0
  clear hk hq hw0 rk
  go_enter Try.func13, Try.ntmps13
  go_wp2_with (first
    | (with_reducible (show wpList _ _ _ (⟨_, Op.alloc 25, _, _, _, _⟩ :: _) _ _)
       refine alloc_row rfl 25 rfl (bs z16) (by kernel_rfl) ?_)
    | (with_reducible (show wpList _ _ _ (⟨_, Op.load 22 _, _, _, _, _⟩ :: _) _ _)
       refine load_row rfl 22 _ rfl w.heap.size rfl _ _ rk' 32 5 Try.underlying22 (by kernel_rfl) hks ?_))
  rw [← HW0.out]
  refine (tag_any key HK.out q w0 HQ.out hl).mono ?_
  rintro e1 w1 ⟨rfl, hb1⟩
  have k0 := ro.below hb1 ro.lt
  have hs0 := b0.size
  have kb := b0.trans (hb1.mono hs0)
  have ht : (bs (tagL key q.b)).size = 16 := by rw [bs_size, tagL_length]
  generalize hT : tagL key q.b = T at *
  have HT := veil hT
  clear hT
  have q0 : Row (w1.alloc (.cells (bs T) 25)) w1.heap.size 25 (bs T) := Row.new _ _ _
  have k1 := k0.alloc (.cells (bs T) 25)
  have kb1 := kb.alloc kb.size (.cells (bs T) 25)
  clear hb1 ro rk' b0 HW0
  go_wp2_with (first
    | (with_reducible (show wpList _ _ _ (⟨_, Op.alloc 25, _, _, _, _⟩ :: _) _ _)
       refine alloc_row rfl 25 rfl (bs z16) (by kernel_rfl) ?_)
    | (with_reducible (show wpList _ _ _ (⟨_, Op.store 25 (.tmp 5) _, _, _, _, _⟩ :: _) _ _)
       refine store_new (w := w1) (by rfl) 25 _ _ (by rfl) w1.heap.size (bs T) (by rfl) (by rfl) 25 (bs z16) (by rfl) 16 (by kernel_rfl) (by rfl) ht (bs_one _) ?_)
    | (with_reducible (show wpList _ _ _ (⟨_, Op.load 25 _, _, _, _, _⟩ :: _) _ _)
       refine load_row rfl 25 _ rfl w1.heap.size rfl _ _ q0 16 5 Try.underlying25 (by kernel_rfl) ht ?_)
    | (with_reducible (show wpList _ _ _ (⟨_, Op.store 25 (.tmp 4) _, _, _, _, _⟩ :: _) _ _)
       refine store_row rfl 25 _ _ rfl (w.heap.size + 1) (bs T) rfl rfl _ _ k1 16 (by kernel_rfl) (by rfl) ht (bs_one _) ?_))
  refine bodyPost_ret (result_row rfl _ _ (w.heap.size + 1) _ _ (k1.put _) 16 5 rfl Try.underlying25 (by kernel_rfl) ht) rfl ⟨by rw [HT.out], bSetRow kb1 (by omega) _⟩

/-! ### The law's sum -/
theorem byte_stable (v m : Nat) {j k : Nat} (h : j < k) : (v + m * 256 ^ k) / 256 ^ j % 256 = v / 256 ^ j % 256 := by
  obtain ⟨d, rfl⟩ : ∃ d, k = j + (d + 1) := ⟨k - j - 1, by omega⟩
  rw [Nat.pow_add, Nat.pow_succ, show m * (256 ^ j * (256 ^ d * 256)) = 256 ^ j * (m * 256 ^ d * 256) by simp only [Nat.mul_left_comm, Nat.mul_assoc], Nat.add_mul_div_left _ _ (Nat.pow_pos (by decide)), Nat.add_mul_mod_self_right]
theorem byteAt_stable (v m : Nat) {j k : Nat} (h : j < k) : byteAt (v + m * 256 ^ k) j = byteAt v j := by
  unfold byteAt
  apply BitVec.eq_of_toNat_eq
  rw [BitVec.toNat_ofNat, BitVec.toNat_ofNat]
  exact byte_stable v m h
/-- The sum of the first k bytes of two numbers. -/
def sumK (a b : List By) (k : Nat) : Nat := leK a k + leK b k
theorem sumK_succ (a b : List By) (k : Nat) : sumK a b (k + 1) = sumK a b k + ((gb a k).toNat + (gb b k).toNat) * 256 ^ k := by
  unfold sumK
  rw [show leK a (k + 1) = leK a k + (gb a k).toNat * 256 ^ k from rfl, show leK b (k + 1) = leK b k + (gb b k).toNat * 256 ^ k from rfl, Nat.add_mul]
  omega
theorem sumK_div (a b : List By) (k : Nat) : sumK a b (k + 1) / 256 ^ k = sumK a b k / 256 ^ k + ((gb a k).toNat + (gb b k).toNat) := by
  rw [sumK_succ, Nat.mul_comm ((gb a k).toNat + (gb b k).toNat), Nat.add_mul_div_left _ _ (Nat.pow_pos (by decide))]
theorem sumK_more (a b : List By) (k : Nat) : sumK a b k / 256 ^ k ≤ 1 := by
  have h1 := leK_lt a k
  have h2 := leK_lt b k
  have : sumK a b k / 256 ^ k < 2 := by
    rw [Nat.div_lt_iff_lt_mul (Nat.pow_pos (by decide))]
    unfold sumK
    omega
  omega

set_option maxRecDepth 20000 in
set_option maxHeartbeats 1000000 in
theorem lawSum_any (a b : List By) (ha : a.length = 16) (hb : b.length = 16) (w : World) :
    Calls Try.prog 12 #[.agg (bs a), .agg (bs b)] w fun e w' => e = .returned (.agg (bs (by16 (sumK a b 16)))) ∧ Below w.heap.size w w' := by
  have HA := veil ha
  have HB := veil hb
  clear ha hb
  go_enter Try.func12, Try.ntmps12
  go_wp2
  go_loopw [5, 6] (fun mv iv wr => ∃ (k : Nat) (zs : List By), k ≤ 16 ∧ iv = .int .i64 k ∧ mv = .int .i64 ((sumK a b k / 256 ^ k : Nat) : Int) ∧ Hid (zs.length = 16) ∧ Hid (∀ j, j < k → gb zs j = byteAt (sumK a b k) j) ∧ Hid (∀ j, k ≤ j → gb zs j = gb a j) ∧ Row wr w.heap.size 25 (bs zs) ∧ Row wr (w.heap.size + 1) 25 (bs b) ∧ Row wr (w.heap.size + 1 + 1) 25 (bs z16) ∧ Below w.heap.size w wr)
    (fun _ iv _ => 16 - (intOf iv).toNat)
  case atStart =>
    exact ⟨0, a, by omega, rfl, by simp [sumK, leK], HA, fun j hj => by omega, fun j _ => rfl, ((Row.new _ _ _).alloc _).alloc _, (Row.new1 _ _ _ _).alloc _, Row.new2 _ _ _ _ (bs z16), (((Below.refl _ w).alloc (Nat.le_refl _) _).alloc (by simp) _).alloc (by simp; omega) _⟩
  case round =>
    obtain ⟨k, zs, hk, rfl, rfl, HL, HD, HU, r0, r1, r2, hbel⟩ := hrel
    by_cases h16 : k < 16
    · have hdk : decide ((k : Int) < 16) = true := by simp; omega
      have cx := r0.cellB (j := k) (by rw [HL.out]; exact h16)
      have fx := r0.frozen k
      have cy := r1.cellB (j := k) (by rw [HB.out]; exact h16)
      rw [HU.out k (Nat.le_refl _)] at cx
      obtain ⟨x, hxe⟩ : ∃ x, x = (gb a k).toNat := ⟨_, rfl⟩
      obtain ⟨y, hye⟩ : ∃ y, y = (gb b k).toNat := ⟨_, rfl⟩
      have hx8 : x < 256 := by rw [hxe]; exact (gb a k).isLt
      have hy8 : y < 256 := by rw [hye]; exact (gb b k).isLt
      rw [show v8 (gb a k) = (x : Int) by rw [hxe]; rfl] at cx
      rw [show v8 (gb b k) = (y : Int) by rw [hye]; rfl] at cy
      obtain ⟨m, hme⟩ : ∃ m, m = sumK a b k / 256 ^ k := ⟨_, rfl⟩
      have hm1 : m ≤ 1 := by rw [hme]; exact sumK_more a b k
      have HDIV : Hid (sumK a b (k + 1) / 256 ^ k = m + (x + y)) := show _ = _ by rw [sumK_div, hme, hxe, hye]
      have HSUC : Hid (sumK a b (k + 1) = sumK a b k + (x + y) * 256 ^ k) := show _ = _ by rw [sumK_succ, hxe, hye]
      rw [← hme]
      clear hxe hye hme
      have hw1 : IntKind.i64.wrap (x : Int) = (x : Int) := by rw [IntKind.wrap_i64]; omega
      have hw2 : IntKind.i64.wrap (y : Int) = (y : Int) := by rw [IntKind.wrap_i64]; omega
      have HV : Hid (((m : Int) + (x : Int) + (y : Int)) % 256 = v8 (byteAt (sumK a b (k + 1)) k)) := show _ = _ by
        rw [v8_byteAt, HDIV.out]
        omega
      have HM : Hid (((m : Int) + (x : Int) + (y : Int)) / 256 = ((sumK a b (k + 1) / 256 ^ (k + 1) : Nat) : Int)) := show _ = _ by
        rw [Nat.pow_succ, ← Nat.div_div_eq_div_mul, HDIV.out]
        omega
      go_wp2
      go_quiet (fail)
      go_wp2
      go_roundw
      case rel =>
        rw [HV.out, HM.out]
        have q0 := r0.set k (.int .u8 (v8 (byteAt (sumK a b (k + 1)) k)))
        rw [bs_set] at q0
        refine ⟨k + 1, _, by omega, by go_num, rfl, ?_, ?_, ?_, q0, r1.other (by show w.heap.size + 1 ≠ w.heap.size; omega) _, r2.other (by show w.heap.size + 1 + 1 ≠ w.heap.size; omega) _, (below_drewN hbel _).setCell (p := ⟨w.heap.size, k, none⟩) (Nat.le_refl _) _⟩
        · show List.length _ = 16
          rw [List.length_set]; exact HL.out
        · intro j hj
          rw [gb_set _ (by rw [HL.out]; exact h16)]
          split
          · rename_i h; rw [h]
          · rw [HD.out j (by omega), HSUC.out, byteAt_stable _ _ (by omega)]
        · intro j hj
          rw [gb_set _ (by rw [HL.out]; exact h16), if_neg (by omega)]
          exact HU.out j (by omega)
      case measure => simp [intOf]; omega
    · have hdk : decide ((k : Int) < 16) = false := by simp; omega
      rw [show k = 16 by omega] at HD
      have e := by16_of HL.out HD.out
      have hsz : (bs zs).size = 16 := by rw [bs_size, HL.out]
      have HE := veil e
      clear e
      go_wp2_with (first
        | (with_reducible (show wpList _ _ _ (⟨_, Op.load 25 _, _, _, _, _⟩ :: _) _ _)
           refine load_row rfl 25 _ rfl w.heap.size rfl _ _ r0 16 5 Try.underlying25 (by kernel_rfl) hsz ?_)
        | (with_reducible (show wpList _ _ _ (⟨_, Op.store 25 _ _, _, _, _, _⟩ :: _) _ _)
           refine store_row rfl 25 _ _ rfl (w.heap.size + 1 + 1) (bs zs) rfl rfl _ _ r2 16 (by kernel_rfl) rfl hsz (bs_one _) ?_))
      refine bodyPost_ret (result_row rfl _ _ (w.heap.size + 1 + 1) _ _ (r2.put _) 16 5 rfl Try.underlying25 (by kernel_rfl) hsz) rfl ⟨by rw [HE.out], bSetRow hbel (by omega) _⟩

/-! ### The law's repeat -/
theorem own_shape {w : World} {base n : Nat} {e : TypeId} {v : Value} {xs : List Value} (h : w.ownsRow base e 1 v n xs) : ∃ a c, v = .slice a n c := by
  rcases h.2 with ⟨rfl, rfl⟩ | ⟨g, c, cur, rfl, _⟩
  · exact ⟨_, _, rfl⟩
  · exact ⟨_, _, rfl⟩
set_option maxRecDepth 20000 in
set_option maxHeartbeats 1000000 in
theorem repeat_any (c : By) (N : Nat) (hN : N ≤ 1000) (w : World) :
    Calls Try.prog 27 #[.int .u8 (v8 c), .int .i64 (N : Int)] w fun e w' => ∃ v, e = .returned v ∧ w'.ownsRow w.heap.size 5 1 v N (vb (List.replicate N c)) ∧ Below w.heap.size w w' := by
  obtain ⟨i0, hi, hz0, hz1, hz2⟩ := info_parts (P := Try.prog) (e := 5) (z := .int .u8 0) (size := 1) (bytes := 1) (by kernel_rfl)
  go_enter Try.func27, Try.ntmps27
  go_wp2
  go_loopw [5, 6] (fun v iv wr => ∃ (n : Nat) (a : Option Addr) (cp : Nat), n ≤ N ∧ iv = .int .i64 n ∧ v = .slice a n cp ∧ wr.ownsRow w.heap.size 5 1 (.slice a n cp) n (vb (List.replicate n c)) ∧ Below w.heap.size w wr)
    (fun _ iv _ => N - (intOf iv).toNat)
  case atStart => exact ⟨0, none, 0, by omega, rfl, rfl, World.ownsRow_nil _ _ _ _, Below.refl _ _⟩
  case round =>
    obtain ⟨n, a2, c2, hn, rfl, rfl, hown, hbel⟩ := hrel
    have HOWN := veil hown
    have HB := veil hbel
    have hsz := hbel.size
    clear hown hbel
    by_cases hlt : n < N
    · have hdk : decide ((n : Int) < (N : Int)) = true := by simp; omega
      go_wp2_with (with_reducible (show wpList _ _ _ (⟨some 15, Op.call _, _, _, _, _⟩ :: _) _ _)
                   refine wpList_append_own _ rfl _ _ 23 rfl w.heap.size 5 i0 (.int .u8 0) 1 1 Try.underlying23 hi hz0 hz1 hz2 rfl (by decide) _ n _ rfl (HOWN.out.alloc _) ⟨wr.heap.size, 0, none⟩ 1 1 [.int .u8 (v8 c)] rfl rfl (cell_one_new _ _ _) (by simp [Value.oneCell']) (by unfold maxLen; omega) (by omega) (by simp; omega) ?_
                   intro v5 w5 hown5 hgrow5 _
                   obtain ⟨a5, c5, rfl⟩ := own_shape hown5)
      refine ⟨⟨n + 1, a5, c5, by omega, by go_num, rfl, ?_, (HB.out.alloc hsz _).grown hgrow5 (by simp; omega) (fun q e => ((HOWN.out.alloc (.cells #[] 5)).lt q e).1)⟩, by simp [intOf]; omega⟩
      rw [List.replicate_succ', vb_append]
      exact hown5
    · have hdk : decide ((n : Int) < (N : Int)) = false := by simp; omega
      obtain rfl : n = N := by omega
      go_wp2
      go_ret
      exact ⟨_, rfl, HOWN.out, HB.out⟩
end Go.Proofs.Ytholddbmnlnkkaa
