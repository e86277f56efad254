/-
  What aead.lockOf and lock.taken answer.
-/
import Derived.Test.YtffokggejbmadaaGreatDoorGz9
namespace Go.Proofs.YtffokggejbmadaaGreatDoor
open Go Go.RowKit

theorem load_part6 {P : Program} {ops : Array Oper} {rest : List Oper} {o : Oper} {a : Act} {w : World} {Q : Exit → Act → World → Prop} (hgd : o.guard = none) (ty : TypeId) (x : Operand) (ho : o.op = .load ty x) (g off : Nat) (hx : a.eval x = .pointer (some ⟨g, off, none⟩)) (cs : Array Value) (d : TypeDesc) (hu : P.underlying ty = some d) (hd : d.isRow = true) (n : Nat) (hi : (P.info? ty).map (·.size) = some n) (hn : cs.size = n) (hc : w.rangeAt g off cs.toList)
    (h : wpList P ops Q rest (a.put o.dst (.agg cs)) w) : wpList P ops Q (o :: rest) a w :=
  wpList_plain hgd fun _ hK => by unfold Oper.wp; rw [run_mid ty x g off cs d ho hx hu hd (by rw [hn]; exact hi) w hc, Oper.upon_value]; exact hK _ _ h
/-- A whole structure is handed back, with a second result. -/
theorem result_part_tmp {P : Program} {fn : Func} {p q : Tmp} {ty : TypeId} (h : fn.results = #[.cell p ty, .tmp q]) (tmps : Array Value) (w : World) (g : Nat) (t : TypeId) (cs : Array Value) (hg : Row w g t cs) (n : Nat) (fs : Array Field) (v : Value)
    (hp : tmps.getD p undef = .pointer (some ⟨g, 0, none⟩)) (hq : tmps.getD q undef = v) (hu : P.underlying ty = some (.struct fs)) (hi : (P.info? ty).map (·.size) = some n) (hc : cs.size = n) :
    (results fn tmps).run P w = .ok (.tuple #[.agg cs, v]) w := by
  rw [results_cell_tmp h, hp, hq]
  simp [asAddr, Result.andThen, run_loadVar_row w g t ty cs (0, 0) _ hg hu rfl (by rw [hc]; exact hi)]

set_option maxRecDepth 20000 in
set_option maxHeartbeats 1000000 in
theorem taken_any (key nonce : List By) (hk : key.length = 32) (hn : nonce.length = 12) (b : SL) (w : World) (hg : Glob w) (hb : b.Ok w) (hl : b.len ≤ 1048576) :
    Calls Tryz.prog 18 #[.agg (bs (key ++ nonce)), .slice b.a b.len b.cap] w fun e w' => ∃ g, e = .returned (.slice (some ⟨g, 0, none⟩) b.len b.len) ∧ w'.ownsRow w.heap.size 5 1 (.slice (some ⟨g, 0, none⟩) b.len b.len) b.len (vb (xorL key 1 nonce b.b)) ∧ Below w.heap.size w w' := by
  have r0 : Row (w.alloc (.cells (bs (key ++ nonce)) 52)) w.heap.size 52 (bs (key ++ nonce)) := Row.new _ _ _
  have b0 : Below w.heap.size w (w.alloc (.cells (bs (key ++ nonce)) 52)) := (Below.refl _ w).alloc (Nat.le_refl _) _
  have hkz : (bs key).size = 32 := by rw [bs_size, hk]
  have hnz : (bs nonce).size = 12 := by rw [bs_size, hn]
  have p0 := lock_key r0
  have p1 := lock_nonce r0 hk
  have HK := veil hk
  have HN := veil hn
  have HB := veil hb
  have HG := veil hg
  clear hk hn hb hg
  go_enter Tryz.func18, Tryz.ntmps18
  go_wp2_with (first
    | (with_reducible (show wpList _ _ _ (⟨_, Op.load 49 _, _, _, _, _⟩ :: _) _ _)
       refine load_part6 rfl 49 _ rfl w.heap.size 0 rfl (bs key) _ Tryz.underlying49 rfl 32 (by kernel_rfl) hkz p0 ?_)
    | (with_reducible (show wpList _ _ _ (⟨_, Op.load 50 _, _, _, _, _⟩ :: _) _ _)
       refine load_part6 rfl 50 _ rfl w.heap.size 32 rfl (bs nonce) _ Tryz.underlying50 rfl 12 (by kernel_rfl) hnz p1 ?_))
  refine (xor_ok key 1 nonce HK.out HN.out b _ (HG.out.below b0 (Nat.le_refl _)) (HB.out.below b0) hl (by rw [u_one]; omega)).mono ?_
  rintro e1 w1 ⟨g, rfl, hown, hb1⟩
  have hown' := own_low hown b0.size
  have hb' := b0.trans (hb1.mono b0.size)
  go_wp2_with fail
  go_ret
  exact ⟨g, rfl, hown', hb'⟩

set_option maxRecDepth 20000 in
set_option maxHeartbeats 2000000 in
theorem lockOf_any (key nonce : SL) (w : World) (hk : key.Ok w) (hn : nonce.Ok w) :
    Calls Tryz.prog 17 #[.slice key.a key.len key.cap, .slice nonce.a nonce.len nonce.cap] w fun e w' => Below w.heap.size w w' ∧
      ((key.len = 32 ∧ nonce.len = 12 ∧ e = .returned (.tuple #[.agg (bs (key.b ++ nonce.b)), .int .i64 0])) ∨ (¬ (key.len = 32 ∧ nonce.len = 12) ∧ e = .returned (.tuple #[.agg (bs z44), .int .i64 1]))) := by
  have H1 : ∃ (ks : List By) (kf : Bool), (kf = true ↔ key.len = 32) ∧ (key.len = 32 → ks = key.b) ∧ ks.length = 32 ∧ ∀ W, Below w.heap.size w W → Calls Tryz.prog 63 #[.slice key.a key.len key.cap] W fun e w' => e = .returned (.tuple #[.agg (bs ks), .bool kf]) ∧ Below W.heap.size W w' := by
    by_cases h : key.len = 32
    · exact ⟨key.b, true, by simp [h], fun _ => rfl, by rw [hk.hb, h], fun W hW => array32_yes key W (hk.below hW) h⟩
    · exact ⟨z32b, false, by simp [h], fun e => absurd e h, rfl, fun W hW => array32_no key W h⟩
  have H2 : ∃ (ns : List By) (nf : Bool), (nf = true ↔ nonce.len = 12) ∧ (nonce.len = 12 → ns = nonce.b) ∧ ns.length = 12 ∧ ∀ W, Below w.heap.size w W → Calls Tryz.prog 64 #[.slice nonce.a nonce.len nonce.cap] W fun e w' => e = .returned (.tuple #[.agg (bs ns), .bool nf]) ∧ Below W.heap.size W w' := by
    by_cases h : nonce.len = 12
    · exact ⟨nonce.b, true, by simp [h], fun _ => rfl, by rw [hn.hb, h], fun W hW => array12_yes nonce W (hn.below hW) h⟩
    · exact ⟨z12, false, by simp [h], fun e => absurd e h, rfl, fun W hW => array12_no nonce W h⟩
  obtain ⟨ks, kf, k1, k2, k3, k4⟩ := H1
  obtain ⟨ns, nf, n1, n2, n3, n4⟩ := H2
  have K1 := (show Hid (kf = true ↔ key.len = 32) from k1)
  have N1 := (show Hid (nf = true ↔ nonce.len = 12) from n1)
  have K2 := (show Hid (key.len = 32 → ks = key.b) from k2)
  have N2 := (show Hid (nonce.len = 12 → ns = nonce.b) from n2)
  have K4 := veil k4
  have N4 := veil n4
  have hkz : (bs ks).size = 32 := by rw [bs_size, k3]
  have hnz : (bs ns).size = 12 := by rw [bs_size, n3]
  have HBU := veil (lock_built ks ns k3 n3)
  have hz44 : (bs z44).size = 44 := by rw [bs_size]; rfl
  have hk44 : (bs (ks ++ ns)).size = 44 := by rw [bs_size, List.length_append, k3, n3]
  clear k1 k2 k3 k4 n1 n2 n3 n4 hk hn
  have b0 : Below w.heap.size w (w.alloc (.cells (bs z44) 52)) := (Below.refl _ w).alloc (Nat.le_refl _) _
  have r0 : Row (w.alloc (.cells (bs z44) 52)) w.heap.size 52 (bs z44) := Row.new _ _ _
  go_enter Tryz.func17, Tryz.ntmps17
  go_wp2_with (first
    | (with_reducible (show wpList _ _ _ (⟨_, Op.alloc 52, _, _, _, _⟩ :: _) _ _)
       refine alloc_row rfl 52 rfl (bs z44) (by kernel_rfl) ?_))
  refine (K4.out _ b0).mono ?_
  rintro e1 w1 ⟨rfl, hb1⟩
  have b1 := b0.trans (hb1.mono b0.size)
  have r1 := r0.below hb1 r0.lt
  clear hb1 r0 b0
  have b2 := b1.alloc b1.size (.cells (bs ks) 49)
  have r2 := r1.alloc (.cells (bs ks) 49)
  have q2 : Row (w1.alloc (.cells (bs ks) 49)) w1.heap.size 49 (bs ks) := Row.new _ _ _
  go_wp2_with (first
    | (with_reducible (show wpList _ _ _ (⟨_, Op.alloc 49, _, _, _, _⟩ :: _) _ _)
       refine alloc_row rfl 49 rfl (bs z32b) (by kernel_rfl) ?_)
    | (with_reducible (show wpList _ _ _ (⟨_, Op.store 49 _ _, _, _, _, _⟩ :: _) _ _)
       refine store_new (w := w1) (by rfl) 49 _ _ (by rfl) w1.heap.size (bs ks) (by rfl) (by rfl) 49 (bs z32b) (by rfl) 32 (by kernel_rfl) (by rfl) hkz (bs_one _) ?_))
  refine (N4.out _ b2).mono ?_
  rintro e3 w3 ⟨rfl, hb3⟩
  have b3 := b2.trans (hb3.mono b2.size)
  have r3 := r2.below hb3 r2.lt
  have q3 := q2.below hb3 q2.lt
  have hs1 := b1.size
  have hs3 := hb3.size
  clear hb3 r2 b2 q2 r1 b1
  have b4 := b3.alloc b3.size (.cells (bs ns) 50)
  have r4 := r3.alloc (.cells (bs ns) 50)
  have q4 := q3.alloc (.cells (bs ns) 50)
  have n4 : Row (w3.alloc (.cells (bs ns) 50)) w3.heap.size 50 (bs ns) := Row.new _ _ _
  clear r3 q3
  cases kf with
  | false =>
    have h1 : ¬ (key.len = 32 ∧ nonce.len = 12) := fun h => by have := K1.out.2 h.1; cases this
    go_wp2_with (first
      | (with_reducible (show wpList _ _ _ (⟨_, Op.alloc 50, _, _, _, _⟩ :: _) _ _)
         refine alloc_row rfl 50 rfl (bs z12) (by kernel_rfl) ?_)
      | (with_reducible (show wpList _ _ _ (⟨_, Op.store 50 _ _, _, _, _, _⟩ :: _) _ _)
         refine store_new (w := w3) (by rfl) 50 _ _ (by rfl) w3.heap.size (bs ns) (by rfl) (by rfl) 50 (bs z12) (by rfl) 12 (by kernel_rfl) (by rfl) hnz (bs_one _) ?_)
      | (with_reducible (show wpList _ _ _ (⟨_, Op.build 52 _, _, _, _, _⟩ :: _) _ _)
         refine build_row rfl 52 _ rfl (bs z44) (by kernel_rfl) ?_)
      | (with_reducible (show wpList _ _ _ (⟨_, Op.store 52 _ _, _, _, _, _⟩ :: _) _ _)
         refine store_row rfl 52 _ _ rfl w.heap.size (bs z44) rfl rfl _ _ r4 44 (by kernel_rfl) hz44 hz44 (bs_one _) ?_))
    exact bodyPost_ret (result_part_tmp rfl _ _ w.heap.size _ _ (r4.put _) 44 _ (.int .i64 1) rfl rfl Tryz.underlying52 (by kernel_rfl) hz44) rfl ⟨bSetRow b4 (Nat.le_refl _) _, .inr ⟨h1, rfl⟩⟩
  | true =>
    have h1 := K1.out.1 rfl
    cases nf with
    | false =>
      have h2 : ¬ (key.len = 32 ∧ nonce.len = 12) := fun h => by have := N1.out.2 h.2; cases this
      go_wp2_with (first
        | (with_reducible (show wpList _ _ _ (⟨_, Op.alloc 50, _, _, _, _⟩ :: _) _ _)
           refine alloc_row rfl 50 rfl (bs z12) (by kernel_rfl) ?_)
        | (with_reducible (show wpList _ _ _ (⟨_, Op.store 50 _ _, _, _, _, _⟩ :: _) _ _)
           refine store_new (w := w3) (by rfl) 50 _ _ (by rfl) w3.heap.size (bs ns) (by rfl) (by rfl) 50 (bs z12) (by rfl) 12 (by kernel_rfl) (by rfl) hnz (bs_one _) ?_)
        | (with_reducible (show wpList _ _ _ (⟨_, Op.build 52 _, _, _, _, _⟩ :: _) _ _)
           refine build_row rfl 52 _ rfl (bs z44) (by kernel_rfl) ?_)
        | (with_reducible (show wpList _ _ _ (⟨_, Op.store 52 _ _, _, _, _, _⟩ :: _) _ _)
           refine store_row rfl 52 _ _ rfl w.heap.size (bs z44) rfl rfl _ _ r4 44 (by kernel_rfl) hz44 hz44 (bs_one _) ?_))
      exact bodyPost_ret (result_part_tmp rfl _ _ w.heap.size _ _ (r4.put _) 44 _ (.int .i64 1) rfl rfl Tryz.underlying52 (by kernel_rfl) hz44) rfl ⟨bSetRow b4 (Nat.le_refl _) _, .inr ⟨h2, rfl⟩⟩
    | true =>
      have h2 := N1.out.1 rfl
      have ek := K2.out h1
      have en := N2.out h2
      subst ek en
      go_wp2_with (first
        | (with_reducible (show wpList _ _ _ (⟨_, Op.alloc 50, _, _, _, _⟩ :: _) _ _)
           refine alloc_row rfl 50 rfl (bs z12) (by kernel_rfl) ?_)
        | (with_reducible (show wpList _ _ _ (⟨_, Op.store 50 _ _, _, _, _, _⟩ :: _) _ _)
           refine store_new (w := w3) (by rfl) 50 _ _ (by rfl) w3.heap.size (bs nonce.b) (by rfl) (by rfl) 50 (bs z12) (by rfl) 12 (by kernel_rfl) (by rfl) hnz (bs_one _) ?_)
        | (with_reducible (show wpList _ _ _ (⟨_, Op.load 49 _, _, _, _, _⟩ :: _) _ _)
           refine load_row rfl 49 _ rfl w1.heap.size rfl _ _ q4 32 5 Tryz.underlying49 (by kernel_rfl) hkz ?_)
        | (with_reducible (show wpList _ _ _ (⟨_, Op.load 50 _, _, _, _, _⟩ :: _) _ _)
           refine load_row rfl 50 _ rfl w3.heap.size rfl _ _ n4 12 5 Tryz.underlying50 (by kernel_rfl) hnz ?_)
        | (with_reducible (show wpList _ _ _ (⟨_, Op.build 52 _, _, _, _, _⟩ :: _) _ _)
           refine build_row rfl 52 _ rfl (bs (key.b ++ nonce.b)) ?hbb ?_
           case hbb => exact Eq.trans (congrArg (Tryz.prog.built 52) (show _ = [(0, Value.agg (bs key.b)), (1, Value.agg (bs nonce.b))] from by kernel_rfl)) HBU.out)
        | (with_reducible (show wpList _ _ _ (⟨_, Op.store 52 _ _, _, _, _, _⟩ :: _) _ _)
           refine store_row rfl 52 _ _ rfl w.heap.size (bs (key.b ++ nonce.b)) rfl rfl _ _ r4 44 (by kernel_rfl) hz44 hk44 (bs_one _) ?_))
      refine bodyPost_ret (result_part_tmp rfl _ _ w.heap.size _ _ (r4.put _) 44 _ (.int .i64 0) rfl rfl Tryz.underlying52 (by kernel_rfl) hk44) rfl ⟨bSetRow b4 (Nat.le_refl _) _, .inl ⟨h1, h2, rfl⟩⟩
end Go.Proofs.YtffokggejbmadaaGreatDoor
