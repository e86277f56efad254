/-
  A greeting's reader: a limit, and a field of 32 bytes.
-/
import Derived.Test.YtjccjlhnjihfjaaDoorGhHeKind
import Derived.Test.YtjccjlhnjihfjaaDoorGhHeVarG
import Derived.Test.YtjccjlhnjihfjaaDoorGh11
import Derived.Test.YtjccjlhnjihfjaaDoorGh12
import Derived.Deep.RegionHeld3
namespace Go.Proofs.YtjccjlhnjihfjaaDoor
open Go Go.RowKit

def hrC (s : SL) (f : Bool) : Array Value := #[.slice s.a s.len s.cap, .bool f]

set_option maxRecDepth 20000 in
set_option maxHeartbeats 4000000 in
theorem rd_limit (g : Nat) (s : SL) (f : Bool) (w : World) (hr : Row w g 70 (hrC s f)) (hs : s.Ok w) (ht : s.Told) (hne : 0 < s.len → s.g ≠ g) (hl : s.len ≤ 140737488355328) (hL : Lens w) :
    Calls Tryd.prog 66 #[.pointer (some ⟨g, 0, none⟩)] w fun x w' => ∃ s' : SL, x = .returned (.int .u64 ((He.rL (s.b, f)).1 : Int)) ∧ s'.Ok w' ∧ s'.Told ∧ s'.b = (He.rL (s.b, f)).2.1 ∧ s'.g = s.g ∧ s'.len ≤ s.len ∧ Row w' g 70 (hrC s' (He.rL (s.b, f)).2.2) ∧ w.grownBy w' (some g) := by
  have c0 : w.cell? ⟨g, 0, none⟩ = some (.slice s.a s.len s.cap) := hr.cell 0
  have z0 := hr.frozen 0
  have z1 := hr.frozen 1
  have c1 : w.cell? ⟨g, 1, none⟩ = some (.bool f) := hr.cell 1
  have HG := veil (var_getW s w hs hl hL)
  have HR := veil hr
  have HS := veil hs
  have HT := veil ht
  have HNE := veil hne
  clear hr hs ht hne hL
  cases hq : Fr.getN s.b with
  | none =>
    have hrd : He.rL (s.b, f) = (0, (s.b, true)) := by
      unfold He.rL
      exact He.stp_none 0 (by unfold He.limP; rw [hq]) f
    have hgot : gotN s.b = (0, 0, 4) := by unfold gotN; rw [hq]
    rw [hrd]
    go_enter Tryd.func66, Tryd.ntmps66
    go_wp2_with fail
    refine HG.out.mono ?_
    rintro x1 w1 ⟨rfl, hw1⟩
    obtain rfl := hw1.symm
    unfold gotV
    rw [hgot]
    clear HG hgot hrd hq
    go_wp2_with fail
    go_ret
    exact ⟨s, rfl, HS.out.apart (grown_set (grown_refl _ _)) HNE.out, HT.out, rfl, rfl, Nat.le_refl _, HR.out.set 1 _, grown_set (grown_refl _ _)⟩
  | some p =>
    obtain ⟨n, k⟩ := p
    have hk1 : k ≤ s.len := by have := (Fr.getN_some hq).2.1; rw [HS.out.hb] at this; exact this
    have hrd : He.rL (s.b, f) = (n, (s.b.drop k, f)) := by
      unfold He.rL
      exact He.stp_some (by unfold He.limP; rw [hq]) f
    have hgot : gotN s.b = (n, k, 0) := by unfold gotN; rw [hq]
    have HRD := veil hrd
    have HCUT := veil (cutF_ok HS.out HT.out k hk1)
    have HNIL := veil HS.out.nil
    clear hrd hq
    go_enter Tryd.func66, Tryd.ntmps66
    go_wp2_with fail
    refine HG.out.mono ?_
    rintro x1 w1 ⟨rfl, hw1⟩
    obtain rfl := hw1.symm
    unfold gotV
    rw [hgot]
    clear HG hgot
    go_wp2_with (with_reducible (show wpList _ _ _ (⟨some 26, Op.slice _ _ _ _ _, _, _, _, _⟩ :: _) _ _)
                 refine value_wp rfl _ (run_cutF 28 5 _ _ s k HT.out HNIL.out rfl rfl rfl Tryd.underlying28 (by kernel_rfl) hk1 _) ?_)
    go_wp2_with fail
    go_ret
    rw [HRD.out]
    refine ⟨cutF s k, rfl, ?_, HCUT.out.2.1, HCUT.out.2.2.2.1, HCUT.out.2.2.2.2, by rw [HCUT.out.2.2.1]; omega, HR.out.set 0 _, grown_set (grown_refl _ _)⟩
    exact HCUT.out.1.apart (grown_set (grown_refl _ _)) (fun p => by rw [HCUT.out.2.2.2.2]; exact HNE.out (by have := HCUT.out.2.2.1; omega))
end Go.Proofs.YtjccjlhnjihfjaaDoor
