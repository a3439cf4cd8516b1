/-
  The contract of slices.Reverse at a byte slice that the call's own memory holds: behind the call the slice reads as the reversed list; nothing else has changed.
-/
import Derived.Test.YtmbcohhnnlpnaaaMem
import Derived.Test.YtmbcohhnnlpnaaaNum
import Derived.RegionTactic
import Derived.BigRegion
import Derived.ChangeAlike
import Derived.Outline
namespace Go.Proofs.Ytmbcohhnnlpnaaa
open Go.RowKit

set_option maxHeartbeats 400000 in
set_option maxRecDepth 100000 in
theorem reverse_own (B g n cap : Nat) (l : List UInt8) (hn : n ≤ 1000000) (w : World) (hown : w.ownsRow B 5 1 (.slice (some ⟨g, 0, none⟩) n cap) n (l.map u8v)) :
    Calls Try.prog 23 #[.slice (some ⟨g, 0, none⟩) n cap] w fun e w' => e = .returned (.tuple #[]) ∧ w'.ownsRow B 5 1 (.slice (some ⟨g, 0, none⟩) n cap) n (l.reverse.map u8v) ∧ w.grownBy w' (some g) := by
  have hl : l.length = n := by simpa using hown.1
  go_enter Try.func23, Try.ntmps23
  go_wp2
  go_loopw [2, 3] (fun i j wr => ∃ k : Nat, 2 * k ≤ n ∧ i = .int .i64 k ∧ j = .int .i64 ((n : Int) - 1 - k) ∧ wr.ownsRow B 5 1 (.slice (some ⟨g, 0, none⟩) n cap) n ((revRow l k).map u8v) ∧ w.grownBy wr (some g)) (fun i _ _ => n - (intOf i).toNat)
  case atStart => exact ⟨0, by omega, rfl, by simp, by rw [revRow_zero]; exact hown, World.grownBy.refl w _⟩
  case round =>
    obtain ⟨k, hk, rfl, rfl, how, hg⟩ := hrel
    by_cases hlt : (k : Int) < (n : Int) - 1 - k
    · have hfz1 := how.frozenAt k
      have hfz2 := how.frozenAt (n - 1 - k)
      have hc1 := how.cellAt k (by omega)
      have hc2 := how.cellAt (n - 1 - k) (by omega)
      rw [map_u8v_getElem? _ _ (by rw [revRow_length]; omega)] at hc1 hc2
      have HO := Lib.hid how
      clear how
      go_wp2
      go_region
      all_goals
        go_wp2
        go_roundw
        case rel =>
          have h2 := (HO.out.stored k (u8v ((revRow l k).getD (l.length - 1 - k) 0))).1.stored (l.length - 1 - k) (u8v ((revRow l k).getD k 0))
          have h3 := (HO.out.stored k (u8v ((revRow l k).getD (l.length - 1 - k) 0))).2
          rw [← List.map_set, ← List.map_set, revRow_step l k (by omega), getD_lt (by rw [revRow_length]; omega), getD_lt (by rw [revRow_length]; omega)] at h2
          rw [getD_lt (by rw [revRow_length]; omega)] at h3
          simp only [hl, u8v] at h2 h3
          exact ⟨k + 1, by omega, by go_num, by go_num, h2.1.drew, only_drew (grownBy_trans (grownBy_trans hg h3) h2.2)⟩
        case measure => simp [intOf]; omega
    · rw [revRow_end l k (by omega)] at how
      go_wp2
      go_end0
      exact ⟨rfl, by rw [← List.map_reverse]; exact how, hg⟩
end Go.Proofs.Ytmbcohhnnlpnaaa
