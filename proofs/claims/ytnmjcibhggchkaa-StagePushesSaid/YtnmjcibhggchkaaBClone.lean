/-
  The contract of bytes.Clone. No statement is proved here.
-/
import Derived.Test.YtnmjcibhggchkaaCopyRd
import Derived.Test.YtnmjcibhggchkaaOwnCap
import Derived.Test.YtnmjcibhggchkaaAppZ
import Derived.Test.YtnmjcibhggchkaaEnt
import Derived.Maps.AppendAt
import Derived.Laws.Cover3
import Derived.Deep.QuietTactic
import Derived.BigQuiet
import Derived.RegionTactic
import Derived.BigRegion
import Derived.Deep.RegionWith
import Derived.Deep.DeepCutAuto
import Derived.Outline
namespace Go.Proofs.Ytnmjcibhggchkaa
open Go.RowKit

theorem beql_nil (A : Option Addr) (n c : Nat) (w : World) : (binOp .eql 23 (.slice A n c) (.slice none 0 0)).run Try.prog w = .ok (.bool A.isNone) w := by
  have h := run_equal_slice_nil (P := Try.prog) w 23 5 A n c Try.underlying23
  simp [binOp, h, Result.andThen]
set_option maxRecDepth 100000 in
set_option maxHeartbeats 8000000 in
theorem bclone_own (A : Option Addr) (n c : Nat) (l : List UInt8) (hn : n ≤ 1000000) (w : World) (hr : Rd w w.heap.size A n l) :
    Calls Try.prog 18 #[.slice A n c] w fun e w' => ∃ A' c', e = .returned (.slice A' n c') ∧ w'.ownsRow w.heap.size 5 1 (.slice A' n c') n (l.map u8v) ∧ Below w.heap.size w w' := by
  obtain ⟨i0, hi, hz0, hz1, hz2⟩ := info_parts Try.info5
  have HR := Lib.hid hr
  cases A with
  | none =>
    have hn0 : n = 0 := by
      rcases Nat.eq_zero_or_pos n with h | h
      · exact h
      · obtain ⟨b, off, e, _⟩ := hr.at_ h
        cases e
    subst hn0
    clear hr
    have hen := beql_nil none 0 c
    simp only [Option.isNone_none] at hen
    go_enter Try.func18, Try.ntmps18
    go_wp2
    go_ret
    have hl0 : l = [] := List.eq_nil_of_length_eq_zero HR.out.1
    subst hl0
    exact ⟨none, 0, rfl, World.ownsRow_nil _ _ _ _, Below.refl _ _⟩
  | some ad =>
    have HB := Lib.hid (show Mem w [blkE w.heap.size 5 []] (w.alloc (.cells #[] 5)) from (Mem.nil w).alloc rfl 5 #[] [] rfl)
    have hown0 := World.ownsRow_lit (base := w.heap.size) (e := 5) (size := 1) w #[] 0 (Nat.le_refl _) (by simp) rfl
    have HO := Lib.hid hown0
    clear hr hown0
    have hen := beql_nil (some ad) n c
    simp only [Option.isNone_some] at hen
    go_enter Try.func18, Try.ntmps18
    go_wp2_with (refine wpList_append_rd _ rfl (.tmp 5) (.tmp 6) 23 rfl w.heap.size 5 i0 (.int .u8 0) Try.underlying23 hi hz0 hz1 hz2 rfl (.slice (some ⟨w.heap.size, 0, none⟩) 0 0) 0 [] rfl HO.out _ _ n c l rfl (HB.out.arg HR.out) (by omega) (by simp) ?_; intro v1 w3 hown1 hg1)
    rw [Nat.zero_add, List.nil_append] at hown1
    obtain ⟨A5, c5, rfl, _⟩ := own_slice hown1
    have HF := Lib.hid (HB.out.bel.grown hg1 HB.out.bel.size (fun k hk => own_from HO.out k hk))
    go_ret
    exact ⟨A5, c5, rfl, hown1, HF.out⟩
end Go.Proofs.Ytnmjcibhggchkaa
