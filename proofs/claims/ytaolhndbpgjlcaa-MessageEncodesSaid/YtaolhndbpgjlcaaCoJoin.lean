/-
  The contract of codec.Join: the parts one after the other (as XEqual's, over XPart).
-/
import Derived.Test.YtaolhndbpgjlcaaPart
import Derived.Laws.BitsAllLaws
import Derived.RegionTactic
import Derived.BigQuiet
import Derived.Deep.QuietTactic
import Derived.Maps.AppendAt
import Derived.Outline
namespace Go.Proofs.Ytaolhndbpgjlcaa
open Go.RowKit

set_option maxHeartbeats 400000 in
set_option maxRecDepth 100000 in
theorem coJoin_any (B c : Nat) (A : Option Addr) (ps : List Part) (hm : ps.length ≤ 1000000) (ht : (flat ps ps.length).length ≤ 1000000) (w : World) (hB : B ≤ w.heap.size) (hp : PartsRd w B A ps) :
    Calls Try.prog 23 #[.slice A ps.length c] w fun e w' => ∃ A' c', e = .returned (.slice A' (flat ps ps.length).length c') ∧ w'.ownsRow w.heap.size 5 1 (.slice A' (flat ps ps.length).length c') (flat ps ps.length).length ((flat ps ps.length).map u8v) ∧ Below w.heap.size w w' := by
  obtain ⟨i0, hi, hz0, hz1, hz2⟩ := info_parts Try.info5
  have HP := Lib.hid hp
  clear hp
  obtain ⟨n, hn⟩ : ∃ n, ps.length = n := ⟨_, rfl⟩
  have HN := Lib.hid hn
  have hfl := flat_le ps
  rw [hn] at hm ht hfl ⊢
  have HFL := Lib.hid hfl
  clear hn hfl
  go_enter Try.func23, Try.ntmps23
  go_wp2
  go_loop [3, 11, 5] (fun s i _ => ∃ j : Nat, j ≤ n ∧ i = .int .i64 j ∧ s = .int .i64 (flat ps j).length) (fun _ i _ => n - (intOf i).toNat)
  case atStart => exact ⟨0, by omega, rfl, rfl⟩
  case round =>
    obtain ⟨j, hj, rfl, rfl⟩ := hrel
    by_cases hlt : j < n
    · have hjp : j < ps.length := by have := HN.out; omega
      obtain ⟨g, rfl, _, hc⟩ := HP.out (by omega)
      obtain ⟨hc1, hr⟩ := hc j hjp
      have hl : ps[j].n = ps[j].l.length := hr.1.symm
      have HL := Lib.hid hl
      have b1 := HFL.out j
      have b2 := HFL.out (j + 1)
      have e2 := congrArg List.length (flat_succ ps j hjp)
      rw [List.length_append] at e2
      have b3 : (flat ps j).length + ps[j].n ≤ 1000000 := by omega
      have HE := Lib.hid e2
      clear hc hr hl e2 b2
      go_wp2
      go_round
      case rel => exact ⟨j + 1, by omega, by go_num, by rw [HE.out, HL.out]; go_num⟩
      case measure => simp [intOf]; omega
    · obtain rfl : j = n := by omega
      go_wp2_with (refine wpList_make_own _ rfl (.const (.int .i64 0)) (.tmp 20) 38 rfl w.heap.size 5 i0 (.int .u8 0) 1 Try.underlying38 hi hz0 hz1 .i64 .i64 (flat ps j).length (flat ps j).length rfl rfl rfl (by rw [hz2]; omega) (by unfold maxLen; omega) (Nat.le_refl _) ?_; intro w1 hown1 hg1)
      go_loopw [6, 24, 8] (fun v i _ wr => ∃ k : Nat, k ≤ j ∧ i = .int .i64 k ∧ wr.ownsRow w.heap.size 5 1 v (flat ps k).length ((flat ps k).map u8v) ∧ Below w.heap.size w wr) (fun _ i _ _ => j - (intOf i).toNat)
      case atStart => exact ⟨0, by omega, rfl, hown1, (Below.refl _ _).grown hg1 (Nat.le_refl _) (by simp)⟩
      case round =>
        obtain ⟨k, hk, rfl, hown, hb⟩ := hrel
        by_cases hlt : k < j
        · have hjp : k < ps.length := by have := HN.out; omega
          obtain ⟨g, rfl, hgB, hc⟩ := HP.out (by omega)
          obtain ⟨hc0, hr0⟩ := hc k hjp
          have hc1 := (hb.cell (p := ⟨g, k, none⟩) (Nat.lt_of_lt_of_le hgB hB)).trans hc0
          have hr := Lib.hid (hr0.below (hb.mono hB))
          have hl : (flat ps (k + 1)).length = (flat ps k).length + ps[k].n := by rw [flat_succ ps k hjp, List.length_append, hr0.1]
          have b3 : (flat ps k).length + ps[k].n ≤ 1000000 := by have := HFL.out (k + 1); omega
          have HL := Lib.hid hl
          have hsz := hb.size
          clear hc hc0 hr0 hl
          go_wp2_with (at_builtin; refine wpList_append_rd _ rfl (.tmp 28) (.tmp 29) 38 rfl w.heap.size 5 i0 (.int .u8 0) Try.underlying38 hi hz0 hz1 hz2 rfl u6 (flat ps k).length _ rfl hown _ _ _ _ _ rfl hr.out (by omega) hsz ?_; intro v' w' hown' hg')
          have HO := Lib.hid hown'
          clear hown'
          go_wp2
          go_roundw
          case rel =>
            refine ⟨k + 1, by omega, by go_num, ?_, hb.grown hg' hsz (own_from hown)⟩
            have h := HO.out
            rw [HL.out, flat_succ ps k hjp, List.map_append]
            exact h
          case measure => simp [intOf]; omega
        · obtain rfl : k = j := by omega
          obtain ⟨A', c', rfl, _⟩ := own_slice hown
          have HO := Lib.hid hown
          clear hown
          go_wp2
          go_ret
          exact ⟨A', c', rfl, HO.out, hb⟩
end Go.Proofs.Ytaolhndbpgjlcaa
