/-
  The contract of the reference's Join: the parts one after the other.
-/
import Derived.Test.YtaolhndbpgjlcaaPart
import Derived.Maps.AppendAt
import Derived.Outline
namespace Go.Proofs.Ytaolhndbpgjlcaa
open Go.RowKit

set_option maxHeartbeats 400000 in
set_option maxRecDepth 100000 in
theorem refJoin_any (B c : Nat) (A : Option Addr) (ps : List Part) (hm : ps.length ≤ 1000000) (ht : (flat ps ps.length).length ≤ 1000000) (w : World) (hB : B ≤ w.heap.size) (hp : PartsRd w B A ps) :
    Calls Try.prog 27 #[.slice A ps.length c] w fun e w' => ∃ A' c', e = .returned (.slice A' (flat ps ps.length).length c') ∧ w'.ownsRow w.heap.size 5 1 (.slice A' (flat ps ps.length).length c') (flat ps ps.length).length ((flat ps ps.length).map u8v) ∧ Below w.heap.size w w' := by
  obtain ⟨i0, hi, hz0, hz1, hz2⟩ := info_parts Try.info5
  have HP := Lib.hid hp
  clear hp
  obtain ⟨n, hn⟩ : ∃ n, ps.length = n := ⟨_, rfl⟩
  have HN := Lib.hid hn
  have hfl := flat_le ps
  rw [hn] at hm ht hfl ⊢
  have HFL := Lib.hid hfl
  clear hn hfl
  go_enter Try.func27, Try.ntmps27
  go_wp2
  go_loopw [3, 8, 5] (fun v i _ wr => ∃ k : Nat, k ≤ n ∧ i = .int .i64 k ∧ wr.ownsRow w.heap.size 5 1 v (flat ps k).length ((flat ps k).map u8v) ∧ Below w.heap.size w wr) (fun _ i _ _ => n - (intOf i).toNat)
  case atStart => exact ⟨0, by omega, rfl, World.ownsRow_nil _ _ _ _, Below.refl _ _⟩
  case round =>
    obtain ⟨k, hk, rfl, hown, hb⟩ := hrel
    by_cases hlt : k < n
    · have hjp : k < ps.length := by have := HN.out; omega
      obtain ⟨g, rfl, hgB, hc⟩ := HP.out (by omega)
      obtain ⟨hc0, hr0⟩ := hc k hjp
      have hc1 := (hb.cell (p := ⟨g, k, none⟩) (Nat.lt_of_lt_of_le hgB hB)).trans hc0
      have hr := Lib.hid (hr0.below (hb.mono hB))
      have hl : (flat ps (k + 1)).length = (flat ps k).length + ps[k].n := by rw [flat_succ ps k hjp, List.length_append, hr0.1]
      have b3 : (flat ps k).length + ps[k].n ≤ 1000000 := by have := HFL.out (k + 1); omega
      have HL := Lib.hid hl
      have hsz := hb.size
      clear hc hc0 hr0 hl
      go_wp2_with (at_builtin; refine wpList_append_rd _ rfl (.tmp 12) (.tmp 13) 38 rfl w.heap.size 5 i0 (.int .u8 0) Try.underlying38 hi hz0 hz1 hz2 rfl u3 (flat ps k).length _ rfl hown _ _ _ _ _ rfl hr.out (by omega) hsz ?_; intro v' w' hown' hg')
      have HO := Lib.hid hown'
      clear hown'
      go_wp2
      go_roundw
      case rel =>
        refine ⟨k + 1, by omega, by go_num, ?_, hb.grown hg' hsz (own_from hown)⟩
        have h := HO.out
        rw [HL.out, flat_succ ps k hjp, List.map_append]
        exact h
      case measure => simp [intOf]; omega
    · obtain rfl : k = n := by omega
      obtain ⟨A', c', rfl, _⟩ := own_slice hown
      have HO := Lib.hid hown
      clear hown
      go_wp2
      go_ret
      exact ⟨A', c', rfl, HO.out, hb⟩
end Go.Proofs.Ytaolhndbpgjlcaa
