/-
  The law's same: lists of packets with the same bytes. No statement is proved here.
-/
import Derived.Test.YtnmjcibhggchkaaStC
import Derived.Deep.QuietTactic
import Derived.BigQuiet
import Derived.RegionTactic
import Derived.Deep.DeepCutAuto
namespace Go.Proofs.Ytnmjcibhggchkaa
open Go.RowKit

set_option maxRecDepth 100000 in
set_option maxHeartbeats 8000000 in
theorem st_same_any (A A' : Option Addr) (n c c' : Nat) (ps qs : List Part) (hn : n ≤ 100000) (w : World) (ha : PkRd w w.heap.size A n ps) (hb : PkRd w w.heap.size A' n qs) (he : psB ps = psB qs) :
    Calls Try.prog 10 #[.slice A n c, .slice A' n c'] w fun e w' => e = .returned (.bool true) ∧ Below w.heap.size w w' := by
  have HA := Lib.hid ha
  have HB := Lib.hid hb
  have HE := Lib.hid he
  clear ha hb he
  have sn : ((n : Int) != (n : Int)) = false := by simp
  go_enter Try.func10, Try.ntmps10
  go_wp2_with fail
  clear sn
  go_loopw [13] (fun i wr => ∃ j : Nat, j ≤ n ∧ i = .int .i64 (j : Int) ∧ Below w.heap.size w wr) (fun i _ => n - (intOf i).toNat)
  case atStart => exact ⟨0, Nat.zero_le _, rfl, Below.refl _ _⟩
  case round =>
    obtain ⟨j, hj, rfl, hW⟩ := hrel
    have HW := Lib.hid hW
    clear hW
    by_cases hjn : j < n
    · have d1 : decide ((j : Int) < (n : Int)) = true := by simp; omega
      obtain ⟨b, off, rfl⟩ := HA.out.addr (by omega)
      obtain ⟨b', off', rfl⟩ := HB.out.addr (by omega)
      obtain ⟨p, hp⟩ : ∃ p, ps[j]? = some p := ⟨ps[j]'(by rw [HA.out.len]; exact hjn), List.getElem?_eq_getElem _⟩
      obtain ⟨q, hq⟩ : ∃ q, qs[j]? = some q := ⟨qs[j]'(by rw [HB.out.len]; exact hjn), List.getElem?_eq_getElem _⟩
      have hlq : p.l = q.l := by
        have h1 : (psB ps)[j]? = some p.l := by rw [psB, List.getElem?_map, hp]; rfl
        have h2 : (psB qs)[j]? = some q.l := by rw [psB, List.getElem?_map, hq]; rfl
        rw [HE.out, h2] at h1
        injection h1 with h1
        exact h1.symm
      have f1 := ((HA.out.below HW.out).at j p hp).2
      have f2 := ((HB.out.below HW.out).at j q hq).2
      have hr1 := (HA.out.below HW.out).ok hp
      have hr2 := (HB.out.below HW.out).ok hq
      obtain ⟨l, hl⟩ : ∃ z, p.l = z := ⟨_, rfl⟩
      have cv1 : ∀ k, (convert 23 9 (.slice p.A p.n p.c)).run Try.prog (wr.drewN k) = .ok (.string ⟨l.toArray⟩) (wr.drewN k) := fun k => by rw [← hl]; exact run_string_of_rd (P := Try.prog) 23 9 5 p.c Try.underlying23 Try.underlying5 Try.underlying9 (hr1.1.drewN k)
      have cv2 : ∀ k, (convert 23 9 (.slice q.A q.n q.c)).run Try.prog (wr.drewN k) = .ok (.string ⟨l.toArray⟩) (wr.drewN k) := fun k => by rw [← hl, hlq]; exact run_string_of_rd (P := Try.prog) 23 9 5 q.c Try.underlying23 Try.underlying5 Try.underlying9 (hr2.1.drewN k)
      clear hlq hr1 hr2 hl hp hq
      go_upto_region 6 with fail
      clear d1
      go_quiet (fail)
      go_wp2_with fail
      go_roundw
      case rel => exact ⟨j + 1, by omega, by go_num, below_drewN HW.out _⟩
      case measure => simp [intOf]; omega
    · obtain rfl : j = n := by omega
      have d1 : decide ((j : Int) < (j : Int)) = false := by simp
      have HF := Lib.hid HW.out
      go_wp2
      go_ret
      exact ⟨rfl, HF.out⟩
end Go.Proofs.Ytnmjcibhggchkaa
