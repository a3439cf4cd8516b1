/-
  The contract of the program's Size. No statement is proved here.
-/
import Derived.Test.YtnmjcibhggchkaaStC
import Derived.RegionTactic
import Derived.Deep.DeepCutAuto
namespace Go.Proofs.Ytnmjcibhggchkaa
open Go.RowKit

set_option maxRecDepth 100000 in
set_option maxHeartbeats 8000000 in
theorem stSizeC : StSizeC 13 := by
  intro A n c ps w ha
  have HA := Lib.hid ha
  clear ha
  go_enter Try.func13, Try.ntmps13
  go_wp2_with fail
  go_loopw [8, 3] (fun i s wr => ∃ j m : Nat, j ≤ n ∧ i = .int .i64 (j : Int) ∧ s = .int .i64 (m : Int) ∧ m = sumB (psB (ps.take j)) ∧ Below w.heap.size w wr) (fun i _ _ => n - (intOf i).toNat)
  case atStart => exact ⟨0, 0, Nat.zero_le _, rfl, rfl, by rw [List.take_zero]; rfl, Below.refl _ _⟩
  case round =>
    obtain ⟨j, m, hj, rfl, rfl, hm, hbel⟩ := hrel
    by_cases hjn : j < n
    · have d1 : decide ((j : Int) < (n : Int)) = true := by simp; omega
      obtain ⟨b, off, hA⟩ := HA.out.rd.addr (by omega)
      subst hA
      obtain ⟨p, hp⟩ : ∃ p, ps[j]? = some p := ⟨ps[j]'(by rw [HA.out.rd.len]; exact hjn), List.getElem?_eq_getElem _⟩
      have hft := ((HA.out.rd.below hbel).at j p hp).2
      have hpl : p.l.length = p.n := ((HA.out.rd.ok hp)).len
      have hjn2 := hjn
      have hsm : p.n ≤ 100000 := HA.out.small p (List.mem_of_getElem? hp)
      have hnx : sumB (psB (ps.take (j + 1))) = m + p.n := by
        rw [take_snoc hp, hm]
        simp [psB, sumB, hpl]
      have hmb : m ≤ j * 100000 := by
        have h : ∀ l : List Part, (∀ p ∈ l, PkOk w w.heap.size p ∧ p.n ≤ 100000) → sumB (psB l) ≤ l.length * 100000 := by
          intro l
          induction l with
          | nil => intro _; exact Nat.le_refl _
          | cons q l ih =>
            intro h
            have h1 := h q (List.mem_cons_self ..)
            have h2 := ih (fun p hp => h p (List.mem_cons_of_mem _ hp))
            have h3 := h1.1.len
            simp only [psB, sumB, List.map_cons, List.sum_cons, List.length_cons] at h2 ⊢
            omega
        rw [hm]
        refine Nat.le_trans (h _ fun p hp => ⟨HA.out.rd.2 p (List.mem_of_mem_take hp), HA.out.small p (List.mem_of_mem_take hp)⟩) ?_
        rw [List.length_take]
        exact Nat.mul_le_mul_right _ (Nat.min_le_left _ _)
      have hfew := HA.out.few
      obtain ⟨k, hk⟩ : ∃ k, m + p.n = k := ⟨_, rfl⟩
      have e1 : (m : Int) + (p.n : Int) = (k : Int) := by omega
      have w1' : IntKind.i64.wrap (k : Int) = (k : Int) := by rw [IntKind.wrap_i64]; omega
      have HNX := Lib.hid (show k = sumB (psB (ps.take (j + 1))) from by rw [hnx, hk])
      have HBEL := Lib.hid hbel
      obtain ⟨pn, hpn⟩ : ∃ z, p.n = z := ⟨_, rfl⟩
      rw [hpn] at hft e1
      clear hpl hsm hnx hmb hk hm hp hbel hpn
      go_wp2_with fail
      go_roundw
      case rel => exact ⟨j + 1, k, by omega, by go_num, rfl, HNX.out, HBEL.out⟩
      case measure => simp [intOf]; omega
    · obtain rfl : j = n := by omega
      have d1 : decide ((j : Int) < (j : Int)) = false := by simp
      have HQ2 := Lib.hid (show m = sumB (psB ps) from by rw [hm, List.take_of_length_le (by rw [HA.out.rd.len]; exact Nat.le_refl _)])
      have HBEL := Lib.hid hbel
      clear hm hbel
      go_wp2
      go_ret
      exact ⟨by rw [← HQ2.out]; rfl, HBEL.out⟩
end Go.Proofs.Ytnmjcibhggchkaa
