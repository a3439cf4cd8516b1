/-
  The contract of the reference's Pop. No statement is proved here.
-/
import Derived.Test.YtnmjcibhggchkaaStC
import Derived.Deep.QuietTactic
import Derived.BigQuiet
import Derived.RegionTactic
import Derived.Deep.DeepCutAuto
namespace Go.Proofs.Ytnmjcibhggchkaa
open Go.RowKit

set_option maxRecDepth 100000 in
set_option maxHeartbeats 8000000 in
theorem refStPopC : StPopC 12 := by
  intro A n c ps w ha
  have HA := Lib.hid ha
  clear ha
  by_cases h0 : n = 0
  · subst h0
    have hps : ps = [] := List.eq_nil_of_length_eq_zero HA.out.rd.len
    subst hps
    go_enter Try.func12, Try.ntmps12
    go_wp2
    go_ret3
    exact ⟨⟨none, 0, 0, []⟩, none, 0, 0, [], rfl, ⟨Rd.nil _ _ _, Nat.le_refl _, Nat.zero_le _⟩, ⟨Nat.le_refl _, Nat.zero_le _, PkRd.nil⟩, rfl, rfl, Below.refl _ _⟩
  · have d1 : ((n : Int) == 0) = false := by simp; omega
    have d2 : (n == 0) = false := by simp; omega
    obtain ⟨b, off, rfl⟩ := HA.out.rd.addr (by omega)
    obtain ⟨p, hp⟩ : ∃ p, ps[0]? = some p := ⟨ps[0]'(by rw [HA.out.rd.len]; omega), List.getElem?_eq_getElem _⟩
    have hat := HA.out.rd.at 0 p hp
    rw [Nat.add_zero] at hat
    have hft := hat.2
    have hn1 : (0 : Int) < (n : Int) := by omega
    have HOK := Lib.hid (HA.out.rd.ok hp)
    have HH := Lib.hid (show p.l = ((psB ps).head?).getD [] from by
      cases ps with
      | nil => cases hp
      | cons q l => injection hp with hp; subst hp; rfl)
    have HD := Lib.hid (show decide (0 < n) = true from by simpa using (show 0 < n by omega))
    have HF := Lib.hid (show PkRes w (addrK (some ⟨b, off, none⟩) 1 c 1) (n - 1) (c - 1) (ps.drop 1) from ⟨by have := HA.out.le; omega, Nat.le_trans (Nat.sub_le _ _) HA.out.cap, HA.out.rd.behind 1 c (by omega) HA.out.le⟩)
    have HQ := Lib.hid (show psB (ps.drop 1) = (psB ps).tail from by rw [psB, List.map_drop, List.drop_one]; rfl)
    have hsl := fun W => pks_l (some ⟨b, off, none⟩) n c 1 (by omega) W
    rw [show ((1 : Nat) : Int) = 1 from rfl] at hsl
    clear hat hp h0
    go_enter Try.func12, Try.ntmps12
    go_wp2_with fail
    go_quiet (fail)
    go_wp2
    go_ret3
    exact ⟨p, _, _, _, ps.drop 1, by rw [HD.out]; rfl, HOK.out, HF.out, HH.out, HQ.out, below_drewN (Below.refl _ _) _⟩
end Go.Proofs.Ytnmjcibhggchkaa
