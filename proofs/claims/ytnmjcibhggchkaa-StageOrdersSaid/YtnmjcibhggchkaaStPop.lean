/-
  The contract of the program's Pop. No statement is proved here.
-/
import Derived.Test.YtnmjcibhggchkaaStCopies
import Derived.RegionTactic
import Derived.Deep.DeepCutAuto
namespace Go.Proofs.Ytnmjcibhggchkaa
open Go.RowKit

set_option maxRecDepth 100000 in
set_option maxHeartbeats 8000000 in
theorem stPopC : StPopC 11 := by
  intro A n c ps w ha
  have HA := Lib.hid ha
  clear ha
  by_cases h0 : n = 0
  · subst h0
    have hps : ps = [] := List.eq_nil_of_length_eq_zero HA.out.rd.len
    subst hps
    go_enter Try.func11, Try.ntmps11
    go_wp2
    go_ret3
    exact ⟨⟨none, 0, 0, []⟩, none, 0, 0, [], rfl, ⟨Rd.nil _ _ _, Nat.le_refl _, Nat.zero_le _⟩, ⟨Nat.le_refl _, Nat.zero_le _, PkRd.nil⟩, rfl, rfl, Below.refl _ _⟩
  · have d1 : ((n : Int) == 0) = false := by simp; omega
    have d2 : (n == 0) = false := by simp; omega
    obtain ⟨b, off, rfl⟩ := HA.out.rd.addr (by omega)
    obtain ⟨p, hp⟩ : ∃ p, ps[0]? = some p := ⟨ps[0]'(by rw [HA.out.rd.len]; omega), List.getElem?_eq_getElem _⟩
    have hat := HA.out.rd.at 0 p hp
    rw [Nat.add_zero] at hat
    have hft := hat.2
    have hn1 : (0 : Int) < (n : Int) := by omega
    have HOK := Lib.hid (HA.out.rd.ok hp)
    have HSM := Lib.hid (HA.out.small p (List.mem_of_getElem? hp))
    have HH := Lib.hid (show p.l = ((psB ps).head?).getD [] from by
      cases ps with
      | nil => cases hp
      | cons q l => injection hp with hp; subst hp; rfl)
    have HN := Lib.hid (show 0 < n from by omega)
    have HD := Lib.hid (show decide (0 < n) = true from by simpa using (show 0 < n by omega))
    clear hat hp h0
    go_enter Try.func11, Try.ntmps11
    go_wp2_with fail
    refine (bclone_own p.A p.n p.c p.l (by have := HSM.out; omega) w HOK.out.1).mono ?_
    rintro e w2 ⟨A2, c2, rfl, ho, hb⟩
    have HOK2 := Lib.hid (show PkOk w2 w2.heap.size (Part.mk A2 p.n c2 p.l) from ⟨Rd.of_own ho, own_cap ho⟩)
    have HB := Lib.hid hb
    have HR2 := Lib.hid ((HA.out.below hb).rd.behind 1 n HN.out (Nat.le_refl _))
    clear ho hb hft d1 d2 hn1
    go_wp2_with fail
    refine (behind_any (some ⟨b, off, none⟩) n c 1 HN.out HA.out.le w2).mono ?_
    rintro e w3 ⟨rfl, rfl⟩
    go_wp2_with fail
    refine (copies_any (addrK (some ⟨b, off, none⟩) 1 n 1) (n - 1) (n - 1) (ps.drop 1) (by have := HA.out.few; omega) w3 HR2.out (fun q hq => HA.out.small q (List.mem_of_mem_drop hq))).mono ?_
    rintro e w4 ⟨A4, qs, rfl, hr4, hq4, hb4⟩
    have HF := Lib.hid (show PkRes w4 A4 (n - 1) (n - 1) qs from ⟨Nat.le_refl _, by have := HA.out.few; unfold maxLen; omega, hr4⟩)
    have HQ := Lib.hid (show psB qs = (psB ps).tail from by rw [hq4, psB, List.map_drop, List.drop_one]; rfl)
    have HB4 := Lib.hid (HB.out.trans (hb4.mono HB.out.size))
    have HOK4 := Lib.hid ((HOK2.out.below hb4).mono hb4.size)
    clear hr4 hq4 hb4
    go_wp2
    go_ret3
    exact ⟨Part.mk A2 p.n c2 p.l, A4, n - 1, n - 1, qs, by rw [HD.out]; rfl, HOK4.out, HF.out, HH.out, HQ.out, HB4.out⟩
end Go.Proofs.Ytnmjcibhggchkaa
