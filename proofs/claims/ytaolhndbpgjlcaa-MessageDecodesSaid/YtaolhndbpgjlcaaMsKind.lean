/-
  The contract of the reference's Kind. No statement is proved here.
-/
import Derived.Test.YtaolhndbpgjlcaaMsC
import Derived.Test.YtaolhndbpgjlcaaObj
import Derived.Deep.QuietTactic
import Derived.BigQuiet
import Derived.RegionTactic
import Derived.BigRegion
import Derived.Deep.RegionWith
import Derived.Deep.DeepCutAuto
import Derived.Outline
namespace Go.Proofs.Ytaolhndbpgjlcaa
open Go.RowKit

set_option maxRecDepth 100000 in
set_option maxHeartbeats 8000000 in
theorem refKind_any : MsKindC 34 := by
  intro A n c l _h1 _h2 hn6 w hr
  have hl : l.length = n := hr.1
  by_cases h4 : n < 4
  · have d4 : decide ((n : Int) < 4) = true := by simp; omega
    have hK : kindB l = 0 := by rw [kindB, if_pos (by omega)]
    clear hl hr
    go_enter Try.func34, Try.ntmps34
    go_wp2
    go_ret
    exact ⟨ret_int (by rw [hK]; rfl), Below.refl _ _⟩
  have d4 : decide ((n : Int) < 4) = false := by simp; omega
  obtain ⟨b, off, rfl, hbl, hc⟩ := hr.at_ (by omega)
  have f0 := hr.byt 0 (by omega)
  have f1 := hr.byt 1 (by omega)
  have f2 := hr.byt 2 (by omega)
  have f3 := hr.byt 3 (by omega)
  rw [Nat.add_zero] at f0
  have b3 : (3 : Int) < (n : Int) := by omega
  have b2 : (2 : Int) < (n : Int) := by omega
  have b1 : (1 : Int) < (n : Int) := by omega
  have b0 : (0 : Int) < (n : Int) := by omega
  clear hr hc hbl
  obtain ⟨x0, hx0⟩ : ∃ x, l.getD 0 0 = x := ⟨_, rfl⟩
  obtain ⟨y1, hy1⟩ : ∃ x, l.getD 1 0 = x := ⟨_, rfl⟩
  obtain ⟨y2, hy2⟩ : ∃ x, l.getD 2 0 = x := ⟨_, rfl⟩
  obtain ⟨y3, hy3⟩ : ∃ x, l.getD 3 0 = x := ⟨_, rfl⟩
  rw [hx0] at f0
  rw [hy1] at f1
  rw [hy2] at f2
  rw [hy3] at f3
  by_cases hz1 : y1 = 0
  case neg =>
    have ez : ((y1.toNat : Int) != 0) = true := by rw [bne_iff_ne]; intro h; exact hz1 (UInt8.toNat.inj (by simpa using (by omega : y1.toNat = 0)))
    have hK : kindB l = 0 := by rw [kindB, if_neg (by omega), if_pos]; first | exact .inl (by rw [hy1]; exact hz1) | exact .inr (.inl (by rw [hy2]; exact hz1)) | exact .inr (.inr (by rw [hy3]; exact hz1))
    clear hl hx0 hy1 hy2 hy3 hz1
    go_enter Try.func34, Try.ntmps34
    go_wp2
    go_ret
    exact ⟨ret_int (by rw [hK]; rfl), Below.refl _ _⟩
  subst hz1
  by_cases hz2 : y2 = 0
  case neg =>
    have ez : ((y2.toNat : Int) != 0) = true := by rw [bne_iff_ne]; intro h; exact hz2 (UInt8.toNat.inj (by simpa using (by omega : y2.toNat = 0)))
    have hK : kindB l = 0 := by rw [kindB, if_neg (by omega), if_pos]; first | exact .inl (by rw [hy1]; exact hz2) | exact .inr (.inl (by rw [hy2]; exact hz2)) | exact .inr (.inr (by rw [hy3]; exact hz2))
    clear hl hx0 hy1 hy2 hy3 hz2
    go_enter Try.func34, Try.ntmps34
    go_wp2
    go_ret
    exact ⟨ret_int (by rw [hK]; rfl), Below.refl _ _⟩
  subst hz2
  by_cases hz3 : y3 = 0
  case neg =>
    have ez : ((y3.toNat : Int) != 0) = true := by rw [bne_iff_ne]; intro h; exact hz3 (UInt8.toNat.inj (by simpa using (by omega : y3.toNat = 0)))
    have hK : kindB l = 0 := by rw [kindB, if_neg (by omega), if_pos]; first | exact .inl (by rw [hy1]; exact hz3) | exact .inr (.inl (by rw [hy2]; exact hz3)) | exact .inr (.inr (by rw [hy3]; exact hz3))
    clear hl hx0 hy1 hy2 hy3 hz3
    go_enter Try.func34, Try.ntmps34
    go_wp2
    go_ret
    exact ⟨ret_int (by rw [hK]; rfl), Below.refl _ _⟩
  subst hz3
  have hk0 := kindB_some (by omega) hy1 hy2 hy3
  rw [hx0] at hk0
  clear hx0 hy1 hy2 hy3
  go_enter Try.func34, Try.ntmps34
  go_upto_region 4 with fail
  by_cases h1 : x0 = 1
  · subst h1
    by_cases hn : n = 148
    · subst hn
      have hK : kindB l = 1 := by rw [hk0, hl]; rfl
      clear hk0 hl
      go_wp2
      go_ret
      exact ⟨ret_int (by rw [hK]; rfl), Below.refl _ _⟩
    · have en : ((n : Int) == 148) = false := by rw [beq_eq_false_iff_ne]; omega
      have hK : kindB l = 0 := by rw [hk0, hl, if_neg]; intro h; rcases h with h | h | h | h; all_goals (first | exact absurd h.1 (by decide) | exact hn h.2)
      clear hk0 hl
      go_wp2
      go_ret
      exact ⟨ret_int (by rw [hK]; rfl), Below.refl _ _⟩
  have e1 : ((x0.toNat : Int) == 1) = false := by rw [beq_eq_false_iff_ne]; intro h; exact h1 (UInt8.toNat.inj (by simpa using (by omega : x0.toNat = 1)))
  by_cases h2 : x0 = 2
  · subst h2
    by_cases hn : n = 92
    · subst hn
      have hK : kindB l = 2 := by rw [hk0, hl]; rfl
      clear hk0 hl
      go_wp2
      go_ret
      exact ⟨ret_int (by rw [hK]; rfl), Below.refl _ _⟩
    · have en : ((n : Int) == 92) = false := by rw [beq_eq_false_iff_ne]; omega
      have hK : kindB l = 0 := by rw [hk0, hl, if_neg]; intro h; rcases h with h | h | h | h; all_goals (first | exact absurd h.1 (by decide) | exact hn h.2)
      clear hk0 hl
      go_wp2
      go_ret
      exact ⟨ret_int (by rw [hK]; rfl), Below.refl _ _⟩
  have e2 : ((x0.toNat : Int) == 2) = false := by rw [beq_eq_false_iff_ne]; intro h; exact h2 (UInt8.toNat.inj (by simpa using (by omega : x0.toNat = 2)))
  by_cases h3 : x0 = 3
  · subst h3
    by_cases hn : n = 64
    · subst hn
      have hK : kindB l = 3 := by rw [hk0, hl]; rfl
      clear hk0 hl
      go_wp2
      go_ret
      exact ⟨ret_int (by rw [hK]; rfl), Below.refl _ _⟩
    · have en : ((n : Int) == 64) = false := by rw [beq_eq_false_iff_ne]; omega
      have hK : kindB l = 0 := by rw [hk0, hl, if_neg]; intro h; rcases h with h | h | h | h; all_goals (first | exact absurd h.1 (by decide) | exact hn h.2)
      clear hk0 hl
      go_wp2
      go_ret
      exact ⟨ret_int (by rw [hK]; rfl), Below.refl _ _⟩
  have e3 : ((x0.toNat : Int) == 3) = false := by rw [beq_eq_false_iff_ne]; intro h; exact h3 (UInt8.toNat.inj (by simpa using (by omega : x0.toNat = 3)))
  by_cases h4 : x0 = 4
  · subst h4
    by_cases hn : 32 ≤ n
    · have en : decide ((n : Int) ≥ 32) = true := by simp; omega
      by_cases hm : n ≤ 2100
      · have em : decide ((n : Int) ≤ 2100) = true := by simp; omega
        have hK : kindB l = 4 := by rw [hk0, hl, if_pos (.inr (.inr (.inr ⟨rfl, hn, hm⟩)))]; rfl
        clear hk0 hl
        go_wp2
        go_ret
        exact ⟨ret_int (by rw [hK]; rfl), Below.refl _ _⟩
      · have em : decide ((n : Int) ≤ 2100) = false := by simp; omega
        have hK : kindB l = 0 := by rw [hk0, hl, if_neg]; intro h; rcases h with h | h | h | h; all_goals (first | exact absurd h.1 (by decide) | exact hm h.2.2)
        clear hk0 hl
        go_wp2
        go_ret
        exact ⟨ret_int (by rw [hK]; rfl), Below.refl _ _⟩
    · have en : decide ((n : Int) ≥ 32) = false := by simp; omega
      have hK : kindB l = 0 := by rw [hk0, hl, if_neg]; intro h; rcases h with h | h | h | h; all_goals (first | exact absurd h.1 (by decide) | exact hn h.2.1)
      clear hk0 hl
      go_wp2
      go_ret
      exact ⟨ret_int (by rw [hK]; rfl), Below.refl _ _⟩
  have e4 : ((x0.toNat : Int) == 4) = false := by rw [beq_eq_false_iff_ne]; intro h; exact h4 (UInt8.toNat.inj (by simpa using (by omega : x0.toNat = 4)))
  have hK : kindB l = 0 := by rw [hk0, if_neg]; intro h; rcases h with h | h | h | h; all_goals (first | exact h1 (UInt8.toNat.inj h.1) | exact h2 (UInt8.toNat.inj h.1) | exact h3 (UInt8.toNat.inj h.1) | exact h4 (UInt8.toNat.inj h.1))
  clear hk0 hl
  go_wp2
  go_ret
  exact ⟨ret_int (by rw [hK]; rfl), Below.refl _ _⟩
end Go.Proofs.Ytaolhndbpgjlcaa
