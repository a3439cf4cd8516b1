/-
  The contract of codec.Equal: the same length and the same bytes (as XEqual, without Join).
-/
import Derived.Test.YtgdgecehmnokdaaMem
import Derived.Laws.BitsAllLaws
import Derived.RegionTactic
import Derived.BigQuiet
import Derived.Deep.QuietTactic
import Derived.Maps.AppendAt
import Derived.Outline
namespace Go.Proofs.Ytgdgecehmnokdaa
open Go.RowKit

theorem or_zero (a b : Nat) : a ||| b = 0 ↔ a = 0 ∧ b = 0 := Nat.or_eq_zero_iff
theorem xor_zero (a b : Nat) : a ^^^ b = 0 ↔ a = b := by
  constructor
  · intro h
    apply Nat.eq_of_testBit_eq
    intro i
    have := congrArg (fun x => x.testBit i) h
    simp only [Nat.testBit_xor, Nat.zero_testBit] at this
    simpa using this
  · rintro rfl
    simp
/-- one round of Equal -/
theorem equal_step (d : Nat) (a b : UInt8) (hd : d < 256) : ∃ d' : Nat, d' < 256 ∧ bits BinOp.or IntKind.u8 (d : Int) (bits BinOp.xor IntKind.u8 (a.toNat : Int) (b.toNat : Int)) = (d' : Int) ∧ (d' = 0 ↔ d = 0 ∧ a = b) := by
  have h1 := a.toNat_lt
  have h2 := b.toNat_lt
  have hx : a.toNat ^^^ b.toNat < 2 ^ 8 := Nat.xor_lt_two_pow h1 h2
  refine ⟨d ||| (a.toNat ^^^ b.toNat), Nat.or_lt_two_pow hd hx, ?_, ?_⟩
  · rw [u8_xor_nat _ _ (by omega) (by omega), u8_or_nat _ _ (by omega) (by omega)]
  · rw [or_zero, xor_zero, UInt8.toNat_inj]
theorem take_eq_step (la lb : List UInt8) (j : Nat) (ha : j < la.length) (hb : j < lb.length) : la.take (j + 1) = lb.take (j + 1) ↔ la.take j = lb.take j ∧ la[j] = lb[j] := by
  rw [List.take_succ_eq_append_getElem ha, List.take_succ_eq_append_getElem hb]
  constructor
  · intro h
    have h2 := List.append_inj h (by simp; omega)
    exact ⟨h2.1, by simpa using h2.2⟩
  · rintro ⟨h1, h2⟩
    rw [h1, h2]

set_option maxRecDepth 100000 in
theorem equal_any (B n n' c c' : Nat) (A A' : Option Addr) (la lb : List UInt8) (hn : n ≤ 1000000) (hn' : n' ≤ 1000000) (w : World) (hB : B ≤ w.heap.size) (ha : Rd w B A n la) (hb : Rd w B A' n' lb) :
    Calls Try.prog 25 #[.slice A n c, .slice A' n' c'] w fun e w' => e = .returned (.bool (la == lb)) ∧ Below w.heap.size w w' := by
  have hla : la.length = n := ha.1
  have hlb : lb.length = n' := hb.1
  have HA := Lib.hid ha
  have HB := Lib.hid hb
  have HLA := Lib.hid hla
  have HLB := Lib.hid hlb
  clear ha hb hla hlb
  by_cases hne : n = n'
  · subst hne
    go_enter Try.func25, Try.ntmps25
    go_wp2
    go_loopw [5, 14, 6] (fun d i _ wr => ∃ j dn : Nat, j ≤ n ∧ i = .int .i64 j ∧ dn < 256 ∧ d = .int .u8 dn ∧ (dn = 0 ↔ la.take j = lb.take j) ∧ Below w.heap.size w wr) (fun _ i _ _ => n - (intOf i).toNat)
    case atStart => exact ⟨0, 0, by omega, rfl, by omega, rfl, by simp, Below.refl _ _⟩
    case round =>
      obtain ⟨j, dn, hj, rfl, hd, rfl, hiff, hbl⟩ := hrel
      by_cases hlt : j < n
      · obtain ⟨b1, o1, rfl, hb1, hc1⟩ := HA.out.at_ (by omega)
        obtain ⟨b2, o2, rfl, hb2, hc2⟩ := HB.out.at_ (by omega)
        have hja : j < la.length := by have := HLA.out; omega
        have hjb : j < lb.length := by have := HLB.out; omega
        have q1 := (hbl.cell (p := ⟨b1, o1 + j, none⟩) (Nat.lt_of_lt_of_le hb1 hB)).trans (hc1 j hja)
        have q2 := (hbl.cell (p := ⟨b2, o2 + j, none⟩) (Nat.lt_of_lt_of_le hb2 hB)).trans (hc2 j hjb)
        clear hc1 hc2
        obtain ⟨d', hd', hbits, hz⟩ := equal_step dn la[j] lb[j] hd
        have HI := Lib.hid hiff
        have HZ := Lib.hid hz
        clear hiff hz
        go_wp2
        go_quiet (fail)
        go_wp2
        go_roundw
        case rel => exact ⟨j + 1, d', by omega, by go_num, hd', rfl, by rw [take_eq_step _ _ _ hja hjb, HZ.out, HI.out], below_drewN hbl _⟩
        case measure => simp [intOf]; omega
      · obtain rfl : j = n := by omega
        rw [List.take_of_length_le (by have := HLA.out; omega), List.take_of_length_le (by have := HLB.out; omega)] at hiff
        have hfin : ((dn : Int) == 0) = (la == lb) := by
          rw [Bool.eq_iff_iff, beq_iff_eq, beq_iff_eq, ← hiff]
          omega
        have HF := Lib.hid hfin
        clear hfin hiff
        go_wp2
        go_ret
        exact ⟨by rw [← HF.out]; rfl, hbl⟩
  · have hfin : (la == lb) = false := by
      rw [beq_eq_false_iff_ne]
      intro h
      have := HLA.out
      have := HLB.out
      rw [h] at *
      omega
    rw [hfin]
    have hne' : ((n : Int) == (n' : Int)) = false := by
      rw [beq_eq_false_iff_ne]; omega
    clear hfin
    go_enter Try.func25, Try.ntmps25
    go_wp2
    go_ret
    exact ⟨rfl, Below.refl _ _⟩
end Go.Proofs.Ytgdgecehmnokdaa
