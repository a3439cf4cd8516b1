/-
  CodecNumbers returns true for every number, size and bytes, and changes nothing that was there: the walk.
-/
import Derived.Test.YtdnmbabofkiiiaaRefNum
import Derived.Test.YtdnmbabofkiiiaaCase
import Derived.Test.YtdnmbabofkiiiaaBegun
import Derived.Deep.RegionWith
import Derived.BigRegion
import Derived.Outline
namespace Go.Proofs.Ytdnmbabofkiiiaa
open Go.RowKit

/-- the bytes for whatever size -/
def lS (n : Nat) (x : Int) : List UInt8 := if 1 ≤ x ∧ x ≤ 8 then littleL n x.toNat else []
/-- the post of a call that returns new bytes -/
def Bytes (l : List UInt8) (w : World) (e : Ending) (w' : World) : Prop := ∃ A k c, e = .returned (.slice A k c) ∧ Rd w' w'.heap.size A k l ∧ Below w.heap.size w w'

theorem little_S (n : Nat) (hn : n < 18446744073709551616) (x : Int) (w : World) : Calls Try.prog 10 #[.int .u64 n, .int .i64 x] w (Bytes (lS n x) w) := by
  unfold lS
  by_cases h : 1 ≤ x ∧ x ≤ 8
  · obtain ⟨k, rfl⟩ : ∃ k : Nat, x = (k : Int) := ⟨x.toNat, by omega⟩
    rw [if_pos h, Int.toNat_natCast]
    exact (little_any n hn k (by omega) (by omega) w).mono fun e w' ⟨he, ho, hb⟩ => ⟨_, _, _, he, Rd.of_own ho, hb⟩
  · rw [if_neg h]
    refine (little_none n x (by omega) w).mono fun e w' ⟨he, hw⟩ => ?_
    subst hw
    exact ⟨_, _, _, he, Rd.nil _ _ _, Below.refl _ _⟩
theorem refLittle_S (n : Nat) (hn : n < 18446744073709551616) (x : Int) (w : World) : Calls Try.prog 11 #[.int .u64 n, .int .i64 x] w (Bytes (lS n x) w) := by
  unfold lS
  by_cases h : 1 ≤ x ∧ x ≤ 8
  · obtain ⟨k, rfl⟩ : ∃ k : Nat, x = (k : Int) := ⟨x.toNat, by omega⟩
    rw [if_pos h, Int.toNat_natCast]
    exact (refLittle_any n hn k (by omega) (by omega) w).mono fun e w' ⟨A, c, he, ho, hb⟩ => ⟨_, _, _, he, Rd.of_own ho, hb⟩
  · rw [if_neg h]
    refine (refLittle_none n x (by omega) w).mono fun e w' ⟨he, hw⟩ => ?_
    subst hw
    exact ⟨_, _, _, he, Rd.nil _ _ _, Below.refl _ _⟩
theorem big_S (n : Nat) (hn : n < 18446744073709551616) (x : Int) (w : World) : Calls Try.prog 12 #[.int .u64 n, .int .i64 x] w (Bytes (lS n x).reverse w) := by
  unfold lS
  by_cases h : 1 ≤ x ∧ x ≤ 8
  · obtain ⟨k, rfl⟩ : ∃ k : Nat, x = (k : Int) := ⟨x.toNat, by omega⟩
    rw [if_pos h, Int.toNat_natCast]
    exact (big_any n hn k (by omega) (by omega) w).mono fun e w' ⟨he, ho, hb⟩ => ⟨_, _, _, he, Rd.of_own ho, hb⟩
  · rw [if_neg h]
    refine (big_none n x (by omega) w).mono fun e w' ⟨he, hw⟩ => ?_
    subst hw
    exact ⟨_, _, _, he, Rd.nil _ _ _, Below.refl _ _⟩
theorem refBig_S (n : Nat) (hn : n < 18446744073709551616) (x : Int) (w : World) : Calls Try.prog 13 #[.int .u64 n, .int .i64 x] w (Bytes (lS n x).reverse w) := by
  unfold lS
  by_cases h : 1 ≤ x ∧ x ≤ 8
  · obtain ⟨k, rfl⟩ : ∃ k : Nat, x = (k : Int) := ⟨x.toNat, by omega⟩
    rw [if_pos h, Int.toNat_natCast]
    exact (refBig_any n hn k (by omega) (by omega) w).mono fun e w' ⟨A, c, he, ho, hb⟩ => ⟨_, _, _, he, Rd.of_own ho, hb⟩
  · rw [if_neg h]
    refine (refBig_none n x (by omega) w).mono fun e w' ⟨he, hw⟩ => ?_
    subst hw
    exact ⟨_, _, _, he, Rd.nil _ _ _, Below.refl _ _⟩

/-- a slice that reads as l becomes the same string in every later world -/
theorem later_string {w0 : World} {A : Option Addr} {k : Nat} {l : List UInt8} (h : Rd w0 w0.heap.size A k l) (c : Nat) : ∀ w' : World, Below w0.heap.size w0 w' → (convert 23 9 (.slice A k c)).run Try.prog w' = .ok (.string ⟨l.toArray⟩) w' :=
  fun _ hb => run_string_of_rd (P := Try.prog) 23 9 5 c Try.underlying23 Try.underlying5 Try.underlying9 (h.below hb)

set_option maxHeartbeats 1000000 in
theorem numbers_walk (w : World) (n : Nat) (x : Int) (A : Option Addr) (len cap : Nat) (l : List UInt8) (hn : n < 18446744073709551616) (_hx : -9223372036854775808 ≤ x ∧ x ≤ 9223372036854775807) (hlc : len ≤ cap) (hcm : cap ≤ maxLen) (hr : Rd w w.heap.size A len l) :
    Calls Try.prog 3 #[.int .u64 n, .int .i64 x, .slice A len cap] w fun e w' => e = .returned (.bool true) ∧ Below w.heap.size w w' := by
  have CC := Lib.hid (cut_any _ A len cap 20 l hlc hcm w hr)
  have C1 := Lib.hid (little_S n hn)
  have C2 := Lib.hid (refLittle_S n hn)
  have C3 := Lib.hid (big_S n hn)
  have C4 := Lib.hid (refBig_S n hn)
  clear hr hn hlc hcm _hx
  go_enter Try.func3, Try.ntmps3
  go_wp2_with fail
  refine CC.out.mono ?_
  rintro e w1 ⟨rfl, hrd, rfl⟩
  have HR := Lib.hid hrd
  clear hrd CC
  go_wp2_with fail
  refine (mod_any x 10 (by omega) (by omega) _).mono ?_
  rintro e w1 ⟨rfl, rfl⟩
  go_wp2_with fail
  generalize hW : w.alloc _ = W1
  have hk : Blk W1 w.heap.size 3 [.int .i64 x, .int .i64 (x % 10)] := by rw [← hW]; exact Blk.new w _ _
  have hbw : Below w.heap.size w W1 := by rw [← hW]; exact (Below.refl _ _).alloc (Nat.le_refl _) _
  have HK := Lib.hid hk
  clear hk hW
  go_loopw [16, 8] (fun i _ wr => ∃ j : Nat, j ≤ 2 ∧ i = .int .i64 j ∧ Below W1.heap.size W1 wr) (fun i _ _ => 2 - (intOf i).toNat)
  case atStart => exact ⟨0, by omega, rfl, Below.refl _ _⟩
  case round =>
    obtain ⟨j, hj, rfl, hb⟩ := hrel
    by_cases hlt : j < 2
    · have hcell : ∃ y : Int, wr.cell? ⟨w.heap.size, j, none⟩ = some (.int .i64 y) := by
        have h := (HK.out.below hb HK.out.lt).cell j
        obtain rfl | rfl : j = 0 ∨ j = 1 := by omega
        · exact ⟨_, h⟩
        · exact ⟨_, h⟩
      obtain ⟨y, hcell⟩ := hcell
      have HB := Lib.hid hb
      clear hb
      go_wp2_with fail
      go_region_with (first
        | (go_at_call 10; refine (C1.out _ _).mono ?_; rintro e wa ⟨A1, k1, c1, rfl, rd1, hb1⟩; have s1 := later_string rd1 c1; have z1 := Below.refl wa.heap.size wa)
        | (go_at_call 11; refine (C2.out _ _).mono ?_; rintro e wb ⟨A2, k2, c2, rfl, rd2, hb2⟩; have s2 := later_string rd2 c2; have z2 := Below.refl wb.heap.size wb)
        | (go_at_call 12; refine (C3.out _ _).mono ?_; rintro e wc ⟨A3, k3, c3, rfl, rd3, hb3⟩; have s3 := later_string rd3 c3; have z3 := Below.refl wc.heap.size wc)
        | (go_at_call 13; refine (C4.out _ _).mono ?_; rintro e wd ⟨A4, k4, c4, rfl, rd4, hb4⟩; have s4 := later_string rd4 c4; have z4 := Below.refl wd.heap.size wd))
      all_goals
        have e1 := HB.out.drew.trans (hb1.mono HB.out.drew.size)
        have e2 := e1.trans (hb2.mono e1.size)
        have e3 := e2.trans (hb3.mono e2.size)
        have e4 := Lib.hid (e3.trans (hb4.mono e3.size))
        clear rd1 rd2 rd3 rd4 s1 s2 s3 s4 z1 z2 z3 z4 hb1 hb2 hb3 hb4 e1 e2 e3
        go_wp2
        go_roundw
        case rel => exact ⟨j + 1, by omega, by go_num, e4.out⟩
        case measure => simp [intOf]; omega
    · obtain rfl : j = 2 := by omega
      have hbe := hbw.trans (hb.mono hbw.size)
      have q := Lib.hid (HR.out.below hbe)
      have HBE := Lib.hid hbe
      clear hb hbe hbw
      go_wp2_with fail
      refine (readLittle_any _ _ _ _ _ (by omega) _ q.out).mono ?_
      rintro e w3 ⟨rfl, rfl⟩
      go_wp2_with fail
      refine (readRefLittle_any _ _ _ _ _ (by omega) _ q.out).mono ?_
      rintro e w3 ⟨rfl, rfl⟩
      go_wp2_with fail
      refine (readBig_any _ _ _ _ _ (by omega) _ q.out).mono ?_
      rintro e w3 ⟨rfl, rfl⟩
      go_wp2_with fail
      refine (readRefBig_any _ _ _ _ _ (by omega) _ q.out).mono ?_
      rintro e w3 ⟨rfl, rfl⟩
      go_wp2_with fail
      refine (begun_any _).mono ?_
      rintro e w3 ⟨rfl, hb3⟩
      have HE := Lib.hid (HBE.out.trans (hb3.mono HBE.out.size))
      clear hb3
      go_wp2_with fail
      go_ret
      exact ⟨rfl, HE.out⟩
end Go.Proofs.Ytdnmbabofkiiiaa
