/-
  TaiOrders returns true for every input, and changes nothing that was there: the walk, over what is asked of tai.Of, Tick and After. No statement is proved here.
-/
import Derived.Test.YtmbcohhnnlpnaaaTaAfterC
import Derived.Test.YtmbcohhnnlpnaaaTaTickC
import Derived.Test.YtmbcohhnnlpnaaaTaBegun
import Derived.Test.YtmbcohhnnlpnaaaModOf64
namespace Go.Proofs.Ytmbcohhnnlpnaaa
open Go.RowKit

set_option maxRecDepth 100000 in
set_option maxHeartbeats 8000000 in
theorem ta_orders_walk (HO : TaOfC) (HT : TaTickC) (HA : TaAfterC) (w : World) (a b : Int) (n : Nat) (_ha : -9223372036854775808 ≤ a ∧ a ≤ 9223372036854775807) (_hb : -9223372036854775808 ≤ b ∧ b ≤ 9223372036854775807) (hn : n ≤ 255) :
    Calls Try.prog 4 #[.int .i64 a, .int .i64 b, .int .u8 (n : Int)] w fun e w' => e = .returned (.bool true) ∧ Below w.heap.size w w' := by
  have HB := Lib.hid (Below.refl w.heap.size w)
  have HOC := Lib.hid HO
  have HTC := Lib.hid HT
  have HAC := Lib.hid HA
  have HBG := Lib.hid (ta_begun_any HO)
  obtain ⟨X, hX⟩ : ∃ X : Nat, a % ((1099511627777 : Nat) : Int) = (X : Int) := ⟨(a % ((1099511627777 : Nat) : Int)).toNat, by omega⟩
  obtain ⟨Y0, hY0⟩ : ∃ X : Nat, b % ((1099511627777 : Nat) : Int) = (X : Int) := ⟨(b % ((1099511627777 : Nat) : Int)).toNat, by omega⟩
  have hXb : X ≤ 1099511627776 := by omega
  have hYb : Y0 ≤ 1099511627776 := by omega
  have MA := Lib.hid (fun w' : World => mod64_any a 1099511627777 (by omega) (by omega) w')
  have MB := Lib.hid (fun w' : World => mod64_any b 1099511627777 (by omega) (by omega) w')
  rw [hX] at MA
  rw [hY0] at MB
  clear hX hY0 HO HT HA
  go_enter Try.func4, Try.ntmps4
  go_wp2_with fail
  rw [show (1099511627777 : Int) = ((1099511627777 : Nat) : Int) from rfl]
  refine (MA.out _).mono ?_
  rintro e w1 ⟨rfl, rfl⟩
  go_wp2_with fail
  rw [show (1099511627777 : Int) = ((1099511627777 : Nat) : Int) from rfl]
  refine (MB.out _).mono ?_
  rintro e w1 ⟨rfl, rfl⟩
  clear MA MB
  go_upto_if 17 with fail
  go_cut [8] (fun v8 wx => ∃ Y : Nat, Y ≤ 1099511627776 ∧ v8 = .int .i64 (Y : Int) ∧ wx = w)
  case first =>
    obtain ⟨q, hq⟩ : ∃ q, n / 16 = q := ⟨_, rfl⟩
    obtain ⟨Z, hZ⟩ : ∃ Z, X + q = Z := ⟨_, rfl⟩
    have e1 : ((n : Int)).tdiv 16 = (q : Int) := by rw [Int.tdiv_eq_ediv_of_nonneg (by omega)]; omega
    have e2 : (n : Int) / 16 = (q : Int) := by omega
    have e3 : IntKind.i64.wrap (n : Int) = (n : Int) := IntWalk.i64_in _ (by omega)
    have e4 : IntKind.i64.wrap (q : Int) = (q : Int) := IntWalk.i64_in _ (by omega)
    have e5 : IntKind.i64.wrap ((X : Int) + (q : Int)) = (Z : Int) := by rw [show (X : Int) + (q : Int) = (Z : Int) by omega]; exact IntWalk.i64_in _ (by omega)
    clear hq hZ
    by_cases h2 : n % 2 = 1
    · have c1 : (n : Int) % 2 = 1 := by omega
      have c2 : ((n : Int)).tmod 2 = 1 := by rw [Int.tmod_eq_emod_of_nonneg (by omega)]; omega
      go_wp2
      all_goals go_meet
      all_goals first | exact ⟨1099511627776, Nat.le_refl _, rfl, rfl⟩ | exact ⟨Z, by omega, rfl, rfl⟩
    · have c1 : (n : Int) % 2 = 0 := by omega
      have c2 : ((n : Int)).tmod 2 = 0 := by rw [Int.tmod_eq_emod_of_nonneg (by omega)]; omega
      go_wp2
      go_meet
      exact ⟨Y0, hYb, rfl, rfl⟩
  case rest =>
    obtain ⟨Y, hYY, rfl, rfl⟩ := hcut
    have OX := Lib.hid (fun w' : World => HOC.out (X : Int) (by omega) (by omega) w')
    have OY := Lib.hid (fun w' : World => HOC.out (Y : Int) (by omega) (by omega) w')
    rw [stampL_nat X hXb] at OX
    rw [stampL_nat Y hYY] at OY
    have TX := Lib.hid (fun w' : World => HTC.out (stampN X) (stampN_length X) w')
    rw [tickL_stamp X hXb] at TX
    have AXY := Lib.hid (fun w' : World => HAC.out (stampN X) (stampN Y) (stampN_length X) (stampN_length Y) w')
    have AYX := Lib.hid (fun w' : World => HAC.out (stampN Y) (stampN X) (stampN_length Y) (stampN_length X) w')
    rw [laterB_stamp X Y hXb hYY] at AXY
    rw [laterB_stamp Y X hYY hXb] at AYX
    obtain ⟨cx, hcx⟩ : ∃ x, ((stampN X).map u8v).toArray = x := ⟨_, rfl⟩
    obtain ⟨cy, hcy⟩ : ∃ x, ((stampN Y).map u8v).toArray = x := ⟨_, rfl⟩
    rw [hcx] at OX TX
    rw [hcy] at OY
    rw [hcx, hcy] at AXY AYX
    obtain ⟨g1, hg1⟩ : ∃ g, decide (Y < X) = g := ⟨_, rfl⟩
    obtain ⟨g2, hg2⟩ : ∃ g, decide (X < Y) = g := ⟨_, rfl⟩
    rw [hg1] at AXY
    rw [hg2] at AYX
    have d1 : decide ((X : Int) > (Y : Int)) = g1 := by rw [← hg1]; congr 1; exact propext ⟨fun h => by omega, fun h => by omega⟩
    have d2 : decide ((Y : Int) > (X : Int)) = g2 := by rw [← hg2]; congr 1; exact propext ⟨fun h => by omega, fun h => by omega⟩
    have HD := Lib.hid (And.intro d1 (And.intro d2 (And.intro hg1 hg2)))
    clear hcx hcy hg1 hg2 hXb hYb hYY d1 d2
    go_wp2_with fail
    refine (OX.out _).mono ?_
    rintro e w2 ⟨rfl, hb⟩
    replace HB := Lib.hid (HB.out.trans (hb.mono HB.out.size))
    clear hb
    go_wp2_with fail
    refine (TX.out _).mono ?_
    rintro e w3 ⟨rfl, hb⟩
    replace HB := Lib.hid (HB.out.trans (hb.mono HB.out.size))
    clear hb
    go_wp2_with fail
    refine (OX.out _).mono ?_
    rintro e w4 ⟨rfl, hb⟩
    replace HB := Lib.hid (HB.out.trans (hb.mono HB.out.size))
    clear hb
    go_wp2_with fail
    refine (OY.out _).mono ?_
    rintro e w5 ⟨rfl, hb⟩
    replace HB := Lib.hid (HB.out.trans (hb.mono HB.out.size))
    clear hb
    go_wp2_with fail
    refine (AXY.out _).mono ?_
    rintro e w6 ⟨rfl, hb⟩
    replace HB := Lib.hid (HB.out.trans (hb.mono HB.out.size))
    clear hb
    have d1 := HD.out.1
    have d1' := HD.out.2.2.1
    go_wp2_with fail
    refine (OY.out _).mono ?_
    rintro e w7 ⟨rfl, hb⟩
    replace HB := Lib.hid (HB.out.trans (hb.mono HB.out.size))
    clear hb
    go_wp2_with fail
    refine (OX.out _).mono ?_
    rintro e w8 ⟨rfl, hb⟩
    replace HB := Lib.hid (HB.out.trans (hb.mono HB.out.size))
    clear hb
    go_wp2_with fail
    refine (AYX.out _).mono ?_
    rintro e w9 ⟨rfl, hb⟩
    replace HB := Lib.hid (HB.out.trans (hb.mono HB.out.size))
    clear hb
    have d2 := HD.out.2.1
    have d2' := HD.out.2.2.2
    go_wp2_with fail
    refine (HBG.out _).mono ?_
    rintro e w10 ⟨rfl, hb⟩
    replace HB := Lib.hid (HB.out.trans (hb.mono HB.out.size))
    clear hb
    clear d1 d2 d1' d2'
    go_wp2_with fail
    go_ret
    exact ⟨rfl, HB.out⟩
end Go.Proofs.Ytmbcohhnnlpnaaa
