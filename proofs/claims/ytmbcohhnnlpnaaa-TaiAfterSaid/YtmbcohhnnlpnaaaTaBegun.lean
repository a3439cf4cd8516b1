/-
  The sanity check of layer 9's laws: the chapter's example holds. No statement is proved here.
-/
import Derived.Test.YtmbcohhnnlpnaaaTaOfC
import Derived.Test.YtmbcohhnnlpnaaaEnt
import Derived.Test.YtmbcohhnnlpnaaaKeyMem
import Derived.Deep.DeepCutAuto
namespace Go.Proofs.Ytmbcohhnnlpnaaa
open Go.RowKit

set_option maxRecDepth 100000 in
set_option maxHeartbeats 4000000 in
theorem ta_begun_any (HO : TaOfC) (w : World) : Calls Try.prog 11 #[] w fun e w' => e = .returned (.bool true) ∧ Below w.heap.size w w' := by
  obtain ⟨i0, hi, hz0, hz1, hz2⟩ := info_parts Try.info5
  have ex := fun w' : World => run_key_eq (P := Try.prog) 23 5 12 Try.underlying23 Try.underlying5 i0 hi hz1 (stampL 1500) (stampL 1500) (stampL_length _) (stampL_length _) w'
  rw [show (stampL 1500 == stampL 1500) = true by simp] at ex
  have OC := Lib.hid (fun w' : World => HO 1500 (by omega) (by omega) w')
  rw [stamp_1500] at OC ex
  rw [show (([64, 0, 0, 0, 0, 0, 0, 11, 29, 205, 101, 0] : List UInt8).map u8v).toArray = #[.int .u8 64, .int .u8 0, .int .u8 0, .int .u8 0, .int .u8 0, .int .u8 0, .int .u8 0, .int .u8 11, .int .u8 29, .int .u8 205, .int .u8 101, .int .u8 0] from rfl] at OC ex
  have HEX := Lib.hid ex
  clear ex hi hz0 hz1 hz2 HO
  go_enter Try.func11, Try.ntmps11
  go_wp2_with fail
  refine (OC.out _).mono ?_
  rintro e w1 ⟨rfl, hb⟩
  have HB := Lib.hid hb
  have ex := HEX.out
  clear hb OC HEX
  go_wp2_with fail
  go_ret
  exact ⟨rfl, HB.out⟩
end Go.Proofs.Ytmbcohhnnlpnaaa
