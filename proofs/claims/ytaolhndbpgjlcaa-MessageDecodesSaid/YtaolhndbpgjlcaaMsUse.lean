/-
  What the laws of layer 11 use: transport messages compared, and the example of the chapter. No statement is proved here.
-/
import Derived.Test.YtaolhndbpgjlcaaMsC
import Derived.Test.YtaolhndbpgjlcaaMsZero
import Derived.Test.YtaolhndbpgjlcaaMsTr
import Derived.Test.YtaolhndbpgjlcaaLow
import Derived.Test.YtaolhndbpgjlcaaObj
import Derived.Test.YtaolhndbpgjlcaaEnt
import Derived.Test.YtaolhndbpgjlcaaSliceOf
import Derived.Test.YtaolhndbpgjlcaaMakeG
import Derived.Deep.QuietTactic
import Derived.BigQuiet
import Derived.RegionTactic
import Derived.BigRegion
import Derived.Deep.RegionWith
import Derived.Deep.DeepCutAuto
import Derived.Outline
namespace Go.Proofs.Ytaolhndbpgjlcaa
open Go.RowKit

set_option maxRecDepth 100000 in
set_option maxHeartbeats 4000000 in
theorem sameTran_any (r q : Nat) (A B : Option Addr) (n c d : Nat) (l : List UInt8) (w : World) (ha : Rd w w.heap.size A n l) (hb : Rd w w.heap.size B n l) :
    Calls Try.prog 21 #[.agg (tranC r q A n c).toArray, .agg (tranC r q B n d).toArray] w fun e w' => e = .returned (.bool true) ∧ Below w.heap.size w w' := by
  have HM := Lib.hid (show Lows w [blkL (w.heap.size + 1) 40 (tranC r q B n d), blkL w.heap.size 40 (tranC r q A n c), rdL B n l, rdL A n l] ((w.alloc (.cells (tranC r q A n c).toArray 40)).alloc (.cells (tranC r q B n d).toArray 40)) from by
    have h := ((((Lows.nil w).cons (rdL A n l) ha).cons (rdL B n l) hb).alloc 40 _ (tranC r q A n c) rfl).alloc 40 _ (tranC r q B n d) rfl
    simpa using h)
  clear ha hb
  go_enter Try.func21, Try.ntmps21
  go_upto_region 1 with fail
  generalize ((w.alloc (.cells (tranC r q A n c).toArray 40)).alloc (.cells (tranC r q B n d).toArray 40)) = w1 at HM ⊢
  have a0 : w1.cell? ⟨w.heap.size, 0, none⟩ = some (.int .u32 (r : Int)) := (HM.out.blk 1 rfl).cell 0
  have a1 : w1.cell? ⟨w.heap.size, 1, none⟩ = some (.int .u64 (q : Int)) := (HM.out.blk 1 rfl).cell 1
  have a2 : w1.cell? ⟨w.heap.size, 2, none⟩ = some (.slice A n c) := (HM.out.blk 1 rfl).cell 2
  have b0 : w1.cell? ⟨(w.heap.size + 1), 0, none⟩ = some (.int .u32 (r : Int)) := (HM.out.blk 0 rfl).cell 0
  have b1 : w1.cell? ⟨(w.heap.size + 1), 1, none⟩ = some (.int .u64 (q : Int)) := (HM.out.blk 0 rfl).cell 1
  have b2 : w1.cell? ⟨(w.heap.size + 1), 2, none⟩ = some (.slice B n d) := (HM.out.blk 0 rfl).cell 2
  have cv1 : (convert 38 9 (.slice A n c)).run Try.prog w1 = .ok (.string ⟨l.toArray⟩) w1 := run_string_of_rd (P := Try.prog) 38 9 5 c Try.underlying38 Try.underlying5 Try.underlying9 (HM.out.rd 3 rfl)
  have cv2 : (convert 38 9 (.slice B n d)).run Try.prog w1 = .ok (.string ⟨l.toArray⟩) w1 := run_string_of_rd (P := Try.prog) 38 9 5 d Try.underlying38 Try.underlying5 Try.underlying9 (HM.out.rd 2 rfl)
  have HB := Lib.hid HM.out.bel
  clear HM
  go_wp2
  go_ret
  exact ⟨rfl, HB.out⟩
def exTr : List UInt8 := [4, 0, 0, 0, 1, 0, 0, 0, 2, 0, 0, 0, 0, 0, 0, 0] ++ List.replicate 16 0
theorem exTr_enc : encT ⟨1, 2, List.replicate 16 0⟩ = (exTr, 0) := by kernel_rfl
theorem exTr_kind : kindB exTr = 4 := by kernel_rfl
set_option maxRecDepth 100000 in
set_option maxHeartbeats 4000000 in
theorem ms_begun_any (HET : MsEncTC 7) (HKN : MsKindC 22) (w : World) : Calls Try.prog 15 #[] w fun e w' => e = .returned (.bool true) ∧ Below w.heap.size w w' := by
  obtain ⟨i0, hi, hz0, hz1, hz2⟩ := info_parts Try.info5
  have HE := Lib.hid (fun g W (h : Rd W W.heap.size (some ⟨g, 0, none⟩) 16 (List.replicate 16 0)) => HET 1 2 (some ⟨g, 0, none⟩) 16 16 (List.replicate 16 0) (by omega) (by omega) (by omega) (by unfold maxLen; omega) (by omega) W h)
  rw [exTr_enc] at HE
  have HK := Lib.hid (fun A c (h1 : 32 ≤ c) (h2 : c ≤ maxLen) => HKN A 32 c exTr h1 h2 (by omega))
  rw [exTr_kind] at HK
  have HX := Lib.hid (show exTr.length = 32 ∧ exTr.getD 0 0 = 4 ∧ exTr.getD 4 0 = 1 ∧ exTr.getD 8 0 = 2 from ⟨rfl, rfl, rfl, rfl⟩)
  dsimp only at HE
  rw [HX.out.1] at HE
  generalize exTr = ext at HE HK HX
  clear HET HKN
  go_enter Try.func15, Try.ntmps15
  go_wp2_with (refine wpList_make_full _ rfl (.const (.int .i64 16)) (.const (.int .i64 16)) 38 rfl w.heap.size 5 i0 (.int .u8 0) 1 Try.underlying38 hi hz0 hz1 .i64 .i64 16 16 16 rfl rfl rfl rfl (by rw [hz2]; omega) (by unfold maxLen; omega) (Nat.le_refl _) ?_; intro w1 hown1 hg1)
  rw [made_in] at hown1
  have HM := Lib.hid (show Lows w [rdL (some ⟨w.heap.size, 0, none⟩) 16 (List.replicate 16 0)] w1 from ((Lows.nil w).below ((Below.refl _ _).grown hg1 (Nat.le_refl _) (by simp))).cons (rdL _ _ _) (Rd.of_own hown1))
  clear hown1 hg1
  generalize w.heap.size = Q at HM ⊢
  go_wp2_with fail
  refine (HE.out Q _ (HM.out.rd 0 rfl)).mono ?_
  rintro e w2 ⟨A, c, rfl, h1, h2, hr, hb⟩
  obtain ⟨b, off, rfl, -, -⟩ := hr.at_ (by omega)
  have HKA := Lib.hid (HK.out (some ⟨b, off, none⟩) c h1 h2)
  replace HM := Lib.hid (show Lows w [rdL (some ⟨b, off, none⟩) 32 ext] w2 from ((HM.out.below hb).cons (rdL _ _ _) hr).tail 1)
  have f0 := hr.byt 0 (by omega)
  have f4 := hr.byt 4 (by omega)
  have f8 := hr.byt 8 (by omega)
  rw [HX.out.2.1, Nat.add_zero, show ((4 : UInt8).toNat : Int) = 4 from rfl] at f0
  rw [HX.out.2.2.1, show ((1 : UInt8).toNat : Int) = 1 from rfl] at f4
  rw [HX.out.2.2.2, show ((2 : UInt8).toNat : Int) = 2 from rfl] at f8
  clear hr hb h1 h2 HE HK HX
  go_wp2_with fail
  refine (HKA.out _ (HM.out.rd 0 rfl)).mono ?_
  rintro e w3 ⟨rfl, hb⟩
  have HB := Lib.hid (HM.out.below hb).bel
  clear hb HM f0 f4 f8
  go_wp2_with fail
  go_ret
  exact ⟨rfl, HB.out⟩
end Go.Proofs.Ytaolhndbpgjlcaa
