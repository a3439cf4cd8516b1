/-
  The sanity check of layer 6's laws: the chapter's example holds. No statement is proved here.
-/
import Derived.Test.YtellicmnopfkgaaDoorBlBegun
import Derived.Deep.DeepCutAuto
namespace Go.Proofs.YtellicmnopfkgaaDoor
open Go.RowKit

set_option maxRecDepth 100000 in
set_option maxHeartbeats 8000000 in
theorem bl_begun_any (HH : BlHashC) (w : World) (hlv : LvBlake w) : Calls Tryd.prog 11 #[] w fun e w' => e = .returned (.bool true) ∧ Below w.heap.size w w' := by
  obtain ⟨i0, hi, hz0, hz1, hz2⟩ := info_parts Tryd.info5
  have ex := fun w' : World => run_key_eq (P := Tryd.prog) 33 5 32 Tryd.underlying33 Tryd.underlying5 i0 hi hz1 (hashB 32 [] [97, 98, 99]) (hashB 32 [] [97, 98, 99]) (hashB_length _ _ _ (by omega)) (hashB_length _ _ _ (by omega)) w'
  rw [show (hashB 32 [] [97, 98, 99] == hashB 32 [] [97, 98, 99]) = true by simp] at ex
  have HP := Lib.hid (show PartsOk [⟨some ⟨w.heap.size, 0, none⟩, 3, 3, [97, 98, 99]⟩] from ⟨by simp, by simp [flat], fun p hp => by cases List.mem_singleton.1 hp; exact ⟨Nat.le_refl _, by show 3 ≤ maxLen; unfold maxLen; omega⟩⟩)
  have HC := Lib.hid (fun (w' : World) (h : PartsRd w' w'.heap.size (some ⟨w.heap.size + 1, 0, none⟩) [⟨some ⟨w.heap.size, 0, none⟩, 3, 3, [97, 98, 99]⟩]) (hv : LvBlake w') => HH 1 (some ⟨w.heap.size + 1, 0, none⟩) _ HP.out (Nat.le_refl _) (by unfold maxLen; omega) w' hv h)
  rw [show flat [(⟨some ⟨w.heap.size, 0, none⟩, 3, 3, [97, 98, 99]⟩ : Part)] ([(⟨some ⟨w.heap.size, 0, none⟩, 3, 3, [97, 98, 99]⟩ : Part)]).length = [97, 98, 99] from rfl, show ([(⟨some ⟨w.heap.size, 0, none⟩, 3, 3, [97, 98, 99]⟩ : Part)]).length = 1 from rfl] at HC
  rw [bl_abc] at HC ex
  rw [show (([80, 140, 94, 140, 50, 124, 20, 226, 225, 167, 43, 163, 78, 235, 69, 47, 55, 69, 139, 32, 158, 214, 58, 41, 77, 153, 155, 76, 134, 103, 89, 130] : List UInt8).map u8v).toArray = #[.int .u8 80, .int .u8 140, .int .u8 94, .int .u8 140, .int .u8 50, .int .u8 124, .int .u8 20, .int .u8 226, .int .u8 225, .int .u8 167, .int .u8 43, .int .u8 163, .int .u8 78, .int .u8 235, .int .u8 69, .int .u8 47, .int .u8 55, .int .u8 69, .int .u8 139, .int .u8 32, .int .u8 158, .int .u8 214, .int .u8 58, .int .u8 41, .int .u8 77, .int .u8 153, .int .u8 155, .int .u8 76, .int .u8 134, .int .u8 103, .int .u8 89, .int .u8 130] from rfl] at HC ex
  have HEX := Lib.hid ex
  have HLV := Lib.hid hlv
  clear ex HP HH hlv
  go_enter Tryd.func11, Tryd.ntmps11
  have kc := fun (w : World) (C : Array Value) (n c : Nat) => Lib.run_convert_bytes_const (P := Tryd.prog) w 22 5 C n c Tryd.underlying22 Tryd.underlying5
  go_wp2_with fail
  clear kc
  have hb1 : Below w.heap.size w (w.alloc (.cells #[.int .u8 97, .int .u8 98, .int .u8 99] 5 (3, 4))) := (Below.refl _ _).alloc (Nat.le_refl _) _
  have HM := Lib.hid (show Mem w [rdE w.heap.size (w.heap.size + 1) (some ⟨w.heap.size, 0, none⟩) 3 [97, 98, 99]] (w.alloc (.cells #[.int .u8 97, .int .u8 98, .int .u8 99] 5 (3, 4))) from (Mem.nil w).call hb1 _ rfl (by simp [rdE]) (rd_marked w 5 [97, 98, 99] 3 rfl (3, 4)))
  replace HM := Lib.hid (show Mem w [blkE (w.heap.size + 1) 22 [.slice (some ⟨w.heap.size, 0, none⟩) 3 3], rdE w.heap.size (w.heap.size + 1) (some ⟨w.heap.size, 0, none⟩) 3 [97, 98, 99]] ((w.alloc (.cells #[.int .u8 97, .int .u8 98, .int .u8 99] 5 (3, 4))).alloc (.cells #[.slice (some ⟨w.heap.size, 0, none⟩) 3 3] 22)) from HM.out.alloc (by simp) 22 _ _ rfl)
  clear hb1
  generalize ((w.alloc (.cells #[.int .u8 97, .int .u8 98, .int .u8 99] 5 (3, 4))).alloc (.cells #[.slice (some ⟨w.heap.size, 0, none⟩) 3 3] 22)) = w1 at HM ⊢
  refine (HC.out _ (parts_blk [⟨some ⟨w.heap.size, 0, none⟩, 3, 3, [97, 98, 99]⟩] (HM.out.blk 0 rfl) (fun p hp => by cases List.mem_singleton.1 hp; exact HM.out.rd 1 rfl)) (HLV.out.below HM.out.bel)).mono ?_
  rintro e w2 ⟨rfl, hb⟩
  have HF := Lib.hid (HM.out.below hb).bel
  have ex := HEX.out
  clear hb HM HC HEX HLV
  go_wp2_with fail
  go_ret
  exact ⟨rfl, HF.out⟩
end Go.Proofs.YtellicmnopfkgaaDoor
