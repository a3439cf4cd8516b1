/-
  The sanity check of layer 5's laws: the chapter's example holds.
-/
import Derived.Test.YtkbefhmgcodpaaaXcC
import Derived.Deep.DeepCutAuto
namespace Go.Proofs.Ytkbefhmgcodpaaa
open Go.RowKit

def xcRow (j : Nat) : List UInt8 := xcK.take j ++ List.replicate (32 - j) 0
theorem xcK_length : xcK.length = 32 := by simp [xcK]
theorem xcRow_length (j : Nat) (h : j ≤ 32) : (xcRow j).length = 32 := by
  rw [xcRow, List.length_append, List.length_take, List.length_replicate, xcK_length]; omega
theorem xcRow_set (j : Nat) (h : j < 32) : (xcRow j).set j (UInt8.ofNat j) = xcRow (j + 1) := by
  have hk := xcK_length
  unfold xcRow
  rw [List.set_append_right _ _ (by rw [List.length_take]; omega), List.length_take, hk, Nat.min_eq_left (by omega), Nat.sub_self, show 32 - j = (32 - (j + 1)) + 1 by omega, List.replicate_succ, List.set_cons_zero, List.take_succ_eq_append_getElem (by omega), List.append_assoc]
  simp [xcK]
theorem xcRow_end : xcRow 32 = xcK := by rw [xcRow, List.take_of_length_le (by rw [xcK_length]; exact Nat.le_refl _)]; simp
theorem xc_u8 (j : Nat) (h : j < 32) : u8v (UInt8.ofNat j) = .int .u8 (j : Int) := by
  unfold u8v
  rw [UInt8.toNat_ofNat', Nat.mod_eq_of_lt (by omega)]

set_option maxRecDepth 100000 in
set_option maxHeartbeats 8000000 in
theorem xc_begun_any (HD : DeriveC) (w : World) : Calls Try.prog 12 #[] w fun e w' => e = .returned (.bool true) ∧ Below w.heap.size w w' := by
  obtain ⟨i0, hi, hz0, hz1, hz2⟩ := info_parts Try.info5
  have hb0 := Blk.new w 23 (aeZ 32)
  have hl0 : Below w.heap.size w (w.alloc (.cells (aeZ 32).toArray 23)) := (Below.refl _ _).alloc (Nat.le_refl _) _
  rw [aeZ32] at hb0 hl0
  go_enter Try.func12, Try.ntmps12
  go_upto_region 2 with fail
  generalize w.alloc (.cells #[.int .u8 0, .int .u8 0, .int .u8 0, .int .u8 0, .int .u8 0, .int .u8 0, .int .u8 0, .int .u8 0, .int .u8 0, .int .u8 0, .int .u8 0, .int .u8 0, .int .u8 0, .int .u8 0, .int .u8 0, .int .u8 0, .int .u8 0, .int .u8 0, .int .u8 0, .int .u8 0, .int .u8 0, .int .u8 0, .int .u8 0, .int .u8 0, .int .u8 0, .int .u8 0, .int .u8 0, .int .u8 0, .int .u8 0, .int .u8 0, .int .u8 0, .int .u8 0] 23) = w1 at hb0 hl0 ⊢
  have H1 := Lib.hid (And.intro hb0 hl0)
  clear hb0 hl0
  go_wp2_with fail
  go_loopw [3, 2] (fun v _ wr => ∃ j : Nat, j ≤ 32 ∧ v = .int .i64 (j : Int) ∧ Blk wr w.heap.size 23 ((xcRow j).map u8v) ∧ Below w.heap.size w wr) (fun v _ _ => 32 - (intOf v).toNat)
  case atStart => exact ⟨0, by omega, rfl, H1.out.1, H1.out.2⟩
  case round =>
    clear H1
    obtain ⟨j, hj, rfl, hrow, hbel⟩ := hrel
    by_cases hlt : j < 32
    · have d32 : decide ((j : Int) < 32) = true := by simp; omega
      have fx : ∃ u, wr.cell? ⟨w.heap.size, j, none⟩ = some u := by
        rw [hrow.cell j]
        exact ⟨_, List.getElem?_eq_getElem (by rw [List.length_map, xcRow_length j hj]; omega)⟩
      obtain ⟨u, fx⟩ := fx
      have zx := hrow.frozen j
      have hset := hrow.set_ j (u8v (UInt8.ofNat j))
      rw [← List.map_set, xcRow_set j hlt, xc_u8 j hlt] at hset
      have hw2 : IntKind.u8.wrap (j : Int) = (j : Int) := by rw [IntKind.wrap_u8]; omega
      have HN := Lib.hid (And.intro hset (hbel.setCell (p := ⟨w.heap.size, j, none⟩) (Nat.le_refl _) (.int .u8 (j : Int))))
      clear hrow hbel hset
      go_wp2_with fail
      refine ⟨⟨j + 1, by omega, by go_num, HN.out.1, HN.out.2⟩, ?_⟩
      simp [intOf]; omega
    · obtain rfl : j = 32 := by omega
      rw [xcRow_end] at hrow
      have H2 := Lib.hid (And.intro hrow hbel)
      clear hrow hbel
      rw [show ((32 : Nat) : Int) = 32 from rfl]
      have SC := HD xcK xcIn xcK_length rfl
      rw [xc_example] at SC
      obtain ⟨ak, hak⟩ : ∃ a, (xcK.map u8v).toArray = a := ⟨_, rfl⟩
      rw [hak] at SC
      rw [show (xcIn.map u8v).toArray = #[.int .u8 0, .int .u8 0, .int .u8 0, .int .u8 9, .int .u8 0, .int .u8 0, .int .u8 0, .int .u8 74, .int .u8 0, .int .u8 0, .int .u8 0, .int .u8 0, .int .u8 49, .int .u8 65, .int .u8 89, .int .u8 39] from rfl, show (xcOut.map u8v).toArray = #[.int .u8 130, .int .u8 65, .int .u8 59, .int .u8 66, .int .u8 39, .int .u8 178, .int .u8 123, .int .u8 254, .int .u8 211, .int .u8 14, .int .u8 66, .int .u8 80, .int .u8 138, .int .u8 135, .int .u8 125, .int .u8 115, .int .u8 160, .int .u8 249, .int .u8 228, .int .u8 213, .int .u8 138, .int .u8 116, .int .u8 168, .int .u8 83, .int .u8 193, .int .u8 46, .int .u8 196, .int .u8 19, .int .u8 38, .int .u8 211, .int .u8 236, .int .u8 220] from rfl] at SC
      have HSC := Lib.hid SC
      have HA := Lib.hid hak
      have ex := fun w' : World => run_key_eq (P := Try.prog) 23 5 32 Try.underlying23 Try.underlying5 i0 hi hz1 xcOut xcOut rfl rfl w'
      rw [show (xcOut == xcOut) = true from rfl, show (xcOut.map u8v).toArray = #[.int .u8 130, .int .u8 65, .int .u8 59, .int .u8 66, .int .u8 39, .int .u8 178, .int .u8 123, .int .u8 254, .int .u8 211, .int .u8 14, .int .u8 66, .int .u8 80, .int .u8 138, .int .u8 135, .int .u8 125, .int .u8 115, .int .u8 160, .int .u8 249, .int .u8 228, .int .u8 213, .int .u8 138, .int .u8 116, .int .u8 168, .int .u8 83, .int .u8 193, .int .u8 46, .int .u8 196, .int .u8 19, .int .u8 38, .int .u8 211, .int .u8 236, .int .u8 220] from rfl] at ex
      have HEX := Lib.hid ex
      clear SC hak ex
      go_wp2_with (refine wpList_load_blk rfl 23 (.tmp 1) rfl w.heap.size rfl 23 (xcK.map u8v) H2.out.1 32 5 Try.underlying23 (cells32 xcK xcK_length) ?_; rw [HA.out])
      refine (HSC.out _).mono ?_
      rintro e w2 ⟨rfl, hb⟩
      have HF := Lib.hid (H2.out.2.trans (hb.mono H2.out.2.size))
      have ex := HEX.out
      clear hb H2 HSC HEX
      go_wp2_with fail
      go_ret
      exact ⟨rfl, HF.out⟩
end Go.Proofs.Ytkbefhmgcodpaaa
