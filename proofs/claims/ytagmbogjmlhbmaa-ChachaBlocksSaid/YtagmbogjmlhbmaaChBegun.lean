/-
  The contract of the sanity check of layer 2: the chapter's example holds, so it returns true.
-/
import Derived.Test.YtagmbogjmlhbmaaChBlock
namespace Go.Proofs.Ytagmbogjmlhbmaa
open Go.RowKit

def kx : List UInt8 := (List.range 32).map UInt8.ofNat
def nx : List UInt8 := [0, 0, 0, 9, 0, 0, 0, 0x4a, 0, 0, 0, 0]
def keyRow (j : Nat) : List UInt8 := (List.range j).map UInt8.ofNat ++ List.replicate (32 - j) 0
theorem keyRow_set (j : Nat) (h : j < 32) : (keyRow j).set j (UInt8.ofNat j) = keyRow (j + 1) := by
  unfold keyRow
  rw [List.set_append_right _ _ (by simp), List.length_map, List.length_range, Nat.sub_self, show 32 - j = (32 - (j + 1)) + 1 by omega, List.replicate_succ, List.set_cons_zero, List.range_succ, List.map_append, List.append_assoc]
  rfl
theorem keyRow_end : keyRow 32 = kx := by simp [keyRow, kx]
theorem u8_of (j : Nat) (h : j < 32) : (j : Int) % 256 = ((UInt8.ofNat j).toNat : Int) := by
  rw [UInt8.toNat_ofNat', Nat.mod_eq_of_lt (by omega)]
  omega
def z32 : List Value := List.replicate 32 (.int .u8 0)

set_option maxRecDepth 100000 in
theorem begun_any (w : World) : Calls Try.prog 11 #[] w fun e w' => e = .returned (.bool true) ∧ Below w.heap.size w w' := by
  have BX : ∀ w' : World, Calls Try.prog 9 #[.agg (kx.map u8v).toArray, .int .u32 1, .agg #[.int .u8 0, .int .u8 0, .int .u8 0, .int .u8 9, .int .u8 0, .int .u8 0, .int .u8 0, .int .u8 74, .int .u8 0, .int .u8 0, .int .u8 0, .int .u8 0]] w' fun e w'' => e = .returned (.agg ((blockL kx 1 nx).map u8v).toArray) ∧ Below w'.heap.size w' w'' := fun w' => block_any kx nx (by simp [kx]) rfl 1 w'
  obtain ⟨ck, hck⟩ : ∃ ck, (kx.map u8v).toArray = ck := ⟨_, rfl⟩
  obtain ⟨bx, hbx⟩ : ∃ bx, blockL kx 1 nx = bx := ⟨_, rfl⟩
  have ex := exBlock
  rw [show blockL ((List.range 32).map UInt8.ofNat) 1 [0, 0, 0, 9, 0, 0, 0, 0x4a, 0, 0, 0, 0] = blockL kx 1 nx from rfl, hbx] at ex
  have H64 := Lib.hid (show bx.length = 64 by rw [← hbx]; exact (bytesW_length _).trans (by rw [List.length_zipWith, coreW_length, stateW_length]; rfl))
  obtain ⟨sb, hsb⟩ : ∃ sb, (bx.map u8v).toArray = sb := ⟨_, rfl⟩
  rw [hck, hbx, hsb] at BX
  have HBX := Lib.hid BX
  have HEX := Lib.hid ex
  have HCK := Lib.hid hck
  have HSB := Lib.hid hsb
  clear BX ex hck hsb hbx
  go_enter Try.func11, Try.ntmps11
  go_upto_region 3 with fail
  have h1 : Blk (w.alloc (.cells z32.toArray 25)) w.heap.size 25 z32 := Blk.new w _ _
  have h2 : Below w.heap.size w (w.alloc (.cells z32.toArray 25)) := (Below.refl _ _).alloc (Nat.le_refl _) _
  have e32 : z32.toArray = #[.int .u8 0, .int .u8 0, .int .u8 0, .int .u8 0, .int .u8 0, .int .u8 0, .int .u8 0, .int .u8 0, .int .u8 0, .int .u8 0, .int .u8 0, .int .u8 0, .int .u8 0, .int .u8 0, .int .u8 0, .int .u8 0, .int .u8 0, .int .u8 0, .int .u8 0, .int .u8 0, .int .u8 0, .int .u8 0, .int .u8 0, .int .u8 0, .int .u8 0, .int .u8 0, .int .u8 0, .int .u8 0, .int .u8 0, .int .u8 0, .int .u8 0, .int .u8 0] := rfl
  rw [e32] at h1 h2
  generalize w.alloc (.cells #[.int .u8 0, .int .u8 0, .int .u8 0, .int .u8 0, .int .u8 0, .int .u8 0, .int .u8 0, .int .u8 0, .int .u8 0, .int .u8 0, .int .u8 0, .int .u8 0, .int .u8 0, .int .u8 0, .int .u8 0, .int .u8 0, .int .u8 0, .int .u8 0, .int .u8 0, .int .u8 0, .int .u8 0, .int .u8 0, .int .u8 0, .int .u8 0, .int .u8 0, .int .u8 0, .int .u8 0, .int .u8 0, .int .u8 0, .int .u8 0, .int .u8 0, .int .u8 0] 25) = w1 at h1 h2 ⊢
  clear e32
  go_loopw [4] (fun i wr => ∃ j : Nat, j ≤ 32 ∧ i = .int .i64 (j : Int) ∧ Blk wr w.heap.size 25 ((keyRow j).map u8v) ∧ Below w.heap.size w wr) (fun i _ => 32 - (intOf i).toNat)
  case atStart => exact ⟨0, by omega, rfl, h1, h2⟩
  case round =>
    clear h1 h2
    obtain ⟨j, hj, rfl, hk, hbel⟩ := hrel
    by_cases hlt : j < 32
    · have hv : u8v (UInt8.ofNat j) = .int .u8 (j : Int) := by rw [u8v, ← u8_of j hlt, Int.emod_eq_of_lt (by omega) (by omega)]
      have fx : ∃ u, wr.cell? ⟨w.heap.size, j, none⟩ = some u := by
        rw [hk.cell j]
        exact ⟨_, List.getElem?_eq_getElem (by simp [keyRow]; omega)⟩
      obtain ⟨u, fx⟩ := fx
      have zx := hk.frozen j
      have hk2 := hk.set_ j (u8v (UInt8.ofNat j))
      rw [← List.map_set, keyRow_set j hlt] at hk2
      have hb2 := hbel.setCell (p := ⟨w.heap.size, j, none⟩) (Nat.le_refl _) (u8v (UInt8.ofNat j))
      rw [hv] at hk2 hb2
      have HN := Lib.hid (And.intro hk2 hb2)
      clear hb2 hv
      clear hk hbel hk2
      have dj : decide ((j : Int) < 32) = true := by simp; omega
      go_wp2
      go_roundw
      case rel => exact ⟨j + 1, by omega, by go_num, HN.out.1, HN.out.2⟩
      case measure => simp [intOf]; omega
    · obtain rfl : j = 32 := by omega
      rw [keyRow_end] at hk
      have HK := Lib.hid (And.intro hk hbel)
      clear hk hbel
      go_wp2_with (refine wpList_load_blk rfl 25 (.tmp 1) rfl w.heap.size rfl 25 (kx.map u8v) HK.out.1 32 5 Try.underlying25 (cells32 kx (by simp [kx])) ?_; rw [HCK.out])
      refine (HBX.out _).mono ?_
      rintro e w3 ⟨rfl, hb3⟩
      have H3 := Lib.hid (HK.out.2.trans (hb3.mono HK.out.2.size))
      clear hb3 HK
      go_upto_region 8 with (refine wpList_store_blk rfl 29 (.tmp 3) (.tmp 14) rfl w3.heap.size (bx.map u8v) rfl (by rw [HSB.out]; rfl) 29 z64 (Blk.new w3 29 z64) (cells64 bx H64.out) (by rw [List.length_map, H64.out]; rfl) (u8v_one _) ?_; intro w4 hb4 hg4)
      simp only [Act.put]
      have H4 := Lib.hid (Below.grown (H3.out.alloc H3.out.size (.cells z64.toArray 29)) hg4 (by have := H3.out.size; simp; omega) (by have := H3.out.size; intro k hk; injection hk with hk; omega))
      have r1 := hb4.rd 0 4 (by rw [H64.out]; omega)
      have r2 := hb4.rd 60 4 (by rw [H64.out]; omega)
      rw [List.drop_zero, HEX.out.1] at r1
      rw [HEX.out.2] at r2
      have cv1 : (convert 33 9 (.slice (some ⟨w3.heap.size, 0, none⟩) 4 64)).run Try.prog w4 = .ok (.string ⟨#[16, 241, 231, 228]⟩) w4 := run_string_of_rd (P := Try.prog) 33 9 5 64 Try.underlying33 Try.underlying5 Try.underlying9 r1
      have cv2 : (convert 33 9 (.slice (some ⟨w3.heap.size, 60, none⟩) 4 4)).run Try.prog w4 = .ok (.string ⟨#[162, 80, 60, 78]⟩) w4 := run_string_of_rd (P := Try.prog) 33 9 5 4 Try.underlying33 Try.underlying5 Try.underlying9 r2
      clear hb4 hg4 r1 r2 H3
      go_wp2
      go_ret
      exact ⟨rfl, H4.out⟩
end Go.Proofs.Ytagmbogjmlhbmaa
