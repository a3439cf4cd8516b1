/-
  What the laws of layer 3 ask of poly.Sum, and the sanity check: the chapter's example holds.
-/
import Derived.Test.YthjhohmmdnjpkaaPoPoly
import Derived.Lib.SlBytesConst
namespace Go.Proofs.Ythjhohmmdnjpkaa
open Go.RowKit

/-- poly.Sum gives the authenticator -/
def SumC : Prop := ∀ (k : List UInt8), k.length = 32 → ∀ (D : Option Addr) (n cap : Nat) (l : List UInt8), n ≤ cap → cap ≤ maxLen → n ≤ 1000 → ∀ w : World, Rd w w.heap.size D n l →
  Calls Try.prog 8 #[.agg (k.map u8v).toArray, .slice D n cap] w fun e w' => e = .returned (.agg ((tagL k l).map u8v).toArray) ∧ Below w.heap.size w w'
theorem cells32 (l : List UInt8) (h : l.length = 32) : (Try.prog.info? 23).map (·.size) = some (l.map u8v).length := by
  rw [List.length_map, h]; kernel_rfl
theorem tagL_length (k l : List UInt8) : (tagL k l).length = 16 := littleL_length _ _
theorem tag_same (l : List UInt8) (hl : l.length = 16) (w : World) : (Op.equalIn 10000 29 (.agg (l.map u8v).toArray) (.agg (l.map u8v).toArray)).run Try.prog w = .ok true w := by
  obtain ⟨i0, hi, _, hz1, _⟩ := info_parts Try.info5
  rw [run_key_eq 29 5 16 Try.underlying29 Try.underlying5 i0 hi hz1 l l hl hl]
  simp
def z32 : List Value := List.replicate 32 (.int .u8 0)
def exK : List UInt8 := [133, 214, 190, 120, 87, 85, 109, 51, 127, 68, 82, 254, 66, 213, 6, 168, 1, 3, 128, 138, 251, 13, 178, 253, 74, 191, 246, 175, 65, 73, 245, 27]
def exD : List UInt8 := [67, 114, 121, 112, 116, 111, 103, 114, 97, 112, 104, 105, 99, 32, 70, 111, 114, 117, 109, 32, 82, 101, 115, 101, 97, 114, 99, 104, 32, 71, 114, 111, 117, 112]
def exT : List UInt8 := [168, 6, 29, 193, 48, 81, 54, 198, 194, 43, 139, 175, 12, 1, 39, 169]
theorem rd_marked (w : World) (t : TypeId) (l : List UInt8) (n : Nat) (hl : l.length = n) (fr : Nat × Nat) : Rd (w.alloc (.cells (l.map u8v).toArray t fr)) (w.heap.size + 1) (some ⟨w.heap.size, 0, none⟩) n l := by
  refine ⟨hl, fun _ => ⟨w.heap.size, 0, rfl, by omega, fun j hj => ?_⟩⟩
  rw [Nat.zero_add, World.cell?_alloc_mark]
  simpa using map_u8v_getElem? l j hj
theorem exTag : tagL exK exD = exT := by decide +kernel
theorem exK_map : (exK.map u8v).toArray = #[.int .u8 133, .int .u8 214, .int .u8 190, .int .u8 120, .int .u8 87, .int .u8 85, .int .u8 109, .int .u8 51, .int .u8 127, .int .u8 68, .int .u8 82, .int .u8 254, .int .u8 66, .int .u8 213, .int .u8 6, .int .u8 168, .int .u8 1, .int .u8 3, .int .u8 128, .int .u8 138, .int .u8 251, .int .u8 13, .int .u8 178, .int .u8 253, .int .u8 74, .int .u8 191, .int .u8 246, .int .u8 175, .int .u8 65, .int .u8 73, .int .u8 245, .int .u8 27] := rfl
theorem exT_map : (exT.map u8v).toArray = #[.int .u8 168, .int .u8 6, .int .u8 29, .int .u8 193, .int .u8 48, .int .u8 81, .int .u8 54, .int .u8 198, .int .u8 194, .int .u8 43, .int .u8 139, .int .u8 175, .int .u8 12, .int .u8 1, .int .u8 39, .int .u8 169] := rfl

set_option maxRecDepth 100000 in
set_option maxHeartbeats 4000000 in
theorem begun_any (HS : SumC) (w : World) : Calls Try.prog 10 #[] w fun e w' => e = .returned (.bool true) ∧ Below w.heap.size w w' := by
  have SC := HS exK rfl
  have eqT := tag_same exT rfl
  obtain ⟨ak, hak⟩ : ∃ a, (exK.map u8v).toArray = a := ⟨_, rfl⟩
  obtain ⟨at', hat⟩ : ∃ a, (exT.map u8v).toArray = a := ⟨_, rfl⟩
  have HKM := Lib.hid (show #[.int .u8 133, .int .u8 214, .int .u8 190, .int .u8 120, .int .u8 87, .int .u8 85, .int .u8 109, .int .u8 51, .int .u8 127, .int .u8 68, .int .u8 82, .int .u8 254, .int .u8 66, .int .u8 213, .int .u8 6, .int .u8 168, .int .u8 1, .int .u8 3, .int .u8 128, .int .u8 138, .int .u8 251, .int .u8 13, .int .u8 178, .int .u8 253, .int .u8 74, .int .u8 191, .int .u8 246, .int .u8 175, .int .u8 65, .int .u8 73, .int .u8 245, .int .u8 27] = ak by rw [← hak]; rfl)
  have HTM := Lib.hid (show #[.int .u8 168, .int .u8 6, .int .u8 29, .int .u8 193, .int .u8 48, .int .u8 81, .int .u8 54, .int .u8 198, .int .u8 194, .int .u8 43, .int .u8 139, .int .u8 175, .int .u8 12, .int .u8 1, .int .u8 39, .int .u8 169] = at' by rw [← hat]; rfl)
  rw [hak] at SC
  rw [hat] at eqT
  have eqL : ∀ w' : World, (Op.equalIn 10000 29 (.agg at') (.agg #[.int .u8 168, .int .u8 6, .int .u8 29, .int .u8 193, .int .u8 48, .int .u8 81, .int .u8 54, .int .u8 198, .int .u8 194, .int .u8 43, .int .u8 139, .int .u8 175, .int .u8 12, .int .u8 1, .int .u8 39, .int .u8 169])).run Try.prog w' = .ok true w' := fun w' => by rw [HTM.out]; exact eqT w'
  clear eqT
  have HSC := Lib.hid SC
  have HAK := Lib.hid hak
  have HAT := Lib.hid hat
  clear SC hak hat
  go_enter Try.func10, Try.ntmps10
  go_upto_region 2 with (refine wpList_store_blk rfl 23 (.tmp 1) (.tmp 2) rfl w.heap.size (exK.map u8v) rfl (by rw [HAK.out]; exact congrArg Value.agg HKM.out) 23 z32 (Blk.new w 23 z32) (cells32 exK rfl) rfl (u8v_one _) ?_; intro w1 hb1 hg1)
  simp only [Act.put]
  have H1 := Lib.hid (And.intro hb1 (below_blk ((Below.refl w.heap.size w).alloc (Nat.le_refl _) (.cells z32.toArray 23)) hg1 (Nat.le_refl _)))
  clear hb1 hg1
  have kc := fun (w : World) (C : Array Value) (n c : Nat) => Lib.run_convert_bytes_const (P := Try.prog) w 24 5 C n c Try.underlying24 Try.underlying5
  go_wp2_with (refine wpList_load_blk rfl 23 (.tmp 1) rfl w.heap.size rfl 23 (exK.map u8v) H1.out.1 32 5 Try.underlying23 (cells32 exK rfl) ?_; rw [HAK.out])
  clear kc
  have hrd := rd_marked w1 5 exD 34 rfl (34, 35)
  have hb2 : Below w1.heap.size w1 (w1.alloc (.cells (exD.map u8v).toArray 5 (34, 35))) := (Below.refl _ _).alloc (Nat.le_refl _) _
  rw [show (exD.map u8v).toArray = #[.int .u8 67, .int .u8 114, .int .u8 121, .int .u8 112, .int .u8 116, .int .u8 111, .int .u8 103, .int .u8 114, .int .u8 97, .int .u8 112, .int .u8 104, .int .u8 105, .int .u8 99, .int .u8 32, .int .u8 70, .int .u8 111, .int .u8 114, .int .u8 117, .int .u8 109, .int .u8 32, .int .u8 82, .int .u8 101, .int .u8 115, .int .u8 101, .int .u8 97, .int .u8 114, .int .u8 99, .int .u8 104, .int .u8 32, .int .u8 71, .int .u8 114, .int .u8 111, .int .u8 117, .int .u8 112] from rfl] at hrd hb2
  refine (HSC.out _ 34 34 exD (Nat.le_refl _) (by unfold maxLen; omega) (by omega) _ (hrd.mono (by simp))).mono ?_
  rintro e w3 ⟨rfl, hb3⟩
  have HE := Lib.hid (H1.out.2.trans (((hb2.trans (hb3.mono hb2.size))).mono H1.out.2.size))
  clear hrd hb2 hb3
  rw [exTag, HAT.out]
  go_wp2_with fail
  go_ret
  exact ⟨rfl, HE.out⟩
end Go.Proofs.Ythjhohmmdnjpkaa
