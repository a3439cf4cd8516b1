/-
  What is asked of aead.Seal and Open. No statement is proved here.
-/
import Derived.Test.YtkbefhmgcodpaaaAeMore
import Derived.Test.YtkbefhmgcodpaaaBuildBytes
import Derived.Lib.SlBytesConst
import Derived.Deep.DeepCutAuto
import Derived.Outline
namespace Go.Proofs.Ytkbefhmgcodpaaa
open Go.RowKit

/-- aead.Seal seals -/
def SealC : Prop := ∀ (k nn : List UInt8), k.length = 32 → nn.length = 12 → ∀ (Ap Am : Option Addr) (np cp nm cm : Nat) (pl more : List UInt8), np ≤ cp → cp ≤ maxLen → nm ≤ cm → cm ≤ maxLen → np ≤ 100000 → nm ≤ 100000 → ∀ w : World, Rd w w.heap.size Ap np pl → Rd w w.heap.size Am nm more →
  Calls Try.prog 22 #[.agg (k.map u8v).toArray, .agg (nn.map u8v).toArray, .slice Ap np cp, .slice Am nm cm] w fun e w' => ∃ A c', e = .returned (.slice A (np + 16) c') ∧ w'.ownsRow w.heap.size 5 1 (.slice A (np + 16) c') (np + 16) ((sealL k nn pl more).map u8v) ∧ Below w.heap.size w w'
/-- aead.Open opens, or gives the error -/
def OpenC : Prop := ∀ (k nn : List UInt8), k.length = 32 → nn.length = 12 → ∀ (As Am : Option Addr) (ns cs nm cm : Nat) (sl more : List UInt8), ns ≤ cs → cs ≤ maxLen → nm ≤ cm → cm ≤ maxLen → ns ≤ 100000 → nm ≤ 100000 → ∀ w : World, Rd w w.heap.size As ns sl → Rd w w.heap.size Am nm more →
  Calls Try.prog 23 #[.agg (k.map u8v).toArray, .agg (nn.map u8v).toArray, .slice As ns cs, .slice Am nm cm] w fun e w' => ∃ A c', e = .returned (.tuple #[.slice A (openL k nn sl more).1.length c', .int .i64 ((openL k nn sl more).2 : Int)]) ∧ Rd w' w'.heap.size A (openL k nn sl more).1.length (openL k nn sl more).1 ∧ (openL k nn sl more).1.length ≤ c' ∧ c' ≤ maxLen ∧ Below w.heap.size w w'
theorem ae_conv {w : World} {B n : Nat} {A : Option Addr} {l : List UInt8} (h : Rd w B A n l) (c : Nat) : (convert 27 9 (.slice A n c)).run Try.prog w = .ok (.string ⟨l.toArray⟩) w :=
  run_string_of_rd (P := Try.prog) 27 9 5 c Try.underlying27 Try.underlying5 Try.underlying9 h
def aeRow (j : Nat) : List UInt8 := aeK.take j ++ List.replicate (32 - j) 0
theorem aeK_length : aeK.length = 32 := by simp [aeK]
theorem aeRow_length (j : Nat) (h : j ≤ 32) : (aeRow j).length = 32 := by
  rw [aeRow, List.length_append, List.length_take, List.length_replicate, aeK_length]; omega
theorem aeRow_set (j : Nat) (h : j < 32) : (aeRow j).set j (UInt8.ofNat (128 + j)) = aeRow (j + 1) := by
  have hk := aeK_length
  unfold aeRow
  rw [List.set_append_right _ _ (by rw [List.length_take]; omega), List.length_take, hk, Nat.min_eq_left (by omega), Nat.sub_self, show 32 - j = (32 - (j + 1)) + 1 by omega, List.replicate_succ, List.set_cons_zero, List.take_succ_eq_append_getElem (by omega), List.append_assoc]
  simp [aeK]
theorem aeRow_end : aeRow 32 = aeK := by rw [aeRow, List.take_of_length_le (by rw [aeK_length]; exact Nat.le_refl _)]; simp
theorem ae_u8 (j : Nat) (h : j < 32) : u8v (UInt8.ofNat (128 + j)) = .int .u8 (128 + (j : Int)) := by
  unfold u8v
  rw [UInt8.toNat_ofNat', Nat.mod_eq_of_lt (by omega)]
  simp
theorem rd_new' (w : World) (t : TypeId) (l : List UInt8) : Rd (w.alloc (.cells (l.map u8v).toArray t)) (w.heap.size + 1) (some ⟨w.heap.size, 0, none⟩) l.length l := by
  have h := (Blk.new w t (l.map u8v)).rd 0 l.length (by omega)
  rwa [List.drop_zero, List.take_length] at h
theorem rd_mark (w : World) (t : TypeId) (l : List UInt8) (n : Nat) (hl : l.length = n) (fr : Nat × Nat) : Rd (w.alloc (.cells (l.map u8v).toArray t fr)) (w.heap.size + 1) (some ⟨w.heap.size, 0, none⟩) n l := by
  refine ⟨hl, fun _ => ⟨w.heap.size, 0, rfl, by omega, fun j hj => ?_⟩⟩
  rw [Nat.zero_add, World.cell?_alloc_mark]
  simpa using map_u8v_getElem? l j hj
end Go.Proofs.Ytkbefhmgcodpaaa
