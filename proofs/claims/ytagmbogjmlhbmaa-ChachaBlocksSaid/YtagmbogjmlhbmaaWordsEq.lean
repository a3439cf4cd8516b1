/-
  Two arrays of words that are the same are found equal; a pair of byte arrays likewise. No statement is proved here.
-/
import Derived.Test.YtagmbogjmlhbmaaChBlock
import Derived.DeepKeys
namespace Go.Proofs.Ytagmbogjmlhbmaa
open Go.RowKit

theorem mapM_some {α β : Type} {f : α → Option β} : ∀ (l : List α), (∀ a ∈ l, ∃ b, f a = some b) → ∃ bs, l.mapM f = some bs
  | [], _ => ⟨[], rfl⟩
  | a :: l, h => by
    obtain ⟨b, hb⟩ := h a (by simp)
    obtain ⟨bs, hbs⟩ := mapM_some l fun x hx => h x (by simp [hx])
    exact ⟨b :: bs, by simp [hb, hbs]⟩
theorem lits_word (x : UInt32) : Try.prog.keyLits 1 22 [u32v x] = some [.int .u32 (x.toNat : Int)] := by
  unfold Program.keyLits
  simp only [Try.underlying22, u32v]
  have hx := x.toNat_lt
  have hw : (Lit.int IntKind.u32 (x.toNat : Int)).wf = true := by
    simp [Lit.wf, IntKind.min, IntKind.max, IntKind.signed, IntKind.bits]
    omega
  simp [hw]
theorem lits_words (l : List UInt32) (hl : l.length = 16) : ∃ ls, Try.prog.keyLits 2 23 (l.map u32v) = some ls := by
  unfold Program.keyLits
  simp only [Try.underlying23]
  have h1 : Try.prog.cellsOf 22 = 1 := by kernel_rfl
  rw [if_pos (by rw [List.length_map, hl]; kernel_rfl), h1]
  obtain ⟨bs, hbs⟩ := mapM_some (f := fun i => Try.prog.keyLits 1 22 (((l.map u32v).drop (i * 1)).take 1)) (List.range 16) fun i hi => by
    have hi : i < l.length := by rw [hl]; exact List.mem_range.1 hi
    refine ⟨[.int .u32 (l[i].toNat : Int)], ?_⟩
    rw [Nat.mul_one, List.drop_eq_getElem_cons (by simpa using hi)]
    simp only [List.take_succ_cons, List.take_zero, List.getElem_map]
    exact lits_word _
  exact ⟨bs.flatten, by rw [hbs]; rfl⟩
theorem words_same (l : List UInt32) (hl : l.length = 16) (w : World) : (Op.equalIn 10000 23 (.agg (l.map u32v).toArray) (.agg (l.map u32v).toArray)).run Try.prog w = .ok true w := by
  obtain ⟨ls, hls⟩ := lits_words l hl
  have hf : (Value.agg (l.map u32v).toArray).formed Try.prog 23 = true := by
    have h16 : Try.prog.cellsOf 23 = 16 := by kernel_rfl
    simp [Value.formed, Try.underlying23, h16, hl]
  obtain ⟨r, hr, hiff⟩ := run_equalIn_deep (P := Try.prog) 9998 2 23 (by kernel_rfl) w 2 2 _ _ ls ls hf hf hls hls
  rw [hr, hiff.2 rfl]
theorem block_same (l : List UInt8) (hl : l.length = 64) (w : World) : (Op.equalIn 10000 29 (.agg (l.map u8v).toArray) (.agg (l.map u8v).toArray)).run Try.prog w = .ok true w := by
  obtain ⟨i0, hi, _, hz1, _⟩ := info_parts Try.info5
  rw [run_key_eq 29 5 64 Try.underlying29 Try.underlying5 i0 hi hz1 l l hl hl]
  simp
end Go.Proofs.Ytagmbogjmlhbmaa
