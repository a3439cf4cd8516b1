/-
  The builtin copy of bytes that are read somewhere to the beginning of a block. No statement is proved here.
-/
import Derived.Test.YtnmjcibhggchkaaBlkMore
import Derived.Test.YtnmjcibhggchkaaWord
namespace Go.Proofs.Ytnmjcibhggchkaa
open Go.RowKit

theorem grown_same (w : World) (k : Option Nat) : w.grownBy w k := ⟨rfl, rfl, rfl, Nat.le_refl _, fun _ _ _ => rfl⟩
theorem putL_nil {α : Type} (l : List α) (off : Nat) : putL l off [] = l := by
  simp [putL]
/-- the builtin copy of bytes that are read somewhere, or of none, to the beginning of a block -/
theorem wpList_copy_rd {P : Program} (w : World) {ops : Array Oper} {rest : List Oper} {o : Oper} {a : Act} {Q : Exit → Act → World → Prop} (hgd : o.guard = none) (d s : Operand) (dT sT : TypeId)
    (ho : o.op = .call { callee := .builtin .copy, args := #[d, s], argTypes := #[dT, sT] }) (elem : TypeId) (hu : P.underlying dT = some (.slice elem)) (hsz : (P.info? elem).map (·.size) = some 1)
    (g dLen dCap : Nat) (A : Option Addr) (sLen sCap : Nat) (hd : a.eval d = .slice (some ⟨g, 0, none⟩) dLen dCap) (hs : a.eval s = .slice A sLen sCap)
    (l0 : List UInt8) (t : TypeId) (hg : Blk w g t (l0.map u8v)) (B : Nat) (l : List UInt8) (hr : Rd w B A sLen l) (hle : sLen ≤ dLen) (hfit : dLen ≤ l0.length)
    (h : ∀ w', Blk w' g t ((putL l0 0 l).map u8v) → w.grownBy w' (some g) → wpList P ops Q rest (a.put o.dst (goInt sLen)) w') : wpList P ops Q (o :: rest) a w := by
  have hl : l.length = sLen := hr.1
  by_cases h0 : sLen = 0
  · subst h0
    have hnil : l = [] := List.eq_nil_of_length_eq_zero hl
    refine wpList_plain hgd fun K hK => ?_
    have hrun := run_copy_none (P := P) w dT sT o.type elem (some ⟨g, 0, none⟩) A dLen dCap 0 sCap hu hsz (by simp)
    unfold Oper.wp execOp
    simp only [ho, resolve, invoke, builtin, Sem.run_bind, Sem.run_pure, Result.andThen_ok, List.map_toArray, List.map_cons, List.map_nil, hs, hd, hrun]
    exact hK _ _ (h w (by rw [hnil, putL_nil]; exact hg) (grown_same w _))
  · obtain ⟨b, off, rfl, hb, hc⟩ := hr.2 (by omega)
    have hn : (l.map u8v).length = Nat.min sLen dLen := by rw [List.length_map, hl]; exact (Nat.min_eq_left hle).symm
    refine wpList_copy_bytes w hgd d s dT sT ho elem hu hsz g 0 dLen dCap ⟨b, off, none⟩ sLen sCap hd hs (l0.map u8v) t hg (l.map u8v) hn hr.src (by rw [List.length_map, List.length_map, hl]; omega) (u8v_one _) ?_
    intro w' hb' hg'
    rw [putL_map] at hb'
    have := h w' hb' hg'
    rw [List.length_map, hl]
    exact this
end Go.Proofs.Ytnmjcibhggchkaa
