/-
  A message is found equal to itself. No statement is proved here.
-/
import Derived.Test.YtaolhndbpgjlcaaMsMath
import Derived.Test.YtaolhndbpgjlcaaObj
namespace Go.Proofs.Ytaolhndbpgjlcaa
open Go.RowKit

theorem msg_seg {k : Nat} {m : MsgM} (h : m.ok k) (q o z : Nat) (hq : msN k + o = q) : (m.cells.drop q).take z = ((m.bs.drop o).take z).map u8v := by
  subst hq
  have hl : (m.nums.map u32c).length = msN k := by rw [List.length_map, h.1]
  rw [MsgM.cells, ← List.drop_drop, ← hl, List.drop_left, List.map_take, List.map_drop]
theorem msg_one_num {k : Nat} {m : MsgM} (h : m.ok k) (i : Nat) (hi : i < msN k) : (m.cells.drop i).take 1 = [u32c (m.nums.getD i 0)] := by
  have hi2 : i < m.nums.length := by rw [h.1]; exact hi
  rw [List.drop_eq_getElem_cons (by rw [MsgM.cells_length h]; omega)]
  simp only [List.take_succ_cons, List.take_zero, MsgM.cells]
  rw [List.getElem_append_left (by rw [List.length_map]; exact hi2), List.getElem_map]
  simp [List.getD, hi2]
theorem msg_num_lt {k : Nat} {m : MsgM} (h : m.ok k) (i : Nat) : m.nums.getD i 0 < 4294967296 := by
  rw [List.getD_eq_getElem?_getD]
  cases hi : m.nums[i]? with
  | none => simp
  | some v => exact h.2.2 v (List.mem_of_getElem? hi)
set_option maxRecDepth 100000 in
theorem msg_same1 (m : MsgM) (h : m.ok 1) (w : World) : (Op.equalIn 10000 30 (.agg m.cells.toArray) (.agg m.cells.toArray)).run Try.prog w = .ok true w := by
  have hl := MsgM.cells_length h
  refine same_obj 5 4 30 (by omega) (by kernel_rfl) m.cells ?_ _ Try.underlying30 rfl (by rw [hl]; kernel_rfl) w
  refine lits_struct Try.underlying30 m.cells (by rw [hl]; kernel_rfl) (by simp) ?_
  intro f hf
  simp only [List.mem_cons, List.not_mem_nil, or_false] at hf
  rcases hf with rfl | rfl | rfl | rfl | rfl | rfl
  · have e : (m.cells.drop 0).take (Try.prog.cellsOf 22) = [u32c (m.nums.getD 0 0)] := by
      rw [show Try.prog.cellsOf 22 = 1 by kernel_rfl]
      exact msg_one_num h 0 (by decide)
    exact e ▸ lits_int Try.underlying22 _ (by have := msg_num_lt h 0; generalize m.nums.getD 0 0 = v at this ⊢; exact ⟨by simp [IntKind.min, IntKind.signed], by simp [IntKind.max, IntKind.signed, IntKind.bits]; omega⟩)
  · have e : (m.cells.drop 1).take (Try.prog.cellsOf 24) = ((m.bs.drop 0).take 32).map u8v := by
      rw [show Try.prog.cellsOf 24 = 32 by kernel_rfl]
      exact msg_seg h 1 0 32 rfl
    exact e ▸ lits_bytes Try.underlying24 Try.underlying5 (by kernel_rfl) _ (by rw [List.length_take, List.length_drop, h.2.1]; rfl) (by kernel_rfl)
  · have e : (m.cells.drop 33).take (Try.prog.cellsOf 25) = ((m.bs.drop 32).take 48).map u8v := by
      rw [show Try.prog.cellsOf 25 = 48 by kernel_rfl]
      exact msg_seg h 33 32 48 rfl
    exact e ▸ lits_bytes Try.underlying25 Try.underlying5 (by kernel_rfl) _ (by rw [List.length_take, List.length_drop, h.2.1]; rfl) (by kernel_rfl)
  · have e : (m.cells.drop 81).take (Try.prog.cellsOf 26) = ((m.bs.drop 80).take 28).map u8v := by
      rw [show Try.prog.cellsOf 26 = 28 by kernel_rfl]
      exact msg_seg h 81 80 28 rfl
    exact e ▸ lits_bytes Try.underlying26 Try.underlying5 (by kernel_rfl) _ (by rw [List.length_take, List.length_drop, h.2.1]; rfl) (by kernel_rfl)
  · have e : (m.cells.drop 109).take (Try.prog.cellsOf 28) = ((m.bs.drop 108).take 16).map u8v := by
      rw [show Try.prog.cellsOf 28 = 16 by kernel_rfl]
      exact msg_seg h 109 108 16 rfl
    exact e ▸ lits_bytes Try.underlying28 Try.underlying5 (by kernel_rfl) _ (by rw [List.length_take, List.length_drop, h.2.1]; rfl) (by kernel_rfl)
  · have e : (m.cells.drop 125).take (Try.prog.cellsOf 28) = ((m.bs.drop 124).take 16).map u8v := by
      rw [show Try.prog.cellsOf 28 = 16 by kernel_rfl]
      exact msg_seg h 125 124 16 rfl
    exact e ▸ lits_bytes Try.underlying28 Try.underlying5 (by kernel_rfl) _ (by rw [List.length_take, List.length_drop, h.2.1]; rfl) (by kernel_rfl)
theorem msg_noguard1 : Try.prog.eqGuardType Try.prog.depth 30 = false := by kernel_rfl
set_option maxRecDepth 100000 in
theorem msg_same2 (m : MsgM) (h : m.ok 2) (w : World) : (Op.equalIn 10000 32 (.agg m.cells.toArray) (.agg m.cells.toArray)).run Try.prog w = .ok true w := by
  have hl := MsgM.cells_length h
  refine same_obj 5 4 32 (by omega) (by kernel_rfl) m.cells ?_ _ Try.underlying32 rfl (by rw [hl]; kernel_rfl) w
  refine lits_struct Try.underlying32 m.cells (by rw [hl]; kernel_rfl) (by simp) ?_
  intro f hf
  simp only [List.mem_cons, List.not_mem_nil, or_false] at hf
  rcases hf with rfl | rfl | rfl | rfl | rfl | rfl
  · have e : (m.cells.drop 0).take (Try.prog.cellsOf 22) = [u32c (m.nums.getD 0 0)] := by
      rw [show Try.prog.cellsOf 22 = 1 by kernel_rfl]
      exact msg_one_num h 0 (by decide)
    exact e ▸ lits_int Try.underlying22 _ (by have := msg_num_lt h 0; generalize m.nums.getD 0 0 = v at this ⊢; exact ⟨by simp [IntKind.min, IntKind.signed], by simp [IntKind.max, IntKind.signed, IntKind.bits]; omega⟩)
  · have e : (m.cells.drop 1).take (Try.prog.cellsOf 22) = [u32c (m.nums.getD 1 0)] := by
      rw [show Try.prog.cellsOf 22 = 1 by kernel_rfl]
      exact msg_one_num h 1 (by decide)
    exact e ▸ lits_int Try.underlying22 _ (by have := msg_num_lt h 1; generalize m.nums.getD 1 0 = v at this ⊢; exact ⟨by simp [IntKind.min, IntKind.signed], by simp [IntKind.max, IntKind.signed, IntKind.bits]; omega⟩)
  · have e : (m.cells.drop 2).take (Try.prog.cellsOf 24) = ((m.bs.drop 0).take 32).map u8v := by
      rw [show Try.prog.cellsOf 24 = 32 by kernel_rfl]
      exact msg_seg h 2 0 32 rfl
    exact e ▸ lits_bytes Try.underlying24 Try.underlying5 (by kernel_rfl) _ (by rw [List.length_take, List.length_drop, h.2.1]; rfl) (by kernel_rfl)
  · have e : (m.cells.drop 34).take (Try.prog.cellsOf 28) = ((m.bs.drop 32).take 16).map u8v := by
      rw [show Try.prog.cellsOf 28 = 16 by kernel_rfl]
      exact msg_seg h 34 32 16 rfl
    exact e ▸ lits_bytes Try.underlying28 Try.underlying5 (by kernel_rfl) _ (by rw [List.length_take, List.length_drop, h.2.1]; rfl) (by kernel_rfl)
  · have e : (m.cells.drop 50).take (Try.prog.cellsOf 28) = ((m.bs.drop 48).take 16).map u8v := by
      rw [show Try.prog.cellsOf 28 = 16 by kernel_rfl]
      exact msg_seg h 50 48 16 rfl
    exact e ▸ lits_bytes Try.underlying28 Try.underlying5 (by kernel_rfl) _ (by rw [List.length_take, List.length_drop, h.2.1]; rfl) (by kernel_rfl)
  · have e : (m.cells.drop 66).take (Try.prog.cellsOf 28) = ((m.bs.drop 64).take 16).map u8v := by
      rw [show Try.prog.cellsOf 28 = 16 by kernel_rfl]
      exact msg_seg h 66 64 16 rfl
    exact e ▸ lits_bytes Try.underlying28 Try.underlying5 (by kernel_rfl) _ (by rw [List.length_take, List.length_drop, h.2.1]; rfl) (by kernel_rfl)
theorem msg_noguard2 : Try.prog.eqGuardType Try.prog.depth 32 = false := by kernel_rfl
set_option maxRecDepth 100000 in
theorem msg_same3 (m : MsgM) (h : m.ok 3) (w : World) : (Op.equalIn 10000 36 (.agg m.cells.toArray) (.agg m.cells.toArray)).run Try.prog w = .ok true w := by
  have hl := MsgM.cells_length h
  refine same_obj 5 4 36 (by omega) (by kernel_rfl) m.cells ?_ _ Try.underlying36 rfl (by rw [hl]; kernel_rfl) w
  refine lits_struct Try.underlying36 m.cells (by rw [hl]; kernel_rfl) (by simp) ?_
  intro f hf
  simp only [List.mem_cons, List.not_mem_nil, or_false] at hf
  rcases hf with rfl | rfl | rfl
  · have e : (m.cells.drop 0).take (Try.prog.cellsOf 22) = [u32c (m.nums.getD 0 0)] := by
      rw [show Try.prog.cellsOf 22 = 1 by kernel_rfl]
      exact msg_one_num h 0 (by decide)
    exact e ▸ lits_int Try.underlying22 _ (by have := msg_num_lt h 0; generalize m.nums.getD 0 0 = v at this ⊢; exact ⟨by simp [IntKind.min, IntKind.signed], by simp [IntKind.max, IntKind.signed, IntKind.bits]; omega⟩)
  · have e : (m.cells.drop 1).take (Try.prog.cellsOf 34) = ((m.bs.drop 0).take 24).map u8v := by
      rw [show Try.prog.cellsOf 34 = 24 by kernel_rfl]
      exact msg_seg h 1 0 24 rfl
    exact e ▸ lits_bytes Try.underlying34 Try.underlying5 (by kernel_rfl) _ (by rw [List.length_take, List.length_drop, h.2.1]; rfl) (by kernel_rfl)
  · have e : (m.cells.drop 25).take (Try.prog.cellsOf 23) = ((m.bs.drop 24).take 32).map u8v := by
      rw [show Try.prog.cellsOf 23 = 32 by kernel_rfl]
      exact msg_seg h 25 24 32 rfl
    exact e ▸ lits_bytes Try.underlying23 Try.underlying5 (by kernel_rfl) _ (by rw [List.length_take, List.length_drop, h.2.1]; rfl) (by kernel_rfl)
theorem msg_noguard3 : Try.prog.eqGuardType Try.prog.depth 36 = false := by kernel_rfl
theorem wpList_eql_agg {P : Program} {w : World} {ops : Array Oper} {rest : List Oper} {o : Oper} {a : Act} {Q : Exit → Act → World → Prop} (hw : Region.wanted o (yielded ops a.tmps) = true) (t r : TypeId) (i j : Tmp) (ho : o.op = .binOp .eql t (.tmp i) (.tmp j) r) (u v : Array Value) (b : Bool)
    (hx : a.eval (.tmp i) = .agg u) (hy : a.eval (.tmp j) = .agg v) (hg : P.eqGuardType P.depth t = false) (he : (Op.equalIn 10000 t (.agg u) (.agg v)).run P w = .ok b w)
    (h : wpList P ops Q rest (a.put o.dst (.bool b)) w) : wpList P ops Q (o :: rest) a w :=
  wpList_step fun K hK => by
    rw [if_pos hw]
    have he2 : (Op.equalIn Op.maxDepth t (.agg u) (.agg v)).run P w = .ok b w := he
    have hr : (execOp a.eval o).run P w = .ok (.value (.bool b)) w := by
      unfold execOp
      simp only [ho, hx, hy, eqGuard]
      simp [binOp, Op.equal, he2, hg, Result.andThen]
    unfold Oper.wp
    rw [hr]
    exact hK _ _ h
end Go.Proofs.Ytaolhndbpgjlcaa
