/-
  An address is found equal to itself, and what is found in a packet, too. No statement is proved here.
-/
import Derived.Test.YtdpdalkeafkhkaaInRef
namespace Go.Proofs.Ytdpdalkeafkhkaa
open Go.RowKit

theorem run_eql_agg {P : Program} (ρ : Operand → Value) (o : Oper) (t r : TypeId) (i j : Tmp) (ho : o.op = .binOp .eql t (.tmp i) (.tmp j) r) (u v : Array Value) (b : Bool) (w : World) (hx : ρ (.tmp i) = .agg u) (hy : ρ (.tmp j) = .agg v) (hg : P.eqGuardType P.depth t = false) (he : (Op.equalIn 10000 t (.agg u) (.agg v)).run P w = .ok b w) :
    (execOp ρ o).run P w = .ok (.value (.bool b)) w := by
  have he2 : (Op.equalIn Op.maxDepth t (.agg u) (.agg v)).run P w = .ok b w := he
  unfold execOp
  simp only [ho, hx, hy, eqGuard]
  simp [binOp, Op.equal, he2, hg, Result.andThen]
theorem addr_noguard : Try.prog.eqGuardType Try.prog.depth 29 = false := by kernel_rfl
theorem info_noguard : Try.prog.eqGuardType Try.prog.depth 31 = false := by kernel_rfl
theorem addr_lits (D : Nat) (a : AddrM) (h : a.ok) : LitsAt Try.prog (D + 3) 29 a.cells := by
  refine lits_struct Try.underlying29 a.cells ?_ (by simp) ?_
  · rw [AddrM.cells_length h]; kernel_rfl
  · intro f hf
    simp only [List.mem_cons, List.not_mem_nil, or_false] at hf
    rcases hf with rfl | rfl
    · have e : (a.cells.drop 0).take (Try.prog.cellsOf 4) = [.bool a.six] := by
        rw [show Try.prog.cellsOf 4 = 1 by kernel_rfl]; rfl
      exact e ▸ lits_bool Try.underlying4 a.six
    · have e : (a.cells.drop 1).take (Try.prog.cellsOf 27) = a.ip.map u8v := by
        rw [show Try.prog.cellsOf 27 = 16 by kernel_rfl, AddrM.cells, List.drop_succ_cons, List.drop_zero, List.take_of_length_le (by rw [List.length_map, h]; omega)]
      exact e ▸ lits_bytes Try.underlying27 Try.underlying5 (by kernel_rfl) a.ip h (by kernel_rfl)
theorem addr_same (a : AddrM) (h : a.ok) (w : World) : (Op.equalIn 10000 29 (.agg a.cells.toArray) (.agg a.cells.toArray)).run Try.prog w = .ok true w :=
  same_obj 5 3 29 (by omega) (by kernel_rfl) a.cells (addr_lits 0 a h) _ Try.underlying29 rfl (by rw [AddrM.cells_length h]; kernel_rfl) w
theorem info_same (i : InfoM) (h : i.ok) (w : World) : (Op.equalIn 10000 31 (.agg i.cells.toArray) (.agg i.cells.toArray)).run Try.prog w = .ok true w := by
  have h17 := AddrM.cells_length h.1
  have h17b := AddrM.cells_length h.2.1
  have e17 : Try.prog.cellsOf 29 = 17 := by kernel_rfl
  refine same_obj 6 4 31 (by omega) (by kernel_rfl) i.cells ?_ _ Try.underlying31 rfl ?_ w
  · refine lits_struct Try.underlying31 i.cells ?_ (by simp) ?_
    · rw [InfoM.cells_length h]; kernel_rfl
    · intro f hf
      simp only [List.mem_cons, List.not_mem_nil, or_false] at hf
      rcases hf with rfl | rfl | rfl
      · have e : (i.cells.drop 0).take (Try.prog.cellsOf 29) = i.source.cells := by
          rw [e17, List.drop_zero, InfoM.cells, List.take_left' h17]
        exact e ▸ addr_lits 0 _ h.1
      · have e : (i.cells.drop 17).take (Try.prog.cellsOf 29) = i.dest.cells := by
          rw [e17, InfoM.cells, List.drop_left' h17, List.take_left' h17b]
        exact e ▸ addr_lits 0 _ h.2.1
      · have e : (i.cells.drop 34).take (Try.prog.cellsOf 3) = [.int .i64 (i.len : Int)] := by
          rw [show Try.prog.cellsOf 3 = 1 by kernel_rfl, InfoM.cells, ← List.append_assoc, List.drop_left' (by rw [List.length_append, h17, h17b])]; rfl
        have hl := h.2.2
        exact e ▸ lits_int Try.underlying3 _ ⟨by simp [IntKind.min, IntKind.signed, IntKind.bits], by simp [IntKind.max, IntKind.signed, IntKind.bits]; omega⟩
  · rw [InfoM.cells_length h]; kernel_rfl
end Go.Proofs.Ytdpdalkeafkhkaa
