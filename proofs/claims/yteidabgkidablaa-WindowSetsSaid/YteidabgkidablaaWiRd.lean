/-
  Windows as objects of six cells; equality of windows. No statement is proved here.
-/
import Derived.Test.YteidabgkidablaaWiMath
import Derived.Test.YteidabgkidablaaObjEq
import Derived.Test.YteidabgkidablaaLow
import Derived.Test.YteidabgkidablaaAtMono
import Derived.Test.YteidabgkidablaaOpsG
namespace Go.Proofs.Yteidabgkidablaa
open Go.RowKit

theorem WinM.cells_length {w : WinM} (h : w.ok) : w.cells.length = 6 := by
  rw [WinM.cells, List.length_cons, List.length_cons, List.length_map, h.2.1]
theorem win_one (w : WinM) : ∀ v ∈ w.cells, v.oneCell' = true := by
  intro v hv
  rw [WinM.cells] at hv
  simp only [List.mem_cons, List.mem_map] at hv
  rcases hv with rfl | rfl | ⟨x, _, rfl⟩ <;> rfl
theorem u64n_inj {a b : Nat} (h : u64n a = u64n b) : a = b := by
  unfold u64n at h
  injection h with _ h
  omega
theorem u64n_map_inj : ∀ {a b : List Nat}, a.map u64n = b.map u64n → a = b
  | [], [], _ => rfl
  | [], _ :: _, h => by simp at h
  | _ :: _, [], h => by simp at h
  | x :: a, y :: b, h => by
    simp only [List.map_cons, List.cons.injEq] at h
    rw [u64n_inj h.1, u64n_map_inj h.2]
theorem win_inj {a b : WinM} : a.cells = b.cells ↔ a = b := by
  refine ⟨fun h => ?_, fun h => by rw [h]⟩
  rw [WinM.cells, WinM.cells] at h
  simp only [List.cons.injEq, Value.bool.injEq] at h
  obtain ⟨h1, h2, h3⟩ := h
  cases a; cases b
  simp only at h1 h2 h3
  rw [h1, u64n_inj h2, u64n_map_inj h3]
theorem win_cellsOf (w : WinM) (h : w.ok) : (Try.prog.info? 25).map (·.size) = some w.cells.length := by
  rw [WinM.cells_length h]; kernel_rfl
theorem words_lits (ws : List Nat) (hl : ws.length = 4) (h : ∀ x ∈ ws, x < 18446744073709551616) : LitsAt Try.prog 4 23 (ws.map u64n) := by
  refine lits_array Try.underlying23 (show Try.prog.cellsOf 22 = 1 by kernel_rfl) _ (by rw [List.length_map, hl]; kernel_rfl) (fun i hi => ?_)
  rw [Nat.mul_one, List.drop_eq_getElem_cons (by rw [List.length_map, hl]; exact hi)]
  simp only [List.take_succ_cons, List.take_zero, List.getElem_map]
  have := h (ws[i]'(by omega)) (List.getElem_mem _)
  exact lits_int Try.underlying22 _ ⟨by simp [IntKind.min, IntKind.signed], by simp [IntKind.max, IntKind.signed, IntKind.bits]; omega⟩
theorem win_lits (w : WinM) (h : w.ok) : LitsAt Try.prog 5 25 w.cells := by
  refine lits_struct Try.underlying25 w.cells ?_ (by simp) ?_
  · rw [WinM.cells_length h]; kernel_rfl
  · intro f hf
    simp only [List.mem_cons, List.not_mem_nil, or_false] at hf
    rcases hf with rfl | rfl | rfl
    · have e : (w.cells.drop 0).take (Try.prog.cellsOf 4) = [.bool w.used] := by
        rw [show Try.prog.cellsOf 4 = 1 by kernel_rfl]
        rfl
      exact e ▸ lits_bool Try.underlying4 _
    · have e : (w.cells.drop 1).take (Try.prog.cellsOf 22) = [u64n w.top] := by
        rw [show Try.prog.cellsOf 22 = 1 by kernel_rfl]
        rfl
      have := h.1
      exact e ▸ lits_int Try.underlying22 _ ⟨by simp [IntKind.min, IntKind.signed], by simp [IntKind.max, IntKind.signed, IntKind.bits]; omega⟩
    · have e : (w.cells.drop 2).take (Try.prog.cellsOf 23) = w.ws.map u64n := by
        rw [show Try.prog.cellsOf 23 = 4 by kernel_rfl, WinM.cells, List.drop_succ_cons, List.drop_succ_cons, List.drop_zero, List.take_of_length_le (by rw [List.length_map, h.2.1]; decide)]
      rw [e]
      exact words_lits w.ws h.2.1 h.2.2
theorem win_eqd (a b : WinM) (ha : a.ok) (hb : b.ok) (w : World) (y : Bool) (hy : y = true ↔ a = b) : (Op.equalIn 10000 25 (.agg a.cells.toArray) (.agg b.cells.toArray)).run Try.prog w = .ok y w :=
  eq_obj 8 5 25 (by omega) (by kernel_rfl) (by kernel_rfl) a.cells b.cells (win_lits a ha) (win_lits b hb) _ Try.underlying25 rfl (by rw [WinM.cells_length ha]; kernel_rfl) (by rw [WinM.cells_length hb]; kernel_rfl) _ (by rw [hy, win_inj]) w
theorem win_noguard : Try.prog.eqGuardType Try.prog.depth 25 = false := by kernel_rfl
theorem win_used {w : World} {g off : Nat} {x : WinM} (h : At w g off x.cells) : w.cell? ⟨g, off, none⟩ = some (.bool x.used) := h 0 _ rfl
theorem win_top {w : World} {g off : Nat} {x : WinM} (h : At w g off x.cells) : w.cell? ⟨g, off + 1, none⟩ = some (.int .u64 (x.top : Int)) := h 1 _ rfl
theorem win_word {w : World} {g off : Nat} {x : WinM} (h : At w g off x.cells) (hx : x.ws.length = 4) (j : Nat) (hj : j < 4) : w.cell? ⟨g, off + 2 + j, none⟩ = some (.int .u64 (x.ws.getD j 0 : Int)) := by
  rw [Nat.add_assoc]
  refine h (2 + j) _ ?_
  rw [WinM.cells, Nat.add_comm 2 j, List.getElem?_cons_succ, List.getElem?_cons_succ, List.getElem?_map, List.getElem?_eq_getElem (by omega), List.getD_eq_getElem?_getD, List.getElem?_eq_getElem (by omega)]
  rfl
theorem win_set_word (x : WinM) (j v : Nat) : x.cells.set (2 + j) (u64n v) = (WinM.mk x.used x.top (x.ws.set j v)).cells := by
  rw [WinM.cells, WinM.cells, Nat.add_comm 2 j, List.set_cons_succ, List.set_cons_succ, List.map_set]
theorem win_set_top (x : WinM) (v : Nat) : x.cells.set 1 (u64n v) = (WinM.mk x.used v x.ws).cells := rfl
def winZ : List Value := win0.cells
theorem winZ_length : winZ.length = 6 := rfl
/-- a window in a block -/
def winL (g : Nat) (x : WinM) : Low := blkL g 25 x.cells
end Go.Proofs.Yteidabgkidablaa
