/-
  The contracts of the reference's initial words and permutations.
-/
import Derived.Test.YtbochejgjmjieaaDoorEnt
import Derived.Test.YtbochejgjmjieaaDoorWord
import Derived.Test.YtbochejgjmjieaaDoorBlMath
import Derived.Test.YtbochejgjmjieaaDoorBuildAs
import Derived.Deep.DeepCutAuto
namespace Go.Proofs.YtbochejgjmjieaaDoor
open Go.RowKit

theorem cellsW8 (l : List UInt32) (h : l.length = 8) : (Tryd.prog.info? 45).map (·.size) = some (l.map u32v).length := by
  rw [List.length_map, h]; kernel_rfl
def intv (n : Nat) : Value := .int .i64 (n : Int)
def ordV (r : Nat) : List Value := (List.range 16).map fun i => intv (ordN r i)
theorem cellsO (r : Nat) : (Tryd.prog.info? 60).map (·.size) = some (ordV r).length := by
  rw [ordV, List.length_map, List.length_range]; kernel_rfl

set_option maxRecDepth 100000 in
set_option maxHeartbeats 4000000 in
theorem refInitial_any (w : World) : Calls Tryd.prog 25 #[] w fun e w' => e = .returned (.agg (ivW.map u32v).toArray) ∧ Below w.heap.size w w' := by
  have HM := Lib.hid (show Mem w [blkE w.heap.size 45 (zw 8)] (w.alloc (.cells #[.int .u32 0, .int .u32 0, .int .u32 0, .int .u32 0, .int .u32 0, .int .u32 0, .int .u32 0, .int .u32 0] 45)) from (Mem.nil w).alloc rfl _ _ (zw 8) rfl)
  have HV := Lib.hid (show (ivW.map u32v).toArray = #[.int .u32 0x6A09E667, .int .u32 0xBB67AE85, .int .u32 0x3C6EF372, .int .u32 0xA54FF53A, .int .u32 0x510E527F, .int .u32 0x9B05688C, .int .u32 0x1F83D9AB, .int .u32 0x5BE0CD19] from rfl)
  go_enter Tryd.func25, Tryd.ntmps25
  go_upto_region 1 with fail
  generalize w.alloc (.cells #[.int .u32 0, .int .u32 0, .int .u32 0, .int .u32 0, .int .u32 0, .int .u32 0, .int .u32 0, .int .u32 0] 45) = w1 at HM ⊢
  go_wp2_with (refine wpList_store_blk rfl 45 (.tmp 0) (.tmp 1) rfl w.heap.size (ivW.map u32v) rfl (by rw [HV.out]; rfl) 45 (zw 8) (HM.out.blk 0 rfl) (cellsW8 ivW rfl) rfl (u32v_one _) ?_; intro w9 hb9 hg9)
  exact bodyPost_ret (results_blk rfl _ _ w.heap.size 45 (ivW.map u32v) 8 44 rfl hb9 Tryd.underlying45 (cellsW8 ivW rfl)) rfl ⟨rfl, (HM.out.put 0 rfl _ hg9 hb9).bel⟩

theorem run_index_row {P : Program} (t e e2 : TypeId) (n m : Nat) (ht : P.underlying t = some (.array n e)) (he : P.underlying e = some (.array m e2)) (i : TypeInfo) (hi : P.info? e = some i) (hs : i.size = m) (cs : Array Value) (r : Nat) (hr : r < n) (w : World) :
    (Instr.index t (.agg cs) (.int .i64 (r : Int))).run P w = .ok (.agg (cs.extract (r * m) (r * m + m))) w := by
  have h2 : (0 : Int) ≤ (r : Int) ∧ (r : Int) < (n : Int) := by omega
  simp [Instr.index, asIntOf, run_underlying ht, part, isAgg, run_underlying he, sizeOf, typeInfo, hi, hs, hr]
theorem wpList_index_row {P : Program} {w : World} {ops : Array Oper} {rest : List Oper} {o : Oper} {act : Act} {Q : Exit → Act → World → Prop} (hgd : o.guard = none) (t e e2 : TypeId) (x y : Operand) (ho : o.op = .index t x y)
    (cs : Array Value) (hx : act.eval x = .agg cs) (r : Nat) (hy : act.eval y = .int .i64 (r : Int)) (n m : Nat) (ht : P.underlying t = some (.array n e)) (he : P.underlying e = some (.array m e2)) (i : TypeInfo) (hi : P.info? e = some i) (hs : i.size = m) (hr : r < n)
    (h : wpList P ops Q rest (act.put o.dst (.agg (cs.extract (r * m) (r * m + m)))) w) : wpList P ops Q (o :: rest) act w :=
  wpList_plain hgd fun K hK => by
    unfold Oper.wp execOp
    simp only [ho, hx, hy, run_index_row t e e2 n m ht he i hi hs cs r hr, Sem.run_bind, Result.andThen_ok]
    exact hK _ _ h
theorem Tryd.info60 : ∃ i, Tryd.prog.info? 60 = some i ∧ i.size = 16 := by
  have h : (Tryd.prog.info? 60).map (·.size) = some 16 := by kernel_rfl
  cases hi : Tryd.prog.info? 60 with
  | none => rw [hi] at h; cases h
  | some i => rw [hi] at h; exact ⟨i, rfl, by simpa using h⟩

set_option maxRecDepth 100000 in
set_option maxHeartbeats 8000000 in
theorem refOrder_any (r : Nat) (hr : r < 10) (w : World) : Calls Tryd.prog 32 #[.int .i64 (r : Int)] w fun e w' => e = .returned (.agg (ordV r).toArray) ∧ Below w.heap.size w w' := by
  have HM := Lib.hid (show Mem w [blkE w.heap.size 60 (List.replicate 16 (.int .i64 0))] (w.alloc (.cells #[.int .i64 0, .int .i64 0, .int .i64 0, .int .i64 0, .int .i64 0, .int .i64 0, .int .i64 0, .int .i64 0, .int .i64 0, .int .i64 0, .int .i64 0, .int .i64 0, .int .i64 0, .int .i64 0, .int .i64 0, .int .i64 0] 60)) from (Mem.nil w).alloc rfl _ _ _ rfl)
  obtain ⟨i16, hi16, hs16⟩ := Tryd.info60
  have HI := Lib.hid (And.intro hi16 hs16)
  clear hi16 hs16
  obtain ⟨co, hco⟩ : ∃ c, (ordV r).toArray = c := ⟨_, rfl⟩
  have HCO := Lib.hid hco
  rw [hco]
  clear hco
  go_enter Tryd.func32, Tryd.ntmps32
  go_upto_region 1 with fail
  generalize w.alloc (.cells #[.int .i64 0, .int .i64 0, .int .i64 0, .int .i64 0, .int .i64 0, .int .i64 0, .int .i64 0, .int .i64 0, .int .i64 0, .int .i64 0, .int .i64 0, .int .i64 0, .int .i64 0, .int .i64 0, .int .i64 0, .int .i64 0] 60) = w1 at HM ⊢
  go_wp2_with (first | (refine wpList_build_as rfl 64 [(0, .tmp 3), (1, .tmp 4), (2, .tmp 5), (3, .tmp 6), (4, .tmp 7), (5, .tmp 8), (6, .tmp 9), (7, .tmp 10), (8, .tmp 11), (9, .tmp 12)] rfl (ordT.flatMap fun r => r.map fun i : Nat => intv i).toArray (by kernel_rfl) ?_) | (refine wpList_index_row rfl 64 60 3 (.tmp 13) (.tmp 14) rfl _ rfl r rfl 10 16 Tryd.underlying64 Tryd.underlying60 i16 HI.out.1 HI.out.2 hr ?_; generalize hX : Array.extract _ (r * 16) (r * 16 + 16) = X; have HX := Lib.hid (show X = co by (subst hX; rw [← HCO.out]; (rcases (show r = 0 ∨ r = 1 ∨ r = 2 ∨ r = 3 ∨ r = 4 ∨ r = 5 ∨ r = 6 ∨ r = 7 ∨ r = 8 ∨ r = 9 by omega) with rfl | rfl | rfl | rfl | rfl | rfl | rfl | rfl | rfl | rfl) <;> rfl)); clear hX) | (refine wpList_store_blk rfl 60 (.tmp 2) (.tmp 15) rfl w.heap.size (ordV r) rfl (by show Value.agg _ = Value.agg _; rw [HX.out, HCO.out]) 60 (List.replicate 16 (.int .i64 0)) (HM.out.blk 0 rfl) (cellsO r) (by rw [ordV, List.length_map, List.length_range]; rfl) (by intro v hv; obtain ⟨_, _, rfl⟩ := List.mem_map.1 hv; rfl) ?_; intro w9 hb9 hg9))
  exact bodyPost_ret (results_blk rfl _ _ w.heap.size 60 (ordV r) 16 3 rfl hb9 Tryd.underlying60 (cellsO r)) rfl ⟨by rw [HCO.out], (HM.out.put 0 rfl _ hg9 hb9).bel⟩
end Go.Proofs.YtbochejgjmjieaaDoor
