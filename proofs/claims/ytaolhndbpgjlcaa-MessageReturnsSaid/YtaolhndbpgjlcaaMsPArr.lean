/-
  A part of a slice of bytes as an array; a message that is built of its fields. No statement is proved here.
-/
import Derived.Test.YtaolhndbpgjlcaaMsSmall
import Derived.Test.YtaolhndbpgjlcaaMsZero
import Derived.Test.YtaolhndbpgjlcaaObj
import Derived.Test.YtaolhndbpgjlcaaBuildAs
namespace Go.Proofs.Ytaolhndbpgjlcaa
open Go.RowKit

/-- a slice that is long enough as an array -/
theorem run_arrayAt_off {P : Program} (w : World) (ty : TypeId) (g off n c k : Nat) (e : TypeId) (hu : P.underlying ty = some (.array k e)) (h : k ≤ n) :
    (Instr.arrayAt ty (.slice (some ⟨g, off, none⟩) n c)).run P w = .ok (.pointer (some ⟨g, off, none⟩)) w := by
  unfold Instr.arrayAt
  rw [Sem.run_bind, run_underlying hu w]
  simp [Nat.not_lt.2 h]
theorem Rd.at_obj {w : World} {B n b off : Nat} {l : List UInt8} (h : Rd w B (some ⟨b, off, none⟩) n l) (i k : Nat) : At w b (off + i) (((l.drop i).take k).map u8v) := by
  intro j v hv
  have hj : j < ((l.drop i).take k).length := by
    have := (List.getElem?_eq_some_iff.1 hv).1
    simpa using this
  have hj2 : j < k ∧ i + j < l.length := by
    rw [List.length_take, List.length_drop] at hj
    omega
  have hb := h.byt (i + j) (by rw [← h.1]; omega)
  rw [Nat.add_assoc, hb]
  rw [List.getElem?_map, List.getElem?_eq_getElem hj] at hv
  simp only [Option.map_some, Option.some.injEq] at hv
  rw [← hv, List.getElem_take, List.getElem_drop, List.getD_eq_getElem?_getD, List.getElem?_eq_getElem hj2.2]
  rfl
theorem cut_drop (l : List UInt8) (a z : Nat) : (l.drop a).take z ++ l.drop (a + z) = l.drop a := by
  rw [← List.drop_drop]
  exact List.take_append_drop _ _
set_option maxRecDepth 100000 in
theorem built_ms1 (v : Nat) (f0 f1 f2 f3 f4 : List UInt8) (h0 : f0.length = 32) (h1 : f1.length = 48) (h2 : f2.length = 28) (h3 : f3.length = 16) (h4 : f4.length = 16) : Try.prog.built 30 [(0, .int .u32 (v : Int)), (1, .agg (f0.map u8v).toArray), (2, .agg (f1.map u8v).toArray), (3, .agg (f2.map u8v).toArray), (4, .agg (f3.map u8v).toArray), (5, .agg (f4.map u8v).toArray)] = some (MsgM.mk [v] (f0 ++ f1 ++ f2 ++ f3 ++ f4)).cells.toArray := by
  rw [built_of 30 [1, 32, 48, 28, 16, 16] [[.int .u32 0], (List.replicate 32 (0 : UInt8)).map u8v, (List.replicate 48 (0 : UInt8)).map u8v, (List.replicate 28 (0 : UInt8)).map u8v, (List.replicate 16 (0 : UInt8)).map u8v, (List.replicate 16 (0 : UInt8)).map u8v] (by kernel_rfl) #[(0, 1), (1, 32), (33, 48), (81, 28), (109, 16), (125, 16)] (fun parts => by kernel_rfl) (fun i h => by
    match i, h with
    | 0, _ => rfl
    | 1, _ => rfl
    | 2, _ => rfl
    | 3, _ => rfl
    | 4, _ => rfl
    | 5, _ => rfl) _ (fun p hp => by
    simp only [List.mem_cons, List.not_mem_nil, or_false] at hp
    rcases hp with rfl | rfl | rfl | rfl | rfl | rfl
    · rfl
    · simp [Value.cells, h0]
    · simp [Value.cells, h1]
    · simp [Value.cells, h2]
    · simp [Value.cells, h3]
    · simp [Value.cells, h4])]
  simp [MsgM.cells, Value.cells, u32c]
theorem parts_ms1 (l : List UInt8) (h : l.length = 148) : (l.drop 8).take 32 ++ (l.drop 40).take 48 ++ (l.drop 88).take 28 ++ (l.drop 116).take 16 ++ (l.drop 132).take 16 = l.drop 8 := by
  rw [show (l.drop 132).take 16 = l.drop 132 from List.take_of_length_le (by rw [List.length_drop, h]; decide)]
  try simp only [List.append_assoc]
  rw [show l.drop 132 = l.drop (116 + 16) from rfl, cut_drop, show l.drop 116 = l.drop (88 + 28) from rfl, cut_drop, show l.drop 88 = l.drop (40 + 48) from rfl, cut_drop, show l.drop 40 = l.drop (8 + 32) from rfl, cut_drop]
set_option maxRecDepth 100000 in
theorem built_ms2 (v u : Nat) (f0 f1 f2 f3 : List UInt8) (h0 : f0.length = 32) (h1 : f1.length = 16) (h2 : f2.length = 16) (h3 : f3.length = 16) : Try.prog.built 32 [(0, .int .u32 (v : Int)), (1, .int .u32 (u : Int)), (2, .agg (f0.map u8v).toArray), (3, .agg (f1.map u8v).toArray), (4, .agg (f2.map u8v).toArray), (5, .agg (f3.map u8v).toArray)] = some (MsgM.mk [v, u] (f0 ++ f1 ++ f2 ++ f3)).cells.toArray := by
  rw [built_of 32 [1, 1, 32, 16, 16, 16] [[.int .u32 0], [.int .u32 0], (List.replicate 32 (0 : UInt8)).map u8v, (List.replicate 16 (0 : UInt8)).map u8v, (List.replicate 16 (0 : UInt8)).map u8v, (List.replicate 16 (0 : UInt8)).map u8v] (by kernel_rfl) #[(0, 1), (1, 1), (2, 32), (34, 16), (50, 16), (66, 16)] (fun parts => by kernel_rfl) (fun i h => by
    match i, h with
    | 0, _ => rfl
    | 1, _ => rfl
    | 2, _ => rfl
    | 3, _ => rfl
    | 4, _ => rfl
    | 5, _ => rfl) _ (fun p hp => by
    simp only [List.mem_cons, List.not_mem_nil, or_false] at hp
    rcases hp with rfl | rfl | rfl | rfl | rfl | rfl
    · rfl
    · rfl
    · simp [Value.cells, h0]
    · simp [Value.cells, h1]
    · simp [Value.cells, h2]
    · simp [Value.cells, h3])]
  simp [MsgM.cells, Value.cells, u32c]
theorem parts_ms2 (l : List UInt8) (h : l.length = 92) : (l.drop 12).take 32 ++ (l.drop 44).take 16 ++ (l.drop 60).take 16 ++ (l.drop 76).take 16 = l.drop 12 := by
  rw [show (l.drop 76).take 16 = l.drop 76 from List.take_of_length_le (by rw [List.length_drop, h]; decide)]
  try simp only [List.append_assoc]
  rw [show l.drop 76 = l.drop (60 + 16) from rfl, cut_drop, show l.drop 60 = l.drop (44 + 16) from rfl, cut_drop, show l.drop 44 = l.drop (12 + 32) from rfl, cut_drop]
set_option maxRecDepth 100000 in
theorem built_ms3 (v : Nat) (f0 f1 : List UInt8) (h0 : f0.length = 24) (h1 : f1.length = 32) : Try.prog.built 36 [(0, .int .u32 (v : Int)), (1, .agg (f0.map u8v).toArray), (2, .agg (f1.map u8v).toArray)] = some (MsgM.mk [v] (f0 ++ f1)).cells.toArray := by
  rw [built_of 36 [1, 24, 32] [[.int .u32 0], (List.replicate 24 (0 : UInt8)).map u8v, (List.replicate 32 (0 : UInt8)).map u8v] (by kernel_rfl) #[(0, 1), (1, 24), (25, 32)] (fun parts => by kernel_rfl) (fun i h => by
    match i, h with
    | 0, _ => rfl
    | 1, _ => rfl
    | 2, _ => rfl) _ (fun p hp => by
    simp only [List.mem_cons, List.not_mem_nil, or_false] at hp
    rcases hp with rfl | rfl | rfl
    · rfl
    · simp [Value.cells, h0]
    · simp [Value.cells, h1])]
  simp [MsgM.cells, Value.cells, u32c]
theorem parts_ms3 (l : List UInt8) (h : l.length = 64) : (l.drop 8).take 24 ++ (l.drop 32).take 32 = l.drop 8 := by
  rw [show (l.drop 32).take 32 = l.drop 32 from List.take_of_length_le (by rw [List.length_drop, h]; decide)]
  try simp only [List.append_assoc]
  rw [show l.drop 32 = l.drop (8 + 24) from rfl, cut_drop]
end Go.Proofs.Ytaolhndbpgjlcaa
