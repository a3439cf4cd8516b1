/-
  The cells of a transport message. No statement is proved here.
-/
import Derived.Test.YtaolhndbpgjlcaaMsMath
namespace Go.Proofs.Ytaolhndbpgjlcaa
open Go.RowKit

def tranC (r q : Nat) (A : Option Addr) (n c : Nat) : List Value := [.int .u32 (r : Int), .int .u64 (q : Int), .slice A n c]
theorem tran_built (r q : Nat) (A : Option Addr) (n c : Nat) : Try.prog.built 40 [(0, .int .u32 (r : Int)), (1, .int .u64 (q : Int)), (2, .slice A n c)] = some (tranC r q A n c).toArray := by kernel_rfl
theorem tran_one {x y z : Value} (hx : x.oneCell' = true := by rfl) (hy : y.oneCell' = true := by rfl) (hz : z.oneCell' = true := by rfl) : ∀ v ∈ [x, y, z], v.oneCell' = true := by
  intro v hv
  simp only [List.mem_cons, List.not_mem_nil, or_false] at hv
  rcases hv with rfl | rfl | rfl
  · exact hx
  · exact hy
  · exact hz
end Go.Proofs.Ytaolhndbpgjlcaa
