/-
  The zero values of the two great messages, as constants that no walk opens. No statement is proved here.
-/
import Derived.Test.YtaolhndbpgjlcaaMsMath
namespace Go.Proofs.Ytaolhndbpgjlcaa
open Go.RowKit

def zc1 : Array Value := (msg0 1).cells.toArray
def zc2 : Array Value := (msg0 2).cells.toArray
@[simp] theorem zc1_run (w : World) : (zeroValue 30).run Try.prog w = .ok (.agg zc1) w := by kernel_rfl
@[simp] theorem zc2_run (w : World) : (zeroValue 32).run Try.prog w = .ok (.agg zc2) w := by kernel_rfl
@[simp] theorem zc1_size : zc1.size = 141 := by kernel_rfl
@[simp] theorem zc2_size : zc2.size = 82 := by kernel_rfl
@[simp] theorem zc1_ne : zc1 ≠ #[] := by
  intro e
  have h := congrArg Array.size e
  rw [zc1_size] at h
  cases h
@[simp] theorem zc2_ne : zc2 ≠ #[] := by
  intro e
  have h := congrArg Array.size e
  rw [zc2_size] at h
  cases h
end Go.Proofs.Ytaolhndbpgjlcaa
