/-
  What a walk keeps of slices of which only their bytes are known: a list of facts, all of them under the world's size. No statement is proved here.
-/
import Derived.Test.YtdpdalkeafkhkaaMem
namespace Go.Proofs.Ytdpdalkeafkhkaa
open Go.RowKit

structure RdF where
  A : Option Addr
  n : Nat
  l : List UInt8
def Rds (w0 : World) (E : List RdF) (W : World) : Prop := (∀ f ∈ E, Rd W W.heap.size f.A f.n f.l) ∧ Below w0.heap.size w0 W
section
variable {w0 W W' : World} {E : List RdF}
theorem Rds.nil (w0 : World) : Rds w0 [] w0 := ⟨fun f hf => absurd hf (by simp), Below.refl _ _⟩
theorem Rds.bel (h : Rds w0 E W) : Below w0.heap.size w0 W := h.2
theorem Rds.below (h : Rds w0 E W) (hb : Below W.heap.size W W') : Rds w0 E W' := ⟨fun f hf => ((h.1 f hf).below hb).mono hb.size, h.2.trans (hb.mono h.2.size)⟩
theorem Rds.drew (h : Rds w0 E W) : Rds w0 E W.drew := h.below ((Below.refl _ _).drew)
theorem Rds.cons (h : Rds w0 E W) {A : Option Addr} {n : Nat} {l : List UInt8} (hr : Rd W W.heap.size A n l) : Rds w0 (⟨A, n, l⟩ :: E) W :=
  ⟨fun f hf => by
    rcases List.mem_cons.1 hf with rfl | hf
    · exact hr
    · exact h.1 f hf, h.2⟩
theorem Rds.rd (h : Rds w0 E W) (i : Nat) {A : Option Addr} {n : Nat} {l : List UInt8} (he : E[i]? = some ⟨A, n, l⟩) : Rd W W.heap.size A n l := h.1 _ (List.mem_of_getElem? he)
theorem Rds.size (h : Rds w0 E W) : w0.heap.size ≤ W.heap.size := h.2.size
theorem Rds.tail (h : Rds w0 E W) (i : Nat) : Rds w0 (E.eraseIdx i) W := ⟨fun f hf => h.1 f (List.mem_of_mem_eraseIdx hf), h.2⟩
end
end Go.Proofs.Ytdpdalkeafkhkaa
