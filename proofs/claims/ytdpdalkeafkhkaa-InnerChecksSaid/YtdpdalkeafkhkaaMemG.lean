/-
  What a walk keeps of the memory that it has made, where the call changes one block of its caller's. No statement is proved here.
-/
import Derived.Test.YtdpdalkeafkhkaaEnt
namespace Go.Proofs.Ytdpdalkeafkhkaa
open Go.RowKit

theorem grownD {a w : World} {row : Option Nat} (h : a.grownBy w row) : a.grownBy w.drew row := ⟨h.os, h.tape, h.output, h.size, h.block⟩
theorem grownB {a w w' : World} {row : Option Nat} (h : a.grownBy w row) (hb : Below w.heap.size w w') : a.grownBy w' row :=
  grownBy_trans h ⟨hb.os, hb.tape, hb.output, hb.size, fun k hk _ => hb.block k hk⟩
theorem grown_refl (w : World) (k : Option Nat) : w.grownBy w k := ⟨rfl, rfl, rfl, Nat.le_refl _, fun _ _ _ => rfl⟩
/-- a change above w is none below it -/
theorem grownA {w W W' : World} {g : Nat} {row : Option Nat} (h : w.grownBy W (some g)) (hb : W.grownBy W' row) (hr : ∀ k, row = some k → w.heap.size ≤ k) : w.grownBy W' (some g) :=
  ⟨hb.os.trans h.os, hb.tape.trans h.tape, hb.output.trans h.output, Nat.le_trans h.size hb.size, fun k hk hne => (hb.block k (Nat.lt_of_lt_of_le hk h.size) (fun e => absurd (hr k e.symm) (by omega))).trans (h.block k hk hne)⟩
/-- the entries, and that of what was there ahead of w0 only the block g has changed -/
def MemG (w0 : World) (g : Nat) (E : List Ent) (W : World) : Prop := MemE w0.heap.size E W.heap.size W ∧ w0.grownBy W (some g)
section
variable {w0 W W' : World} {g : Nat} {E : List Ent}
theorem MemG.nil (w0 : World) (g : Nat) : MemG w0 g [] w0 := ⟨Nat.le_refl _, grown_refl _ _⟩
theorem MemG.get (h : MemG w0 g E W) (i : Nat) {e : Ent} (he : E[i]? = some e) : e.P W := h.1.get i e he
theorem MemG.blk (h : MemG w0 g E W) (i : Nat) {b : Nat} {t : TypeId} {cs : List Value} (he : E[i]? = some (blkE b t cs)) : Blk W b t cs := h.1.get i _ he
theorem MemG.rd (h : MemG w0 g E W) (i : Nat) {lo hi : Nat} {A : Option Addr} {n : Nat} {l : List UInt8} (he : E[i]? = some (rdE lo hi A n l)) : Rd W W.heap.size A n l :=
  (RdIn.rd (h.1.get i _ he)).mono (MemE.put.MemE.under h.1 i _ he)
theorem MemG.erase (h : MemG w0 g E W) (i : Nat) : MemG w0 g (E.eraseIdx i) W := ⟨h.1.erase i, h.2⟩
theorem MemG.below (h : MemG w0 g E W) (hb : Below W.heap.size W W') : MemG w0 g E W' := ⟨h.1.keep hb.size (fun k _ hk => hb.block k hk), grownB h.2 hb⟩
theorem MemG.drew (h : MemG w0 g E W) : MemG w0 g E W.drew := h.below ((Below.refl _ _).drew)
/-- the block g changes -/
theorem MemG.next (h : MemG w0 g E W) (hg : g < w0.heap.size) (hb : W.grownBy W' (some g)) : MemG w0 g E W' :=
  ⟨h.1.keep hb.size (fun k h1 hk => hb.block k hk (fun e => by injection e with e; omega)), grownBy_trans h.2 hb⟩
theorem MemG.alloc (h : MemG w0 g E W) {b : Nat} (hb0 : b = W.heap.size) (t : TypeId) (arr : Array Value) (cs : List Value) (ha : arr = cs.toArray) : MemG w0 g (blkE b t cs :: E) (W.alloc (.cells arr t)) := by
  subst hb0 ha
  have hb : Below W.heap.size W (W.alloc (.cells cs.toArray t)) := (Below.refl _ _).alloc (Nat.le_refl _) _
  refine ⟨⟨?_, Nat.le_succ _, Blk.new W t cs, h.1.keep (Nat.le_refl _) (fun k _ hk => hb.block k hk)⟩, grownB h.2 hb⟩
  show W.heap.size + 1 ≤ _
  simp
theorem MemG.call (h : MemG w0 g E W) (hb : Below W.heap.size W W') (e : Ent) (hl : e.lo = W.heap.size) (hh : e.hi = W'.heap.size) (hp : e.P W') : MemG w0 g (e :: E) W' :=
  ⟨⟨by rw [hh]; exact Nat.le_refl _, by rw [hl, hh]; exact hb.size, hp, by rw [hl]; exact h.1.keep (Nat.le_refl _) (fun k _ hk => hb.block k hk)⟩, grownB h.2 hb⟩
/-- what a call returns that changes the block g, too -/
theorem MemG.callG (h : MemG w0 g E W) (hg : g < w0.heap.size) (hb : W.grownBy W' (some g)) (e : Ent) (hl : e.lo = W.heap.size) (hh : e.hi = W'.heap.size) (hp : e.P W') : MemG w0 g (e :: E) W' :=
  ⟨⟨by rw [hh]; exact Nat.le_refl _, by rw [hl, hh]; exact hb.size, hp, by rw [hl]; exact h.1.keep (Nat.le_refl _) (fun k h1 hk => hb.block k hk (fun e => by injection e with e; omega))⟩, grownBy_trans h.2 hb⟩
theorem MemG.put (h : MemG w0 g E W) (i : Nat) {b : Nat} {t : TypeId} {cs : List Value} (he : E[i]? = some (blkE b t cs)) (cs' : List Value) (hg : W.grownBy W' (some b)) (hb : Blk W' b t cs') : MemG w0 g (E.set i (blkE b t cs')) W' := by
  have hlow : w0.heap.size ≤ b := MemE.low h.1 i _ he
  refine ⟨(MemE.put h.1 i _ (blkE b t cs') he rfl rfl (fun k hk hne => hg.block k hk (fun e => hne ?_)) hb).keep hg.size (fun _ _ _ => rfl), grownA h.2 hg (fun k hk => by injection hk with hk; omega)⟩
  injection e with e
  subst e
  exact ⟨Nat.le_refl _, Nat.lt_succ_self _⟩
theorem MemG.setCell (h : MemG w0 g E W) (i : Nat) {b : Nat} {t : TypeId} {cs : List Value} (he : E[i]? = some (blkE b t cs)) (j : Nat) (u : Value) : MemG w0 g (E.set i (blkE b t (cs.set j u))) (W.setCell ⟨b, j, none⟩ u) :=
  h.put i he _ ⟨rfl, rfl, rfl, by simp [World.setCell], fun k _ hne => Below.heap_setCell _ _ _ _ (fun e => hne (by rw [e]))⟩ ((h.blk i he).set_ j u)
/-- an argument's block that is not g -/
theorem MemG.arg (h : MemG w0 g E W) {t : TypeId} {b : Nat} {cs : List Value} (hr : Blk w0 b t cs) (hne : b ≠ g) : Blk W b t cs := hr.grown h.2 (by simpa using hne)
end
end Go.Proofs.Ytdpdalkeafkhkaa
