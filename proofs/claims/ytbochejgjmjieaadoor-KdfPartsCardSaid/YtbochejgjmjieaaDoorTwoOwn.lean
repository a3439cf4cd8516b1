/-
  Two rows of the call's own that grow in turn. No statement is proved here.
-/
import Derived.Test.YtbochejgjmjieaaDoorEnt
import Derived.Test.YtbochejgjmjieaaDoorWord
import Derived.Maps.AppendAt
namespace Go.Proofs.YtbochejgjmjieaaDoor
open Go.RowKit

/-- two rows above B that do not share a block -/
def TwoOwn (B : Nat) (v v' : Value) (n n' : Nat) (l l' : List UInt8) (W : World) : Prop :=
  W.ownsRow B 5 1 v n (l.map u8v) ∧ W.ownsRow B 5 1 v' n' (l'.map u8v) ∧ ∀ k, v.ownBlock = some k → v'.ownBlock ≠ some k
section
variable {B : Nat} {v v' : Value} {n n' : Nat} {l l' : List UInt8} {W W' : World}
theorem TwoOwn.alloc (h : TwoOwn B v v' n n' l l' W) (o : Obj) : TwoOwn B v v' n n' l l' (W.alloc o) := ⟨h.1.alloc o, h.2.1.alloc o, h.2.2⟩
/-- behind an append to the first one -/
theorem TwoOwn.first (h : TwoOwn B v v' n n' l l' W) {u : Value} {m : Nat} {k : List UInt8} (ho : W'.ownsRow B 5 1 u m (k.map u8v)) (hg : W.grownBy W' v.ownBlock) (hb : u.ownBlock = v.ownBlock ∨ u.ownBlock = some W.heap.size) : TwoOwn B u v' m n' k l' W' := by
  refine ⟨ho, h.2.1.kept hg ?_, fun b hu hv => ?_⟩
  · cases e : v'.ownBlock with
    | none => exact .inl rfl
    | some b => exact .inr (fun e2 => h.2.2 b e2.symm e)
  · rcases hb with e | e
    · exact h.2.2 b (e ▸ hu) hv
    · have := (h.2.1.lt b hv).2
      rw [e] at hu
      injection hu with hu
      omega
theorem TwoOwn.swap (h : TwoOwn B v v' n n' l l' W) : TwoOwn B v' v n' n l' l W := ⟨h.2.1, h.1, fun k h1 h2 => h.2.2 k h2 h1⟩
end
theorem wpList_append_at {P : Program} (w : World) {ops : Array Oper} {rest : List Oper} {o : Oper} {a : Act} {Q : Exit → Act → World → Prop} (hgd : o.guard = none) (s x : Operand) (t : TypeId)
    (ho : o.op = .call { callee := .builtin .append, args := #[s, x], argTypes := #[t, t] })
    (base : Nat) (e : TypeId) (i : TypeInfo) (z : Value) (ht : P.underlying t = some (.slice e)) (hi : P.info? e = some i) (hz : i.zero = some z) (hsize : i.size = 1) (hby : i.bytes = 1) (hzs : z.cells.size = 1)
    (v : Value) (n : Nat) (xs : List UInt8) (hs : a.eval s = v) (hown : w.ownsRow base e 1 v n (xs.map u8v)) (ad : Addr) (m c : Nat) (l : List UInt8) (hx : a.eval x = .slice (some ad) m c) (hr : Rd w w.heap.size (some ad) m l) (h63 : n + m ≤ 100000000) (hbase : base ≤ w.heap.size)
    (h : ∀ v' w', w'.ownsRow base e 1 v' (n + m) ((xs ++ l).map u8v) → w.grownBy w' v.ownBlock → (v'.ownBlock = v.ownBlock ∨ v'.ownBlock = some w.heap.size) → wpList P ops Q rest (a.put o.dst v') w') : wpList P ops Q (o :: rest) a w := by
  refine wpList_append_own_at w hgd s x t ho base e i z 1 1 ht hi hz hsize hby hzs (by omega) v n (xs.map u8v) hs hown ad m c (l.map u8v) hx (by rw [List.length_map, hr.1, Nat.mul_one]) hr.src (u8v_one _) (by unfold maxLen; omega) (by omega) hbase (fun v' w' h1 h2 _ h4 => h v' w' (by rw [List.map_append]; exact h1) h2 h4)
end Go.Proofs.YtbochejgjmjieaaDoor
