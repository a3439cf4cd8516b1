/-
  append onto a row of bytes of the call's own, where the old value goes on being read: it reads as before, whether the row had room or a new array was made. And the words for what is kept over such a statement. No statement is proved here.
-/
import Derived.Test.YtdnmbabofkiiiaaMem
import Derived.ArgAppend
namespace Go.Proofs.Ytdnmbabofkiiiaa
open Go.RowKit

theorem own_prefix {w : World} {base e g n m cap : Nat} {xs news : List Value} (h : w.ownsRow base e 1 (.slice (some ⟨g, 0, none⟩) (n + m) cap) (n + m) (xs ++ news)) (hx : xs.length = n) :
    w.ownsRow base e 1 (.slice (some ⟨g, 0, none⟩) n cap) n xs := by
  refine ⟨by omega, .inr ?_⟩
  rcases h.2 with ⟨h', _⟩ | ⟨g', cap', cur, h', hb, hg, hnc, hcm, hcs, ht⟩
  · simp at h'
  · simp only [Value.slice.injEq, Option.some.injEq, Addr.mk.injEq, and_true, true_and] at h'
    obtain ⟨rfl, rfl⟩ := h'
    refine ⟨g, cap, cur, rfl, hb, hg, by omega, hcm, hcs, ?_⟩
    rw [Nat.mul_one] at ht ⊢
    have := congrArg (List.take n) ht
    rw [List.take_take, Nat.min_eq_left (by omega), List.take_left' hx] at this
    exact this

theorem run_append_keeps {P : Program} (w : World) (base : Nat) (t ty e : TypeId) (i : TypeInfo) (z : Value) (ht : P.underlying t = some (.slice e)) (hi : P.info? e = some i) (hz : i.zero = some z) (hsize : i.size = 1) (hby : i.bytes = 1) (hzs : z.cells.size = 1)
    (v : Value) (n : Nat) (xs : List Value) (hown : w.ownsRow base e 1 v n xs) (ad : Addr) (m c : Nat) (news : List Value) (hl : news.length = m) (hnews : ∀ j u, news[j]? = some u → w.cell? (ad.add j) = some u) (h1 : ∀ u ∈ news, u.oneCell' = true)
    (h63 : n + m ≤ 100000000) (hbase : base ≤ w.heap.size) :
    ∃ v' w', (Builtin.append_ #[t, t] ty #[v, .slice (some ad) m c]).run P w = .ok v' w' ∧ w'.ownsRow base e 1 v' (n + m) (xs ++ news) ∧ w.grownBy w' v.ownBlock ∧ w'.ownsRow base e 1 v n xs := by
  rcases hown.2 with ⟨rfl, rfl⟩ | ⟨g, cap, cur, rfl, hbg, hg, hnc, hcm, hcs, htk⟩
  · obtain ⟨v', w', hrun, r1, r2, _⟩ := run_append_own (P := P) w base t ty e i z 1 1 ht hi hz hsize hby hzs (by omega) _ _ xs hown ad m c news (by omega) hnews h1 (by unfold maxLen; omega) (by omega) hbase
    refine ⟨v', w', hrun, r1, r2, ?_⟩
    exact ⟨hown.1, .inl ⟨rfl, rfl⟩⟩
  · have hxl : xs.length = n := by have := hown.1; omega
    by_cases hroom : n + m ≤ cap
    · obtain ⟨w', hrun, r1, r2⟩ := run_append_fits (P := P) w base t ty e i 1 ht hi hsize g n cap xs hown ad m c news (by omega) hnews h1 hroom
      exact ⟨_, w', hrun, r1, by simpa [Value.ownBlock] using r2, own_prefix r1 hxl⟩
    · obtain ⟨v', w', hrun, r1, r2⟩ := run_append_arg_grows (P := P) w t ty e i z 1 1 ht hi hz hsize hby hzs (by omega) ⟨g, 0, none⟩ n cap xs (by omega) (fun j u hu => by
          have hj : j < n * 1 := by have := (List.getElem?_eq_some_iff.1 hu).1; omega
          rw [Go.WideShapes.add_plain, Nat.zero_add, hown.cellAt j hj, hu]) ad m c news (by omega) hnews (by omega) (by unfold maxLen; omega) (by omega)
      refine ⟨v', w', hrun, own_base r1 hbase, ⟨r2.os, r2.tape, r2.output, r2.size, fun k hk _ => r2.block k hk (by simp)⟩, hown.kept r2 (.inr (by simp [Value.ownBlock]))⟩

theorem step_append_keeps {P : Program} (w : World) {ops : Array Oper} {o : Oper} {a : Act} {K : Act → World → Prop} {Q : Exit → Act → World → Prop} {E : Prop} (s x : Operand) (t : TypeId)
    (ho : o.op = .call { callee := .builtin .append, args := #[s, x], argTypes := #[t, t] })
    (base : Nat) (e : TypeId) (i : TypeInfo) (z : Value) (ht : P.underlying t = some (.slice e)) (hi : P.info? e = some i) (hz : i.zero = some z) (hsize : i.size = 1) (hby : i.bytes = 1) (hzs : z.cells.size = 1)
    (v : Value) (n : Nat) (xs : List Value) (hs : a.eval s = v) (hown : w.ownsRow base e 1 v n xs)
    (ad : Addr) (m c : Nat) (news : List Value) (hx : a.eval x = .slice (some ad) m c) (hl : news.length = m) (hnews : ∀ j u, news[j]? = some u → w.cell? (ad.add j) = some u) (h1 : ∀ u ∈ news, u.oneCell' = true)
    (h63 : n + m ≤ 100000000) (hbase : base ≤ w.heap.size) (hw : Region.wanted o (yielded ops a.tmps) = true)
    (h : ∀ v' w', w'.ownsRow base e 1 v' (n + m) (xs ++ news) → w.grownBy w' v.ownBlock → w'.ownsRow base e 1 v n xs → K (a.put o.dst v') w') :
    if Region.wanted o (yielded ops a.tmps) = true then Oper.wp P o a w K Q else E := by
  rw [if_pos hw]
  obtain ⟨v', w', hrun, h2, h3, h4⟩ := run_append_keeps (P := P) w base t o.type e i z ht hi hz hsize hby hzs v n xs hown ad m c news hl hnews h1 h63 hbase
  unfold Oper.wp execOp
  simp only [ho, resolve, invoke, builtin, Sem.run_bind, Sem.run_pure, Result.andThen_ok, List.map_toArray, List.map_cons, List.map_nil, hs, hx, hrun]
  exact h v' w' h2 h3 h4

/-- between W and w' only the row of v may have been written, and v still owns the cells xs -/
def Keep (W : World) (base e : Nat) (v : Value) (n : Nat) (xs : List Value) (w' : World) : Prop := W.grownBy w' v.ownBlock ∧ w'.ownsRow base e 1 v n xs
section
variable {W w w' : World} {base e n : Nat} {v : Value} {xs : List Value}
theorem Keep.refl (h : W.ownsRow base e 1 v n xs) : Keep W base e v n xs W := ⟨World.grownBy.refl W _, h⟩
theorem Keep.own (h : Keep W base e v n xs w) : w.ownsRow base e 1 v n xs := h.2
theorem Keep.drew (h : Keep W base e v n xs w) : Keep W base e v n xs w.drew := ⟨only_drew h.1, h.2.drew⟩
theorem Keep.alloc (h : Keep W base e v n xs w) (o : Obj) : Keep W base e v n xs (w.alloc o) :=
  ⟨grownBy_trans h.1 (World.grownBy_alloc w o _), h.2.alloc o⟩
theorem Keep.below (h : Keep W base e v n xs w) (hb : Below w.heap.size w w') : Keep W base e v n xs w' :=
  ⟨grownBy_trans h.1 ⟨hb.os, hb.tape, hb.output, hb.size, fun k hk _ => hb.block k hk⟩, own_below h.2 hb⟩
theorem Keep.app (h : Keep W base e v n xs w) (hg : w.grownBy w' v.ownBlock) (ho : w'.ownsRow base e 1 v n xs) : Keep W base e v n xs w' := ⟨grownBy_trans h.1 hg, ho⟩
theorem Keep.size (h : Keep W base e v n xs w) : W.heap.size ≤ w.heap.size := h.1.size
theorem Keep.rd {B m : Nat} {A : Option Addr} {l : List UInt8} (h : Keep W base e v n xs w) (hr : Rd W B A m l) (hB : B ≤ base) (hW : base ≤ W.heap.size) : Rd w B A m l :=
  hr.keep fun p hp => World.cell?_of_block (h.1.block p.block (by omega) (fun e => by have := (h.2.lt _ e.symm).1; omega))
/-- from the call's beginning: what was there is as it was -/
theorem Keep.end_ {w0 : World} (h : Keep W base e v n xs w) (h0 : Below w0.heap.size w0 W) (hb : w0.heap.size ≤ base) : Below w0.heap.size w0 w :=
  h0.grown h.1 h0.size (fun k hk => by have := (h.2.lt k hk).1; omega)
end
end Go.Proofs.Ytdnmbabofkiiiaa
