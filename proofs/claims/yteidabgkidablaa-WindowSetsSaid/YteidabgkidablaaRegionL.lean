/-
  Words for a region that draws its order, in which several loads may come up at once, all ahead of what changes memory: such a load can be taken first, though its cell is written later. No statement is proved here.
-/
import Derived.Test.YteidabgkidablaaRegion
namespace Go.Proofs.Yteidabgkidablaa
open Go.RowKit

/-- what runs to its end leaves the world as it is -/
def StillS {α : Type} (s : Sem α) : Prop := ∀ (P : Program) (w : World) (v : α) (w' : World), s.run P w = .ok v w' → w' = w
theorem StillS.pure {α : Type} (a : α) : StillS (Pure.pure a : Sem α) := fun _ _ _ _ h => by
  simp only [Sem.run_pure, Result.ok.injEq] at h
  exact h.2.symm
theorem StillS.halt {α : Type} (x : Halt) : StillS (Sem.halt x : Sem α) := fun _ _ _ _ h => by simp [Sem.run] at h
theorem StillS.bind {α β : Type} {s : Sem α} {f : α → Sem β} (h : StillS s) (hf : ∀ a, StillS (f a)) : StillS (s >>= f) := fun P w v w' e => by
  rw [Sem.run_bind] at e
  cases hr : s.run P w with
  | ok a w1 =>
    rw [hr, Result.andThen_ok] at e
    have h1 := h P w a w1 hr
    subst h1
    exact hf a P _ v w' e
  | halt x w1 => rw [hr] at e; cases e
theorem still_load (a : Addr) (m : Mode) : StillS (load a m) := fun P w v w' h => by
  unfold load at h
  simp only [Sem.run] at h
  split at h
  · cases h; rfl
  · split at h
    · cases h; rfl
    · cases h
theorem still_program : StillS program := fun P w v w' h => by
  unfold program at h
  simp only [Sem.run] at h
  cases h
  rfl
theorem still_typeInfo (t : TypeId) : StillS (typeInfo t) := by
  unfold typeInfo
  refine still_program.bind fun p => ?_
  split
  · exact StillS.pure _
  · exact StillS.halt _
theorem still_underlying (t : TypeId) : StillS (underlying t) := by
  unfold underlying
  refine still_program.bind fun p => ?_
  split
  · exact StillS.pure _
  · exact StillS.halt _
theorem still_isAgg (t : TypeId) : StillS (isAgg t) := by
  unfold isAgg
  refine (still_underlying t).bind fun d => ?_
  split <;> exact StillS.pure _
theorem still_loadCellsFrom (a : Addr) : ∀ (n i : Nat) (acc : Array Value), StillS (loadCellsFrom a i n acc)
  | 0, _, _ => StillS.pure _
  | n + 1, _, _ => (still_load _ _).bind fun _ => still_loadCellsFrom a n _ _
theorem still_loadAt (t : TypeId) (v : Value) : StillS (Instr.loadAt t v) := by
  unfold Instr.loadAt
  refine StillS.bind ?_ fun a => ?_
  · unfold Instr.sureAddr
    split
    · exact StillS.pure _
    · exact StillS.halt _
  · unfold loadVar
    refine (still_isAgg t).bind fun b => ?_
    cases b
    · exact still_load _ _
    · exact StillS.bind (s := sizeOf t) (StillS.bind (still_typeInfo t) fun _ => StillS.pure _) fun n => StillS.bind (s := loadCells a n) (still_loadCellsFrom a n 0 _) fun _ => StillS.pure _
def Oper.isLoad (o : Oper) : Bool := match o.op with
  | .load _ _ => true
  | _ => false
theorem still_op {o : Oper} (h : Oper.isLoad o = true) (ev : Operand → Value) (P : Program) (w w' : World) (n : Next) (e : (execOp ev o).run P w = .ok n w') : w' = w := by
  unfold Oper.isLoad at h
  cases ho : o.op <;> rw [ho] at h <;> try cases h
  unfold execOp at e
  simp only [ho] at e
  exact StillS.bind (still_loadAt _ _) (fun _ => StillS.pure _) P w n w' e

section
variable {P : Program} {ops : Array Oper} {Q : Exit → Act → World → Prop} {md : Region.Mode} {S : World → Prop}
theorem wpOp_load {j : Nat} {o : Oper} (hj : ops[j]? = some o) (h : Oper.isLoad o = true) {K : Act → World → Prop} {a : Act} {w : World} (hk : wpOp P ops Q j K a w) : wpOp P ops Q j (fun a' w' => w' = w ∧ K a' w') a w := by
  unfold wpOp at *
  simp only [hj] at *
  split
  · rename_i hw
    simp only [hw, if_true] at hk
    rcases hk with hk | hk
    case inr => exact .inr hk
    refine .inl ?_
    unfold Oper.wp at *
    have st := still_op h a.eval P w
    have hn : ∀ n w', (execOp a.eval o).run P w = .ok n w' → ∃ v, n = .value v := by
      intro n w' e
      unfold Oper.isLoad at h
      cases ho : o.op <;> rw [ho] at h <;> try cases h
      unfold execOp at e
      simp only [ho] at e
      rw [Sem.run_bind] at e
      rename_i ty x
      cases hr : (Instr.loadAt ty (a.eval x)).run P w with
      | ok v w1 =>
        rw [hr, Result.andThen_ok, Sem.run_pure] at e
        cases e
        exact ⟨v, rfl⟩
      | halt x w1 => rw [hr] at e; cases e
    generalize (execOp a.eval o).run P w = r at *
    cases r with
    | ok n w' =>
      obtain ⟨v, rfl⟩ := hn n w' rfl
      have := st w' _ rfl
      subst this
      exact ⟨rfl, hk⟩
    | halt x w' =>
      cases x <;> simp only [Oper.upon] at hk ⊢ <;> exact hk
  · rename_i hw
    simp only [hw] at hk
    exact ⟨trivial, hk⟩
/-- every operation that has not come up, but i and those of R, waits for i or for one that is not of R -/
def waitsL (md : Region.Mode) (ops : Array Oper) (R : List Nat) (i : Nat) (listed : Array Bool) : Bool :=
  (List.range ops.size).all fun j => listed.getD j true || j == i || R.contains j ||
    match ops[j]? with
    | none => true
    | some o => o.after.toList.any fun e => Region.binds md e && (e.on == i || (!(listed.getD e.on false) && !(R.contains e.on)))
theorem waitsL_set {R : List Nat} {i j : Nat} {listed : Array Bool} (hj : R.contains j = true) (h : waitsL md ops R i listed = true) : waitsL md ops R i (listed.setIfInBounds j true) = true := by
  unfold waitsL at *
  rw [List.all_eq_true] at *
  intro k hk
  have h1 := h k hk
  by_cases hjk : j = k
  · subst hjk
    simp only [hj, Bool.or_true, Bool.true_or]
  · rw [getD_set_ne true hjk]
    cases ho : ops[k]? with
    | none => simp
    | some o =>
      rw [ho] at h1
      simp only [Bool.or_eq_true] at h1 ⊢
      refine h1.imp id fun h2 => ?_
      rw [List.any_eq_true] at h2 ⊢
      obtain ⟨e, he, h3⟩ := h2
      refine ⟨e, he, ?_⟩
      simp only [Bool.and_eq_true, Bool.or_eq_true] at h3 ⊢
      refine ⟨h3.1, h3.2.imp id fun h4 => ⟨?_, h4.2⟩⟩
      have hne : j ≠ e.on := fun h5 => by
        have h6 := h4.2
        rw [← h5, hj] at h6
        cases h6
      rw [getD_set_ne false hne]
      exact h4.1
theorem wpAnyH_load {R : List Nat} {i : Nat} {oi : Oper} {v : Value} (hi : ops[i]? = some oi) (hsel : ∀ (j : Nat) (o : Oper) cs b, ops[j]? = some o → o.op ≠ .select cs b)
    (hQ : ∀ c a w, Q (.panic c) (a.put oi.dst v) w → Q (.panic c) a w) (hR : ∀ j ∈ R, ∀ o, ops[j]? = some o → Oper.isLoad o = true) (w : World) (hS : S w) :
    ∀ (fuel : Nat) (listed : Array Bool) (a : Act), waitsL md ops R i listed = true →
      (∀ j oj, ops[j]? = some oj → j ≠ i → listed.getD j true = false → (∀ e ∈ oj.after, Region.binds md e = true → e.on ≠ i) → oi.apart ops oj = true) →
      i ∈ Region.ready md ops listed → YieldsIf P ops (fun w' => w' = w) oi v a →
      wpAnyH P md ops Q S fuel (listed.setIfInBounds i true) (a.put oi.dst v) w → wpAnyH P md ops Q S (fuel + 1) listed a w := by
  intro fuel
  induction fuel with
  | zero =>
    intro listed a hwt _ hr hy H
    refine ⟨fun h => (by rw [h] at hr; cases hr), fun j hj => ?_⟩
    by_cases hji : j = i
    · subst hji; exact hy.wpOp hi rfl ⟨hS, H⟩
    · have := ready_mono hj hji
      rw [H.1] at this
      cases this
  | succ fuel ih =>
    intro listed a hwt hfree hr hy H
    refine ⟨fun h => (by rw [h] at hr; cases hr), fun j hj => ?_⟩
    by_cases hji : j = i
    · subst hji; exact hy.wpOp hi rfl ⟨hS, H⟩
    · have h1 := H.2 j (ready_mono hj hji)
      obtain ⟨hjun, oj, hoj, hall⟩ := mem_ready.1 hj
      have hnot : ∀ e ∈ oj.after, Region.binds md e = true → e.on ≠ i := fun e he hb heq => by
        have h1 := hall e he hb
        have h0 := (mem_ready.1 hr).1
        rw [heq] at h1
        rcases Nat.lt_or_ge i listed.size with h' | h'
        · simp [h'] at h0 h1; rw [h0] at h1; cases h1
        · simp [Array.getElem?_eq_none h'] at h1
      have hjR : R.contains j = true := by
        have hjs : j < ops.size := by
          rcases Nat.lt_or_ge j ops.size with h' | h'
          · exact h'
          · rw [Array.getElem?_eq_none h'] at hoj; cases hoj
        have h0 := List.all_eq_true.1 hwt j (List.mem_range.2 hjs)
        rw [hoj, hjun] at h0
        simp only [Bool.or_eq_true, Bool.false_eq_true, false_or, beq_iff_eq] at h0
        rcases h0 with (h0 | h0) | h0
        · exact absurd h0 hji
        · exact h0
        · exfalso
          rw [List.any_eq_true] at h0
          obtain ⟨e, he, h3⟩ := h0
          simp only [Bool.and_eq_true, Bool.or_eq_true, beq_iff_eq] at h3
          have he' : e ∈ oj.after := by simpa using he
          rcases h3.2 with h4 | h4
          · exact hnot e he' h3.1 h4
          · rw [hall e he' h3.1] at h4
            simp at h4
      have h2 := wpOp_load hoj (hR j (by simpa using hjR) oj hoj) (wpOp_putIf hoj (hfree j oj hoj hji hjun hnot) (fun cs b => hsel i oi cs b hi) (fun cs b => hsel j oj cs b hoj) hQ hy h1)
      have hfree' : ∀ k ok, ops[k]? = some ok → k ≠ i → (listed.setIfInBounds j true).getD k true = false →
          (∀ e ∈ ok.after, Region.binds md e = true → e.on ≠ i) → oi.apart ops ok = true := fun k ok hk hki hun hno => by
        refine hfree k ok hk hki ?_ hno
        by_cases hjk : j = k
        · subst hjk; exact hjun
        · rw [getD_set_ne true hjk] at hun; exact hun
      refine wpOp_mono (fun a' w' h3 => ?_) h2
      obtain ⟨rfl, h4, h5, h6⟩ := h3
      refine ⟨h5, ih (listed.setIfInBounds j true) a' (waitsL_set hjR hwt) hfree' (ready_mono hr (Ne.symm hji)) h4 ?_⟩
      rw [Array.setIfInBounds_comm _ _ hji]
      exact h6
/-- a load may be taken first, if all that may come up ahead of it are loads (R) -/
theorem take_load {r : List Oper} {oi : Oper} {v : Value} {fuel : Nat} {listed : Array Bool} {a : Act} {w : World} (R : List Nat) (i : Nat) (hi : ops.toList.drop i = oi :: r)
    (hs : Region.noSelect ops = true) (hf : Region.free md ops listed i = true) (hr : (Region.ready md ops listed).contains i = true) (hR : (R.all fun j => (ops[j]?).all Oper.isLoad) = true) (hw : waitsL md ops R i listed = true)
    (hQ : ∀ c a w, Q (.panic c) (a.put oi.dst v) w → Q (.panic c) a w) (hy : YieldsIf P ops (fun w' => w' = w) oi v a) (hS : S w)
    (h : wpAnyH P md ops Q S fuel (listed.setIfInBounds i true) (a.put oi.dst v) w) : wpAnyH P md ops Q S (fuel + 1) listed a w :=
  wpAnyH_load (getElem?_of_drop hi) (Region.noSelect_spec hs) hQ (fun j hj o ho => by have := List.all_eq_true.1 hR j hj; rw [ho] at this; exact this) w hS fuel listed a hw (Region.free_spec (getElem?_of_drop hi) hf) (by simpa using hr) hy h
end
end Go.Proofs.Yteidabgkidablaa
