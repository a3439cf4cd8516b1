/-
  The contract of the reference's Number. Words for a region that draws its order, in which several loads may come up at once, all ahead of what changes memory: such a load can be taken first, though its cell is written later. The contract of the reference's Split. The contract of the reference's group. Addresses, endpoints and prefixes are recovered from their texts. No function of the program is named here. Parts of a text, each behind a byte; how long the text of an address is. The contract of the reference's FormatAddr. The contracts of the reference's FormatEndpoint and FormatPrefix. An address with another byte. The contract of the reference's four. No statement is proved here.
-/
import Derived.Deep.DeepCutAuto
import Derived.Lib.Strings
import Derived.Laws.Concat
import Derived.Test.YtkhghmmgegkiiaaGreatDoorConfigAddressesB2
namespace Go.Proofs.YtkhghmmgegkiiaaGreatDoor
open Go.RowKit

theorem numV_take (l : List UInt8) (j : Nat) (h : j < l.length) : numV (l.take (j + 1)) = 10 * numV (l.take j) + ((l.getD j 0).toNat - 48) := by
  rw [List.take_add_one, List.getElem?_eq_getElem h, Option.toList_some, numV_snoc, List.getD_eq_getElem?_getD, List.getElem?_eq_getElem h]
  rfl
theorem all_take (p : UInt8 → Bool) (l : List UInt8) (j : Nat) (h : j < l.length) : (l.take (j + 1)).all p = ((l.take j).all p && p (l.getD j 0)) := by
  rw [List.take_add_one, List.getElem?_eq_getElem h, Option.toList_some, List.all_append, List.getD_eq_getElem?_getD, List.getElem?_eq_getElem h]
  simp
theorem numV_lt (l : List UInt8) (h : l.all isDig = true) : numV l < 10 ^ l.length := by
  have : ∀ (l : List UInt8) (a : Nat), l.all isDig = true → l.foldl (fun n c => 10 * n + (c.toNat - 48)) a < (a + 1) * 10 ^ l.length := by
    intro l
    induction l with
    | nil => intro a _; simp
    | cons c r ih =>
      intro a hr
      rw [List.all_cons, Bool.and_eq_true] at hr
      have hc := of_decide_eq_true hr.1
      have h1 := ih (10 * a + (c.toNat - 48)) hr.2
      rw [List.foldl_cons, List.length_cons, Nat.pow_succ]
      refine Nat.lt_of_lt_of_le h1 ?_
      have h2 : 10 * a + (c.toNat - 48) + 1 ≤ (a + 1) * 10 := by omega
      calc _ ≤ (a + 1) * 10 * 10 ^ r.length := Nat.mul_le_mul_right _ h2
        _ = (a + 1) * (10 ^ r.length * 10) := by rw [Nat.mul_assoc, Nat.mul_comm 10]
  have h2 := this l 0 h
  rw [Nat.zero_add, Nat.one_mul] at h2
  exact h2
set_option maxRecDepth 100000 in
set_option maxHeartbeats 4000000 in
theorem refNumberT_any (l : List UInt8) (most : Nat) (hm : most ≤ 18) (hl : l.length ≤ 1000000) (w : World) :
    Calls Tryz.prog 81 #[.string ⟨l.toArray⟩, .int .i64 (most : Int)] w fun e w' => e = .returned (.tuple #[.int .i64 ((numP l most).1 : Int), .bool (numP l most).2]) ∧ w = w' := by
  obtain ⟨S, hS⟩ : ∃ S : ByteArray, ⟨l.toArray⟩ = S := ⟨_, rfl⟩
  have hsz : S.size = l.length := by rw [← hS]; simp [ByteArray.size]
  have hat : ∀ i (h : i < S.size), S[i] = l.getD i 0 := by
    intro i h
    subst hS
    have hi : i < l.length := by simpa [ByteArray.size] using h
    rw [getD_lt hi]
    rfl
  rw [hS]
  have HAT := Lib.hid hat
  have HZ := Lib.hid hsz
  have hS6 : S.size ≤ 1000000 := by omega
  clear hS hat
  by_cases h0 : S.size = 0
  · have hv : numP l most = (0, false) := by rw [numP, if_neg]; rintro ⟨⟨h, _⟩, _⟩; omega
    rw [hv]
    clear hsz hv
    go_enter Tryz.func81, Tryz.ntmps81
    go_wp2
    go_ret2
    exact ⟨rfl, rfl⟩
  by_cases h1 : most < S.size
  · have hv : numP l most = (0, false) := by rw [numP, if_neg]; rintro ⟨⟨_, h, _⟩, _⟩; omega
    rw [hv]
    clear hsz hv
    go_enter Tryz.func81, Tryz.ntmps81
    go_wp2
    go_ret2
    exact ⟨rfl, rfl⟩
  obtain ⟨c0, hc0⟩ : ∃ c, l.getD 0 0 = c := ⟨_, rfl⟩
  have hI0 : ∀ h, S[0]'h = c0 := fun h => by rw [HAT.out, hc0]
  by_cases h2 : 1 < S.size ∧ c0 = 48
  · have hv : numP l most = (0, false) := by rw [numP, if_neg]; rintro ⟨⟨_, _, h⟩, _⟩; exact h ⟨by omega, by rw [hc0]; exact h2.2⟩
    rw [hv]
    obtain ⟨h2, rfl⟩ := h2
    clear hsz hv hc0
    go_enter Tryz.func81, Tryz.ntmps81
    go_wp2
    go_ret2
    exact ⟨rfl, rfl⟩
  have hv : numP l most = if l.all isDig = true then (numV l, true) else (0, false) := by
    rw [numP]
    by_cases ha : l.all isDig = true
    · rw [if_pos ⟨⟨by omega, by omega, by rw [hc0]; intro h; exact h2 ⟨by omega, h.2⟩⟩, ha⟩, if_pos ha]
    · rw [if_neg (fun h => ha h.2), if_neg ha]
  have HV := Lib.hid hv
  have hc48 : 1 < S.size → ¬ (c0.toNat : Int) = 48 := fun h e => h2 ⟨h, UInt8.toNat_inj.1 (show c0.toNat = (48 : UInt8).toNat from by have : (48 : UInt8).toNat = 48 := rfl; omega)⟩
  have HC48 := Lib.hid hc48
  clear hv hc0 h2 hc48
  have hz0 : ((S.size : Int) == 0) = false := by rw [beq_eq_false_iff_ne]; omega
  by_cases h3 : 1 < S.size
  · have hcc : ((c0.toNat : Int) == 48) = false := by rw [beq_eq_false_iff_ne]; exact HC48.out h3
    clear HC48 hsz
    go_enter Tryz.func81, Tryz.ntmps81
    go_wp2_with fail
    go_loopw [6, 7] (fun v i wr => ∃ j : Nat, j ≤ S.size ∧ i = .int .i64 (j : Int) ∧ v = .int .i64 ((numV (l.take j) : Nat) : Int) ∧ Hid ((l.take j).all isDig = true) ∧ w = wr) (fun _ i _ => S.size - (intOf i).toNat)
    case atStart => exact ⟨0, by omega, rfl, rfl, Lib.hid rfl, rfl⟩
    case round =>
      obtain ⟨j, hj, rfl, rfl, hall, rfl⟩ := hrel
      by_cases hlt : j < S.size
      · obtain ⟨c, hc⟩ : ∃ c, l.getD j 0 = c := ⟨_, rfl⟩
        have hI : ∀ h, S[(j : Int).toNat]'h = c := fun h => by rw [HAT.out, ← hc]; congr 1
        have hI' : ∀ h, S[j]'h = c := fun h => by rw [HAT.out, ← hc]
        have hb := c.toNat_lt
        by_cases d1 : c.toNat < 48
        · have hno : ¬ l.all isDig = true := fun ha => by
            have := List.all_eq_true.1 ha c (by rw [← hc, List.getD_eq_getElem?_getD, List.getElem?_eq_getElem (by have := HZ.out; omega)]; exact List.getElem_mem _)
            have := of_decide_eq_true this
            omega
          have HNO := Lib.hid hno
          clear hno hc
          go_wp2
          go_ret2
          exact ⟨by rw [HV.out, if_neg HNO.out]; rfl, rfl⟩
        by_cases d2 : 57 < c.toNat
        · have hno : ¬ l.all isDig = true := fun ha => by
            have := List.all_eq_true.1 ha c (by rw [← hc, List.getD_eq_getElem?_getD, List.getElem?_eq_getElem (by have := HZ.out; omega)]; exact List.getElem_mem _)
            have := of_decide_eq_true this
            omega
          have HNO := Lib.hid hno
          clear hno hc
          go_wp2
          go_ret2
          exact ⟨by rw [HV.out, if_neg HNO.out]; rfl, rfl⟩
        have hlj : j < l.length := by have := HZ.out; omega
        have HN := Lib.hid (show numV (l.take (j + 1)) = 10 * numV (l.take j) + (c.toNat - 48) from by rw [numV_take l j hlj, hc])
        have hnx : (l.take (j + 1)).all isDig = true := by
          rw [all_take isDig l j hlj, hall.out, hc, Bool.true_and]
          exact decide_eq_true ⟨by omega, by omega⟩
        have HA := Lib.hid hnx
        have hbig : numV (l.take j) < 100000000000000000 := by
          have h9 := numV_lt _ hall.out
          have : 10 ^ (l.take j).length ≤ 10 ^ 17 := Nat.pow_le_pow_right (by omega) (by rw [List.length_take]; have := HZ.out; omega)
          omega
        obtain ⟨q, hq⟩ : ∃ z, numV (l.take j) = z := ⟨_, rfl⟩
        rw [hq] at HN hbig ⊢
        have w1 : IntKind.u8.wrap ((c.toNat : Int) - 48) = (c.toNat : Int) - 48 := by rw [IntKind.wrap_u8']; omega
        have w2 : IntKind.i64.wrap (10 * (q : Int)) = 10 * (q : Int) := IntWalk.i64_in _ (by omega)
        have w3 : IntKind.i64.wrap ((c.toNat : Int) - 48) = (c.toNat : Int) - 48 := IntWalk.i64_in _ (by omega)
        have w4 : IntKind.i64.wrap (10 * (q : Int) + ((c.toNat : Int) - 48)) = 10 * (q : Int) + ((c.toNat : Int) - 48) := IntWalk.i64_in _ (by omega)
        obtain ⟨k, hk⟩ : ∃ z, c.toNat - 48 = z := ⟨_, rfl⟩
        have hck : (c.toNat : Int) - 48 = (k : Int) := by omega
        rw [hck] at w1 w3 w4
        rw [hk] at HN
        obtain ⟨z, hz⟩ : ∃ z, 10 * q + k = z := ⟨_, rfl⟩
        have hcs : 10 * (q : Int) + (k : Int) = (z : Int) := by omega
        rw [hcs] at w4
        rw [hz] at HN
        clear hc hnx hq hz hk
        go_wp2
        go_roundw
        case rel => exact ⟨j + 1, by omega, by go_num, by rw [HN.out], HA, by first | rfl | trivial⟩
        case measure => simp [intOf]; omega
      · have hje : l.take j = l := List.take_of_length_le (by have := HZ.out; omega)
        have HE := Lib.hid hje
        clear hje
        go_wp2
        go_ret2
        exact ⟨by rw [HV.out, if_pos (by have := hall.out; rwa [HE.out] at this), HE.out]; rfl, rfl⟩
  · clear HC48 hsz
    go_enter Tryz.func81, Tryz.ntmps81
    go_wp2_with fail
    go_loopw [6, 7] (fun v i wr => ∃ j : Nat, j ≤ S.size ∧ i = .int .i64 (j : Int) ∧ v = .int .i64 ((numV (l.take j) : Nat) : Int) ∧ Hid ((l.take j).all isDig = true) ∧ w = wr) (fun _ i _ => S.size - (intOf i).toNat)
    case atStart => exact ⟨0, by omega, rfl, rfl, Lib.hid rfl, rfl⟩
    case round =>
      obtain ⟨j, hj, rfl, rfl, hall, rfl⟩ := hrel
      by_cases hlt : j < S.size
      · obtain ⟨c, hc⟩ : ∃ c, l.getD j 0 = c := ⟨_, rfl⟩
        have hI : ∀ h, S[(j : Int).toNat]'h = c := fun h => by rw [HAT.out, ← hc]; congr 1
        have hI' : ∀ h, S[j]'h = c := fun h => by rw [HAT.out, ← hc]
        have hb := c.toNat_lt
        by_cases d1 : c.toNat < 48
        · have hno : ¬ l.all isDig = true := fun ha => by
            have := List.all_eq_true.1 ha c (by rw [← hc, List.getD_eq_getElem?_getD, List.getElem?_eq_getElem (by have := HZ.out; omega)]; exact List.getElem_mem _)
            have := of_decide_eq_true this
            omega
          have HNO := Lib.hid hno
          clear hno hc
          go_wp2
          go_ret2
          exact ⟨by rw [HV.out, if_neg HNO.out]; rfl, rfl⟩
        by_cases d2 : 57 < c.toNat
        · have hno : ¬ l.all isDig = true := fun ha => by
            have := List.all_eq_true.1 ha c (by rw [← hc, List.getD_eq_getElem?_getD, List.getElem?_eq_getElem (by have := HZ.out; omega)]; exact List.getElem_mem _)
            have := of_decide_eq_true this
            omega
          have HNO := Lib.hid hno
          clear hno hc
          go_wp2
          go_ret2
          exact ⟨by rw [HV.out, if_neg HNO.out]; rfl, rfl⟩
        have hlj : j < l.length := by have := HZ.out; omega
        have HN := Lib.hid (show numV (l.take (j + 1)) = 10 * numV (l.take j) + (c.toNat - 48) from by rw [numV_take l j hlj, hc])
        have hnx : (l.take (j + 1)).all isDig = true := by
          rw [all_take isDig l j hlj, hall.out, hc, Bool.true_and]
          exact decide_eq_true ⟨by omega, by omega⟩
        have HA := Lib.hid hnx
        have hbig : numV (l.take j) < 100000000000000000 := by
          have h9 := numV_lt _ hall.out
          have : 10 ^ (l.take j).length ≤ 10 ^ 17 := Nat.pow_le_pow_right (by omega) (by rw [List.length_take]; have := HZ.out; omega)
          omega
        obtain ⟨q, hq⟩ : ∃ z, numV (l.take j) = z := ⟨_, rfl⟩
        rw [hq] at HN hbig ⊢
        have w1 : IntKind.u8.wrap ((c.toNat : Int) - 48) = (c.toNat : Int) - 48 := by rw [IntKind.wrap_u8']; omega
        have w2 : IntKind.i64.wrap (10 * (q : Int)) = 10 * (q : Int) := IntWalk.i64_in _ (by omega)
        have w3 : IntKind.i64.wrap ((c.toNat : Int) - 48) = (c.toNat : Int) - 48 := IntWalk.i64_in _ (by omega)
        have w4 : IntKind.i64.wrap (10 * (q : Int) + ((c.toNat : Int) - 48)) = 10 * (q : Int) + ((c.toNat : Int) - 48) := IntWalk.i64_in _ (by omega)
        obtain ⟨k, hk⟩ : ∃ z, c.toNat - 48 = z := ⟨_, rfl⟩
        have hck : (c.toNat : Int) - 48 = (k : Int) := by omega
        rw [hck] at w1 w3 w4
        rw [hk] at HN
        obtain ⟨z, hz⟩ : ∃ z, 10 * q + k = z := ⟨_, rfl⟩
        have hcs : 10 * (q : Int) + (k : Int) = (z : Int) := by omega
        rw [hcs] at w4
        rw [hz] at HN
        clear hc hnx hq hz hk
        go_wp2
        go_roundw
        case rel => exact ⟨j + 1, by omega, by go_num, by rw [HN.out], HA, by first | rfl | trivial⟩
        case measure => simp [intOf]; omega
      · have hje : l.take j = l := List.take_of_length_le (by have := HZ.out; omega)
        have HE := Lib.hid hje
        clear hje
        go_wp2
        go_ret2
        exact ⟨by rw [HV.out, if_pos (by have := hall.out; rwa [HE.out] at this), HE.out]; rfl, rfl⟩
end Go.Proofs.YtkhghmmgegkiiaaGreatDoor
namespace Go.Proofs.YtkhghmmgegkiiaaGreatDoor
open Go.RowKit

/-- what runs to its end leaves the world as it is -/
def StillS {α : Type} (s : Sem α) : Prop := ∀ (P : Program) (w : World) (v : α) (w' : World), s.run P w = .ok v w' → w' = w
theorem StillS.pure {α : Type} (a : α) : StillS (Pure.pure a : Sem α) := fun _ _ _ _ h => by
  simp only [Sem.run_pure, Result.ok.injEq] at h
  exact h.2.symm
theorem StillS.halt {α : Type} (x : Halt) : StillS (Sem.halt x : Sem α) := fun _ _ _ _ h => by simp [Sem.run] at h
theorem StillS.bind {α β : Type} {s : Sem α} {f : α → Sem β} (h : StillS s) (hf : ∀ a, StillS (f a)) : StillS (s >>= f) := fun P w v w' e => by
  rw [Sem.run_bind] at e
  cases hr : s.run P w with
  | ok a w1 =>
    rw [hr, Result.andThen_ok] at e
    have h1 := h P w a w1 hr
    subst h1
    exact hf a P _ v w' e
  | halt x w1 => rw [hr] at e; cases e
theorem still_load (a : Addr) (m : Mode) : StillS (load a m) := fun P w v w' h => by
  unfold load at h
  simp only [Sem.run] at h
  split at h
  · cases h; rfl
  · split at h
    · cases h; rfl
    · cases h
theorem still_program : StillS program := fun P w v w' h => by
  unfold program at h
  simp only [Sem.run] at h
  cases h
  rfl
theorem still_typeInfo (t : TypeId) : StillS (typeInfo t) := by
  unfold typeInfo
  refine still_program.bind fun p => ?_
  split
  · exact StillS.pure _
  · exact StillS.halt _
theorem still_underlying (t : TypeId) : StillS (underlying t) := by
  unfold underlying
  refine still_program.bind fun p => ?_
  split
  · exact StillS.pure _
  · exact StillS.halt _
theorem still_isAgg (t : TypeId) : StillS (isAgg t) := by
  unfold isAgg
  refine (still_underlying t).bind fun d => ?_
  split <;> exact StillS.pure _
theorem still_loadCellsFrom (a : Addr) : ∀ (n i : Nat) (acc : Array Value), StillS (loadCellsFrom a i n acc)
  | 0, _, _ => StillS.pure _
  | n + 1, _, _ => (still_load _ _).bind fun _ => still_loadCellsFrom a n _ _
theorem still_loadAt (t : TypeId) (v : Value) : StillS (Instr.loadAt t v) := by
  unfold Instr.loadAt
  refine StillS.bind ?_ fun a => ?_
  · unfold Instr.sureAddr
    split
    · exact StillS.pure _
    · exact StillS.halt _
  · unfold loadVar
    refine (still_isAgg t).bind fun b => ?_
    cases b
    · exact still_load _ _
    · exact StillS.bind (s := sizeOf t) (StillS.bind (still_typeInfo t) fun _ => StillS.pure _) fun n => StillS.bind (s := loadCells a n) (still_loadCellsFrom a n 0 _) fun _ => StillS.pure _
def Oper.isLoad (o : Oper) : Bool := match o.op with
  | .load _ _ => true
  | _ => false
theorem still_op {o : Oper} (h : Oper.isLoad o = true) (ev : Operand → Value) (P : Program) (w w' : World) (n : Next) (e : (execOp ev o).run P w = .ok n w') : w' = w := by
  unfold Oper.isLoad at h
  cases ho : o.op <;> rw [ho] at h <;> try cases h
  unfold execOp at e
  simp only [ho] at e
  exact StillS.bind (still_loadAt _ _) (fun _ => StillS.pure _) P w n w' e

section
variable {P : Program} {ops : Array Oper} {Q : Exit → Act → World → Prop} {md : Region.Mode} {S : World → Prop}
theorem wpOp_load {j : Nat} {o : Oper} (hj : ops[j]? = some o) (h : Oper.isLoad o = true) {K : Act → World → Prop} {a : Act} {w : World} (hk : wpOp P ops Q j K a w) : wpOp P ops Q j (fun a' w' => w' = w ∧ K a' w') a w := by
  unfold wpOp at *
  simp only [hj] at *
  split
  · rename_i hw
    simp only [hw, if_true] at hk
    rcases hk with hk | hk
    case inr => exact .inr hk
    refine .inl ?_
    unfold Oper.wp at *
    have st := still_op h a.eval P w
    have hn : ∀ n w', (execOp a.eval o).run P w = .ok n w' → ∃ v, n = .value v := by
      intro n w' e
      unfold Oper.isLoad at h
      cases ho : o.op <;> rw [ho] at h <;> try cases h
      unfold execOp at e
      simp only [ho] at e
      rw [Sem.run_bind] at e
      rename_i ty x
      cases hr : (Instr.loadAt ty (a.eval x)).run P w with
      | ok v w1 =>
        rw [hr, Result.andThen_ok, Sem.run_pure] at e
        cases e
        exact ⟨v, rfl⟩
      | halt x w1 => rw [hr] at e; cases e
    generalize (execOp a.eval o).run P w = r at *
    cases r with
    | ok n w' =>
      obtain ⟨v, rfl⟩ := hn n w' rfl
      have := st w' _ rfl
      subst this
      exact ⟨rfl, hk⟩
    | halt x w' =>
      cases x <;> simp only [Oper.upon] at hk ⊢ <;> exact hk
  · rename_i hw
    simp only [hw] at hk
    exact ⟨trivial, hk⟩
/-- every operation that has not come up, but i and those of R, waits for i or for one that is not of R -/
def waitsL (md : Region.Mode) (ops : Array Oper) (R : List Nat) (i : Nat) (listed : Array Bool) : Bool :=
  (List.range ops.size).all fun j => listed.getD j true || j == i || R.contains j ||
    match ops[j]? with
    | none => true
    | some o => o.after.toList.any fun e => Region.binds md e && (e.on == i || (!(listed.getD e.on false) && !(R.contains e.on)))
theorem waitsL_set {R : List Nat} {i j : Nat} {listed : Array Bool} (hj : R.contains j = true) (h : waitsL md ops R i listed = true) : waitsL md ops R i (listed.setIfInBounds j true) = true := by
  unfold waitsL at *
  rw [List.all_eq_true] at *
  intro k hk
  have h1 := h k hk
  by_cases hjk : j = k
  · subst hjk
    simp only [hj, Bool.or_true, Bool.true_or]
  · rw [getD_set_ne true hjk]
    cases ho : ops[k]? with
    | none => simp
    | some o =>
      rw [ho] at h1
      simp only [Bool.or_eq_true] at h1 ⊢
      refine h1.imp id fun h2 => ?_
      rw [List.any_eq_true] at h2 ⊢
      obtain ⟨e, he, h3⟩ := h2
      refine ⟨e, he, ?_⟩
      simp only [Bool.and_eq_true, Bool.or_eq_true] at h3 ⊢
      refine ⟨h3.1, h3.2.imp id fun h4 => ⟨?_, h4.2⟩⟩
      have hne : j ≠ e.on := fun h5 => by
        have h6 := h4.2
        rw [← h5, hj] at h6
        cases h6
      rw [getD_set_ne false hne]
      exact h4.1
theorem wpAnyH_load {R : List Nat} {i : Nat} {oi : Oper} {v : Value} (hi : ops[i]? = some oi) (hsel : ∀ (j : Nat) (o : Oper) cs b, ops[j]? = some o → o.op ≠ .select cs b)
    (hQ : ∀ c a w, Q (.panic c) (a.put oi.dst v) w → Q (.panic c) a w) (hR : ∀ j ∈ R, ∀ o, ops[j]? = some o → Oper.isLoad o = true) (w : World) (hS : S w) :
    ∀ (fuel : Nat) (listed : Array Bool) (a : Act), waitsL md ops R i listed = true →
      (∀ j oj, ops[j]? = some oj → j ≠ i → listed.getD j true = false → (∀ e ∈ oj.after, Region.binds md e = true → e.on ≠ i) → oi.apart ops oj = true) →
      i ∈ Region.ready md ops listed → YieldsIf P ops (fun w' => w' = w) oi v a →
      wpAnyH P md ops Q S fuel (listed.setIfInBounds i true) (a.put oi.dst v) w → wpAnyH P md ops Q S (fuel + 1) listed a w := by
  intro fuel
  induction fuel with
  | zero =>
    intro listed a hwt _ hr hy H
    refine ⟨fun h => (by rw [h] at hr; cases hr), fun j hj => ?_⟩
    by_cases hji : j = i
    · subst hji; exact hy.wpOp hi rfl ⟨hS, H⟩
    · have := ready_mono hj hji
      rw [H.1] at this
      cases this
  | succ fuel ih =>
    intro listed a hwt hfree hr hy H
    refine ⟨fun h => (by rw [h] at hr; cases hr), fun j hj => ?_⟩
    by_cases hji : j = i
    · subst hji; exact hy.wpOp hi rfl ⟨hS, H⟩
    · have h1 := H.2 j (ready_mono hj hji)
      obtain ⟨hjun, oj, hoj, hall⟩ := mem_ready.1 hj
      have hnot : ∀ e ∈ oj.after, Region.binds md e = true → e.on ≠ i := fun e he hb heq => by
        have h1 := hall e he hb
        have h0 := (mem_ready.1 hr).1
        rw [heq] at h1
        rcases Nat.lt_or_ge i listed.size with h' | h'
        · simp [h'] at h0 h1; rw [h0] at h1; cases h1
        · simp [Array.getElem?_eq_none h'] at h1
      have hjR : R.contains j = true := by
        have hjs : j < ops.size := by
          rcases Nat.lt_or_ge j ops.size with h' | h'
          · exact h'
          · rw [Array.getElem?_eq_none h'] at hoj; cases hoj
        have h0 := List.all_eq_true.1 hwt j (List.mem_range.2 hjs)
        rw [hoj, hjun] at h0
        simp only [Bool.or_eq_true, Bool.false_eq_true, false_or, beq_iff_eq] at h0
        rcases h0 with (h0 | h0) | h0
        · exact absurd h0 hji
        · exact h0
        · exfalso
          rw [List.any_eq_true] at h0
          obtain ⟨e, he, h3⟩ := h0
          simp only [Bool.and_eq_true, Bool.or_eq_true, beq_iff_eq] at h3
          have he' : e ∈ oj.after := by simpa using he
          rcases h3.2 with h4 | h4
          · exact hnot e he' h3.1 h4
          · rw [hall e he' h3.1] at h4
            simp at h4
      have h2 := wpOp_load hoj (hR j (by simpa using hjR) oj hoj) (wpOp_putIf hoj (hfree j oj hoj hji hjun hnot) (fun cs b => hsel i oi cs b hi) (fun cs b => hsel j oj cs b hoj) hQ hy h1)
      have hfree' : ∀ k ok, ops[k]? = some ok → k ≠ i → (listed.setIfInBounds j true).getD k true = false →
          (∀ e ∈ ok.after, Region.binds md e = true → e.on ≠ i) → oi.apart ops ok = true := fun k ok hk hki hun hno => by
        refine hfree k ok hk hki ?_ hno
        by_cases hjk : j = k
        · subst hjk; exact hjun
        · rw [getD_set_ne true hjk] at hun; exact hun
      refine wpOp_mono (fun a' w' h3 => ?_) h2
      obtain ⟨rfl, h4, h5, h6⟩ := h3
      refine ⟨h5, ih (listed.setIfInBounds j true) a' (waitsL_set hjR hwt) hfree' (ready_mono hr (Ne.symm hji)) h4 ?_⟩
      rw [Array.setIfInBounds_comm _ _ hji]
      exact h6
/-- a load may be taken first, if all that may come up ahead of it are loads (R) -/
theorem take_load {r : List Oper} {oi : Oper} {v : Value} {fuel : Nat} {listed : Array Bool} {a : Act} {w : World} (R : List Nat) (i : Nat) (hi : ops.toList.drop i = oi :: r)
    (hs : Region.noSelect ops = true) (hf : Region.free md ops listed i = true) (hr : (Region.ready md ops listed).contains i = true) (hR : (R.all fun j => (ops[j]?).all Oper.isLoad) = true) (hw : waitsL md ops R i listed = true)
    (hQ : ∀ c a w, Q (.panic c) (a.put oi.dst v) w → Q (.panic c) a w) (hy : YieldsIf P ops (fun w' => w' = w) oi v a) (hS : S w)
    (h : wpAnyH P md ops Q S fuel (listed.setIfInBounds i true) (a.put oi.dst v) w) : wpAnyH P md ops Q S (fuel + 1) listed a w :=
  wpAnyH_load (getElem?_of_drop hi) (Region.noSelect_spec hs) hQ (fun j hj o ho => by have := List.all_eq_true.1 hR j hj; rw [ho] at this; exact this) w hS fuel listed a hw (Region.free_spec (getElem?_of_drop hi) hf) (by simpa using hr) hy h
end
end Go.Proofs.YtkhghmmgegkiiaaGreatDoor
namespace Go.Proofs.YtkhghmmgegkiiaaGreatDoor
open Go.RowKit

/-- a text as a value -/
def strV (l : List UInt8) : Value := .string ⟨l.toArray⟩
theorem own_set {w : World} {base e n c g : Nat} {xs : List Value} (h : w.ownsRow base e 1 (.slice (some ⟨g, 0, none⟩) n c) n xs) (i : Nat) (u : Value) : (w.setCell ⟨g, i, none⟩ u).ownsRow base e 1 (.slice (some ⟨g, 0, none⟩) n c) n (xs.set i u) := by
  refine ⟨by rw [List.length_set]; exact h.1, ?_⟩
  rcases h.2 with ⟨h', _⟩ | ⟨g', cap', cur, h', hbg, hg, h1, h2, h3, h4⟩
  · simp at h'
  · simp only [Value.slice.injEq, Option.some.injEq, Addr.mk.injEq, and_true, true_and] at h'
    obtain ⟨rfl, rfl⟩ := h'
    exact .inr ⟨g, c, cur.setIfInBounds i u, rfl, hbg, by simp [World.setCell, Array.getElem?_modify, hg], h1, h2, by simpa using h3, by rw [Array.toList_setIfInBounds, List.take_set, h4]⟩
theorem own_ge {w : World} {base e n c g : Nat} {xs : List Value} (h : w.ownsRow base e 1 (.slice (some ⟨g, 0, none⟩) n c) n xs) : base ≤ g := by
  rcases h.2 with ⟨h', _⟩ | ⟨g', cap', cur, h', hbg, _⟩
  · simp at h'
  · simp only [Value.slice.injEq, Option.some.injEq, Addr.mk.injEq, and_true, true_and] at h'
    rw [h'.1]; exact hbg
theorem own_blk {w : World} {base e n c g : Nat} {xs : List Value} (h : w.ownsRow base e 1 (.slice (some ⟨g, 0, none⟩) n c) n xs) : ∃ cs, Blk w g e cs := by
  rcases h.2 with ⟨h', _⟩ | ⟨g', cap', cur, h', hbg, hg, h1, h2, h3, h4⟩
  · simp at h'
  · simp only [Value.slice.injEq, Option.some.injEq, Addr.mk.injEq, and_true, true_and] at h'
    obtain ⟨rfl, rfl⟩ := h'
    exact ⟨cur.toList, by unfold Blk; simpa using hg⟩
theorem text_cut (S : ByteArray) (l : List UInt8) (hat : ∀ i (h : i < S.size), S[i] = l.getD i 0) (i : Nat) (hi : i < S.size) : S.extract i (i + 1) = ⟨#[l.getD i 0]⟩ := by
  apply Go.WideShapes.bytes_inj
  rw [Lib.extract_data]
  have hi' : i < S.data.toList.length := by rw [Array.length_toList]; exact hi
  have h := hat i hi
  rw [← h]
  show ((S.data.toList.drop i).take (i + 1 - i)) = [S.data[i]'hi]
  rw [show i + 1 - i = 1 from by omega, List.drop_eq_getElem_cons hi']
  rfl
set_option maxRecDepth 100000 in
set_option maxHeartbeats 4000000 in
theorem refSplit_any (l : List UInt8) (c : UInt8) (hl : l.length ≤ 100000) (w : World) :
    Calls Tryz.prog 77 #[.string ⟨l.toArray⟩, .int .u8 (c.toNat : Int)] w fun e w' => ∃ A k, e = .returned (.slice A (splitB c l).length k) ∧ w'.ownsRow w.heap.size 9 1 (.slice A (splitB c l).length k) (splitB c l).length ((splitB c l).map strV) ∧ Below w.heap.size w w' := by
  obtain ⟨i0, hti, hz0, hz1, hz2⟩ := info_parts (P := Tryz.prog) (e := 9) (z := .string ⟨#[]⟩) (size := 1) (bytes := 16) (by kernel_rfl)
  obtain ⟨S, hS⟩ : ∃ S : ByteArray, ⟨l.toArray⟩ = S := ⟨_, rfl⟩
  have hsz : S.size = l.length := by rw [← hS]; simp [ByteArray.size]
  have hat : ∀ i (h : i < S.size), S[i] = l.getD i 0 := by
    intro i h
    subst hS
    have hi : i < l.length := by simpa [ByteArray.size] using h
    rw [getD_lt hi]
    rfl
  rw [hS]
  have HAT := Lib.hid hat
  have HZ := Lib.hid hsz
  have hS6 : S.size ≤ 100000 := by omega
  have hcb := c.toNat_lt
  clear hS hat hsz hl
  go_enter Tryz.func77, Tryz.ntmps77
  go_wp2_with fail
  go_loopw [5, 6] (fun v i wr => ∃ j : Nat, j ≤ S.size ∧ i = .int .i64 (j : Int) ∧ wr.ownsRow w.heap.size 9 1 v (splitB c (l.take j)).length ((splitB c (l.take j)).map strV) ∧ Below w.heap.size w wr) (fun _ i _ => S.size - (intOf i).toNat)
  case atStart => exact ⟨0, by omega, rfl, World.ownsRow_lit w #[.string ⟨#[]⟩] 1 (Nat.le_refl _) (by first | rfl | decide | simp [splitB]) rfl, (Below.refl _ _).alloc (Nat.le_refl _) _⟩
  case round =>
    obtain ⟨j, hj, rfl, hown, hb⟩ := hrel
    have hsm : (splitB c (l.take j)).length ≤ 100001 := by
      have := split_len c (l.take j)
      rw [List.length_take] at this
      have := HZ.out
      omega
    by_cases hlt : j < S.size
    · obtain ⟨x, hx⟩ : ∃ x, l.getD j 0 = x := ⟨_, rfl⟩
      have hI : ∀ h, S[(j : Int).toNat]'h = x := fun h => by rw [HAT.out, ← hx]; congr 1
      have hI' : ∀ h, S[j]'h = x := fun h => by rw [HAT.out, ← hx]
      have hxb := x.toNat_lt
      have htk : l.take (j + 1) = l.take j ++ [x] := by
        have hlj : j < l.length := by have := HZ.out; omega
        rw [List.take_add_one, List.getElem?_eq_getElem hlj, Option.toList_some, ← hx, List.getD_eq_getElem?_getD, List.getElem?_eq_getElem hlj]
        rfl
      have hne := split_ne c (l.take j)
      by_cases hxc : x = c
      · have HN := Lib.hid (show splitB c (l.take (j + 1)) = splitB c (l.take j) ++ [[]] from by rw [htk, split_snoc, if_pos hxc])
        have e1 : ((x.toNat : Int) == (c.toNat : Int)) = true := by rw [hxc]; simp
        have HX := Lib.hid hxc
        clear hx htk hne hxc
        generalize splitB c (l.take j) = ls at hown hsm HN ⊢
        obtain ⟨n, hn⟩ : ∃ n, ls.length = n := ⟨_, rfl⟩
        rw [hn] at hown hsm
        have HNN := Lib.hid hn
        clear hn
        go_wp2_with (at_builtin; refine wpList_append_own _ rfl (.tmp 19) (.tmp 20) 39 rfl w.heap.size 9 i0 (.string ⟨#[]⟩) 1 16 Tryz.underlying39 hti hz0 hz1 hz2 rfl (by omega) u5 n _ rfl (hown.alloc _) ⟨wr.heap.size, 0, none⟩ 1 1 [.string ⟨#[]⟩] rfl rfl (cell_one_new _ _ _) (fun u hu => by simp only [List.mem_singleton] at hu; subst hu; rfl) (by unfold maxLen; omega) (by omega) (by have := hb.size; simp; omega) ?_; intro v' w' hown' hg' _)
        go_wp2
        go_roundw
        case rel => exact ⟨j + 1, by omega, by go_num, by rw [HN.out, List.map_append, List.length_append, HNN.out]; exact hown', (hb.alloc hb.size _).grown hg' (by have := hb.size; simp; omega) (own_from hown)⟩
        case measure => simp [intOf]; omega
      · obtain ⟨ls, y, hls⟩ : ∃ ls y, splitB c (l.take j) = ls ++ [y] := ⟨_, _, (List.dropLast_concat_getLast hne).symm⟩
        have HN := Lib.hid (show splitB c (l.take (j + 1)) = ls ++ [y ++ [x]] from by
          rw [htk, split_snoc, if_neg hxc]
          simp [hls])
        have e1 : ((x.toNat : Int) == (c.toNat : Int)) = false := by
          rw [beq_eq_false_iff_ne]
          intro e
          exact hxc (UInt8.toNat_inj.1 (by omega))
        have hcut := text_cut S l HAT.out j hlt
        rw [hx] at hcut
        have hcut2 : S.extract (j : Int).toNat ((j : Int) + 1).toNat = ⟨#[x]⟩ := by
          rw [Int.toNat_natCast, show ((j : Int) + 1).toNat = j + 1 from by omega]; exact hcut
        have hls0 := hls
        rw [hls] at hown hsm
        have hyl : y.length ≤ 100000 := by
          have h1 := split_part c (l.take j) y (by rw [hls0]; simp)
          rw [List.length_take] at h1
          omega
        have HAD := Lib.hid (fun W => add_text y [x] (by omega) (by simp) W)
        have HX := Lib.hid hxc
        clear hx htk hne hxc hls hls0
        obtain ⟨A, k, rfl, hA⟩ := own_slice hown
        obtain ⟨n, hn⟩ : ∃ n, ls.length = n := ⟨_, rfl⟩
        rw [List.length_append, hn] at hown hsm hA ⊢
        simp only [List.length_cons, List.length_nil, Nat.zero_add] at hown hsm hA ⊢
        obtain ⟨g, rfl⟩ := (own_addr hown).2.2 (by omega)
        have HNN := Lib.hid hn
        have HO := Lib.hid hown
        have HB := Lib.hid hb
        have hlast : ((ls ++ [y]).map strV)[n]? = some (.string ⟨y.toArray⟩) := by rw [List.map_append, List.getElem?_append_right (by simp [hn])]; simp [hn, strV]
        have HLS := Lib.hid hlast
        have hwn : IntKind.i64.wrap (n : Int) = (n : Int) := IntWalk.i64_in _ (by omega)
        have hwj : IntKind.i64.wrap ((j : Int) + 1) = (j : Int) + 1 := IntWalk.i64_in _ (by omega)
        have hn0 : (0 : Int) ≤ (n : Int) := by omega
        have hn1 : (n : Int) < (n : Int) + 1 := by omega
        have hj0 : (0 : Int) ≤ (j : Int) + 1 := by omega
        have hj1 : (j : Int) + 1 ≤ (S.size : Int) := by omega
        have hj2 : (j : Int) ≤ (j : Int) + 1 := by omega
        clear hn hown hb hlast hA
        go_wp2_with fail
        refine wp_region_held_drew (S := fun _ => True) (by kernel_rfl) trivial (fun hHeld => ?_)
        replace HO := Lib.hid HO.out.drew
        replace HB := Lib.hid HB.out.drew
        generalize wr.drew = wd1 at HO HB ⊢
        refine take_first (v := ?_) 0 rfl (by kernel_rfl) (by kernel_rfl) (by kernel_rfl) (fun _ _ _ h => h) (Or.inl ⟨by rfl, ?_⟩) (by assumption) ?_
        rotate_left
        · (intro w hSw; (try dsimp only at hSw); go_simp; try with_reducible rfl)
        (try simp only [Act.put, List.setIfInBounds_toArray, List.set_cons_zero, List.set_cons_succ])
        refine take_first (v := ?_) 1 rfl (by kernel_rfl) (by kernel_rfl) (by kernel_rfl) (fun _ _ _ h => h) (Or.inl ⟨by rfl, ?_⟩) (by assumption) ?_
        rotate_left
        · (intro w hSw; (try dsimp only at hSw); go_simp; try with_reducible rfl)
        (try simp only [Act.put, List.setIfInBounds_toArray, List.set_cons_zero, List.set_cons_succ])
        refine take_first (v := ?_) 2 rfl (by kernel_rfl) (by kernel_rfl) (by kernel_rfl) (fun _ _ _ h => h) (Or.inl ⟨by rfl, ?_⟩) (by assumption) ?_
        rotate_left
        · (intro w hSw; (try dsimp only at hSw); go_simp; try with_reducible rfl)
        (try simp only [Act.put, List.setIfInBounds_toArray, List.set_cons_zero, List.set_cons_succ])
        refine take_first (v := ?_) 3 rfl (by kernel_rfl) (by kernel_rfl) (by kernel_rfl) (fun _ _ _ h => h) (Or.inl ⟨by rfl, ?_⟩) (by assumption) ?_
        rotate_left
        · (intro w hSw; (try dsimp only at hSw); go_simp; try with_reducible rfl)
        (try simp only [Act.put, List.setIfInBounds_toArray, List.set_cons_zero, List.set_cons_succ])
        refine take_first (v := ?_) 4 rfl (by kernel_rfl) (by kernel_rfl) (by kernel_rfl) (fun _ _ _ h => h) (Or.inl ⟨by rfl, ?_⟩) (by assumption) ?_
        rotate_left
        · (intro w hSw; (try dsimp only at hSw); go_simp; try with_reducible rfl)
        (try simp only [Act.put, List.setIfInBounds_toArray, List.set_cons_zero, List.set_cons_succ])
        refine take_first (v := ?_) 6 rfl (by kernel_rfl) (by kernel_rfl) (by kernel_rfl) (fun _ _ _ h => h) (Or.inl ⟨by rfl, ?_⟩) (by assumption) ?_
        rotate_left
        · (intro w hSw; (try dsimp only at hSw); go_simp; try with_reducible rfl)
        (try simp only [Act.put, List.setIfInBounds_toArray, List.set_cons_zero, List.set_cons_succ])
        refine take_first (v := ?_) 7 rfl (by kernel_rfl) (by kernel_rfl) (by kernel_rfl) (fun _ _ _ h => h) (Or.inl ⟨by rfl, ?_⟩) (by assumption) ?_
        rotate_left
        · (intro w hSw; (try dsimp only at hSw); go_simp; try with_reducible rfl)
        (try simp only [Act.put, List.setIfInBounds_toArray, List.set_cons_zero, List.set_cons_succ])
        refine take_first (v := ?_) 8 rfl (by kernel_rfl) (by kernel_rfl) (by kernel_rfl) (fun _ _ _ h => h) (Or.inl ⟨by rfl, ?_⟩) (by assumption) ?_
        rotate_left
        · (intro w hSw; (try dsimp only at hSw); go_simp; try with_reducible rfl)
        (try simp only [Act.put, List.setIfInBounds_toArray, List.set_cons_zero, List.set_cons_succ])
        refine take_first (v := ?_) 9 rfl (by kernel_rfl) (by kernel_rfl) (by kernel_rfl) (fun _ _ _ h => h) (Or.inl ⟨by rfl, ?_⟩) (by assumption) ?_
        rotate_left
        · (intro w hSw; (try dsimp only at hSw); go_simp; try with_reducible rfl)
        (try simp only [Act.put, List.setIfInBounds_toArray, List.set_cons_zero, List.set_cons_succ])
        refine take_first (v := ?_) 10 rfl (by kernel_rfl) (by kernel_rfl) (by kernel_rfl) (fun _ _ _ h => h) (Or.inl ⟨by rfl, ?_⟩) (by assumption) ?_
        rotate_left
        · (intro w hSw; (try dsimp only at hSw); go_simp; try with_reducible rfl)
        (try simp only [Act.put, List.setIfInBounds_toArray, List.set_cons_zero, List.set_cons_succ])
        refine take_load (v := ?_) [] 5 rfl (by kernel_rfl) (by kernel_rfl) (by kernel_rfl) (by kernel_rfl) (by kernel_rfl) (fun _ _ _ h => h) (Or.inl ⟨by rfl, ?_⟩) (by assumption) ?_
        rotate_left
        · (intro w hSw; subst hSw; have hc := HO.out.cellAt n (by omega); rw [HLS.out] at hc; go_simp; try with_reducible rfl)
        (try simp only [Act.put, List.setIfInBounds_toArray, List.set_cons_zero, List.set_cons_succ])
        refine take_first (v := ?_) 11 rfl (by kernel_rfl) (by kernel_rfl) (by kernel_rfl) (fun _ _ _ h => h) (Or.inl ⟨by rfl, ?_⟩) (by assumption) ?_
        rotate_left
        · (intro w hSw; (try dsimp only at hSw); have ha := HAD.out w; go_simp; try with_reducible rfl)
        (try simp only [Act.put, List.setIfInBounds_toArray, List.set_cons_zero, List.set_cons_succ])
        refine take_first (v := ?_) 12 rfl (by kernel_rfl) (by kernel_rfl) (by kernel_rfl) (fun _ _ _ h => h) (Or.inl ⟨by rfl, ?_⟩) (by assumption) ?_
        rotate_left
        · (intro w hSw; (try dsimp only at hSw); go_simp; try with_reducible rfl)
        (try simp only [Act.put, List.setIfInBounds_toArray, List.set_cons_zero, List.set_cons_succ])
        refine step_one 13 rfl (by kernel_rfl) (fun K hK => ?_)
        have fx := HO.out.cellAt n (by omega)
        rw [HLS.out] at fx
        obtain ⟨cs, hbk⟩ := own_blk HO.out
        have zx := hbk.frozen n
        have hbg := own_ge HO.out
        go_simp
        have ho2 := own_set HO.out n (.string ⟨(y ++ [x]).toArray⟩)
        have hb2 := HB.out.setCell (p := ⟨g, n, none⟩) hbg (.string ⟨(y ++ [x]).toArray⟩)
        clear fx zx hbk hbg
        generalize wd1.setCell ⟨g, n, none⟩ (.string ⟨(y ++ [x]).toArray⟩) = wd2 at ho2 hb2 ⊢
        rw [show ((ls ++ [y]).map strV).set n (.string ⟨(y ++ [x]).toArray⟩) = (ls ++ [y ++ [x]]).map strV from by rw [List.map_append, List.set_append_right _ _ (by simp [HNN.out])]; simp [HNN.out, strV]] at ho2
        have HO2 := Lib.hid ho2
        have HB2 := Lib.hid hb2
        clear ho2 hb2
        refine hK.out _ _ trivial (fun hHeld => ?_)
        clear hK K
        (try simp only [Act.put])
        refine wpAnyH_done (by kernel_rfl) ?_ _
        clear hHeld
        go_wp2
        go_roundw
        case rel => exact ⟨j + 1, by omega, by go_num, by rw [HN.out, List.length_append, HNN.out]; exact HO2.out, HB2.out⟩
        case measure => simp [intOf]; omega
    · have hje : l.take j = l := List.take_of_length_le (by have := HZ.out; omega)
      rw [hje] at hown
      obtain ⟨A, k, rfl, hA⟩ := own_slice hown
      have HO := Lib.hid hown
      have HB := Lib.hid hb
      clear hje hown hb
      go_wp2
      go_ret
      exact ⟨A, k, rfl, HO.out, HB.out⟩
end Go.Proofs.YtkhghmmgegkiiaaGreatDoor
namespace Go.Proofs.YtkhghmmgegkiiaaGreatDoor
open Go.RowKit

/-- the length of a text that is a value -/
def strLen : Value → Nat
  | .string S => S.size
  | _ => 0
set_option maxRecDepth 100000 in
set_option maxHeartbeats 4000000 in
theorem refGroup_any (N : Nat) (hN : N < 65536) (w : World) :
    Calls Tryz.prog 40 #[.int .i64 (N : Int)] w fun e w' => e = .returned (.string ⟨(hexT N).toArray⟩) ∧ w = w' := by
  go_enter Tryz.func40, Tryz.ntmps40
  go_wp2_with fail
  go_loopw [3, 0] (fun s n wr => ∃ (m : Nat) (sl : List UInt8), m < 65536 ∧ n = .int .i64 (m : Int) ∧ s = .string ⟨sl.toArray⟩ ∧ Hid (hexT N = (if m = 0 ∧ sl ≠ [] then [] else hexT m) ++ sl) ∧ w = wr) (fun s _ _ => 5 - strLen s)
  case atStart => exact ⟨N, [], hN, rfl, rfl, Lib.hid (by simp), rfl⟩
  case round =>
    obtain ⟨m, sl, hm, rfl, rfl, hh, rfl⟩ := hrel
    replace hh := hh.out
    by_cases h0 : m = 0
    · subst h0
      by_cases hs : sl = []
      · subst hs
        have HN := Lib.hid (show hexT N = [48] from by rw [hh, if_neg (fun h => h.2 rfl), hexT_small (by omega)]; rfl)
        clear hh
        go_wp2
        exact ⟨⟨0, [48], by omega, rfl, rfl, Lib.hid (by rw [HN.out, if_pos ⟨rfl, by simp⟩]; rfl), trivial⟩, by decide⟩
      · have he : sl.isEmpty = false := by cases sl with | nil => exact absurd rfl hs | cons _ _ => rfl
        rw [if_pos ⟨rfl, hs⟩, List.nil_append] at hh
        have HH := Lib.hid hh
        clear hh hs
        go_wp2
        go_ret
        exact ⟨ret_string (by rw [HH.out]), rfl⟩
    · have hgo : ¬(m = 0 ∧ sl ≠ []) := fun h => h0 h.1
      have hps : (0 : Int) < (m : Int) := by omega
      clear h0
      obtain ⟨r, hr⟩ : ∃ z, m % 16 = z := ⟨_, rfl⟩
      obtain ⟨q, hq⟩ : ∃ z, m / 16 = z := ⟨_, rfl⟩
      have htm : (m : Int).tmod 16 = (r : Int) := by rw [← hr]; exact Int.ofNat_tmod m 16
      have htd : (m : Int) / 16 = (q : Int) := by omega
      have hr16 : r < 16 := by omega
      have hw1 : IntKind.i64.wrap ((r : Int) + 1) = (r : Int) + 1 := IntWalk.i64_in _ (by omega)
      have hw2 : IntKind.i64.wrap (q : Int) = (q : Int) := IntWalk.i64_in _ (by omega)
      have hcut := hexCut r (r : Int) ((r : Int) + 1) ⟨rfl, rfl, hr16⟩
      obtain ⟨x, hx⟩ : ∃ z, hexD r = z := ⟨_, rfl⟩
      rw [hx, Int.toNat_natCast, show ((r : Int) + 1).toNat = r + 1 from by omega] at hcut
      have HN := Lib.hid (show hexT N = (if q = 0 ∧ x :: sl ≠ [] then [] else hexT q) ++ (x :: sl) from by
        rw [hh, if_neg hgo, ← hq, ← hx, ← hr]
        by_cases h16 : m < 16
        · rw [hexT_small h16, Nat.div_eq_of_lt h16, if_pos ⟨rfl, by simp⟩, Nat.mod_eq_of_lt h16]; rfl
        · rw [hexT_big h16, if_neg (by omega)]; simp)
      have hl5 : (x :: sl).length ≤ 4 := by
        have h1 := congrArg List.length HN.out
        rw [List.length_append] at h1
        have := hexT_len N 4 (by omega) (by omega)
        omega
      have HAD := Lib.hid (fun W => add_text [x] sl (by simp) (by simp at hl5; omega) W)
      have ha := fun W => HAD.out W
      have e0 : (0 : Int) ≤ (r : Int) + 1 := by omega
      have e1 : (r : Int) + 1 ≤ 16 := by omega
      have e2 : (r : Int) ≤ (r : Int) + 1 := by omega
      have hm0 : (0 : Int) ≤ (m : Int) := by omega
      clear hr hq hx hh hgo
      go_wp2
      go_roundw
      case rel => exact ⟨q, x :: sl, by omega, rfl, rfl, HN, by first | rfl | trivial⟩
      case measure => simp [strLen, ByteArray.size] at hl5 ⊢; omega
end Go.Proofs.YtkhghmmgegkiiaaGreatDoor
namespace Go.Proofs.YtkhghmmgegkiiaaGreatDoor
open Go.RowKit

theorem last_fst (l : List UInt8) (p : Nat × Nat) : (l.foldl (fun (p : Nat × Nat) c => (p.1 + 1, if c = 58 then p.1 + 1 else p.2)) p).1 = p.1 + l.length := by
  induction l generalizing p with
  | nil => rfl
  | cons x r ih => rw [List.foldl_cons, ih]; simp only [List.length_cons]; omega
theorem last_snoc (l : List UInt8) (x : UInt8) : lastC (l ++ [x]) = if x = 58 then l.length + 1 else lastC l := by
  have h := last_fst l (0, 0)
  simp only [lastC, List.foldl_append, List.foldl_cons, List.foldl_nil, h, Nat.zero_add]
theorem snoc_ind {α : Type} {p : List α → Prop} (h0 : p []) (h1 : ∀ l x, p l → p (l ++ [x])) (l : List α) : p l := by
  have h : ∀ m : List α, p m.reverse := fun m => by
    induction m with
    | nil => exact h0
    | cons x r ih => rw [List.reverse_cons]; exact h1 _ _ ih
  have h2 := h l.reverse
  rwa [List.reverse_reverse] at h2
theorem last_le (l : List UInt8) : lastC l ≤ l.length := by
  induction l using snoc_ind with
  | h0 => simp [lastC]
  | h1 l x ih =>
    rw [last_snoc, List.length_append]
    split <;> simp only [List.length_cons, List.length_nil] <;> omega
theorem group_lt (a : AddrM) (i : Nat) : groupV a i < 65536 := by
  have h1 := (a.ip.getD (2 * i) 0).toNat_lt
  have h2 := (a.ip.getD (2 * i + 1) 0).toNat_lt
  unfold groupV
  omega
theorem range8 : List.range 8 = [0, 1, 2, 3, 4, 5, 6, 7] := rfl
theorem range4 : List.range 4 = [0, 1, 2, 3] := rfl
end Go.Proofs.YtkhghmmgegkiiaaGreatDoor
namespace Go.Proofs.YtkhghmmgegkiiaaGreatDoor
open Go.RowKit

/-- parts, each behind a byte -/
def dotT (c : UInt8) (f : Nat → List UInt8) (n : Nat) : List UInt8 := (List.range n).flatMap fun k => c :: f k
theorem dot_succ (c : UInt8) (f : Nat → List UInt8) (n : Nat) : dotT c f (n + 1) = dotT c f n ++ ([c] ++ f n) := by
  simp [dotT, List.range_succ, List.flatMap_append]
theorem dot_len (c : UInt8) (f : Nat → List UInt8) (k : Nat) (hf : ∀ i, (f i).length ≤ k) (n : Nat) : (dotT c f n).length ≤ (k + 1) * n := by
  induction n with
  | zero => simp [dotT]
  | succ n ih =>
    rw [dot_succ, List.length_append, List.length_append, Nat.mul_succ]
    have := hf n
    simp only [List.length_cons, List.length_nil]
    omega
theorem dot_four (c : UInt8) (f : Nat → List UInt8) : (dotT c f 4).drop 1 = joinT c ((List.range 4).map f) := by
  simp [dotT, range4, joinT]
theorem dot_eight (c : UInt8) (f : Nat → List UInt8) : (dotT c f 8).drop 1 = joinT c ((List.range 8).map f) := by
  simp [dotT, range8, joinT]
theorem text_drop (l : List UInt8) (k : Nat) (n : Nat) (hn : l.length = n) : (ByteArray.mk l.toArray).extract k n = ⟨(l.drop k).toArray⟩ := by
  apply Go.WideShapes.bytes_inj
  rw [Lib.extract_data]
  show (l.drop k).take (n - k) = l.drop k
  exact List.take_of_length_le (by rw [List.length_drop, hn]; exact Nat.le_refl _)
theorem text_size (l : List UInt8) : (ByteArray.mk l.toArray).size = l.length := by simp [ByteArray.size]
theorem addrT_len (a : AddrM) : (addrT a).length ≤ 39 := by
  rw [addrT]
  split
  · simp
  · split
    · have h := dot_len 58 (fun k => hexT (groupV a k)) 4 (fun i => hexT_len _ 4 (by omega) (by have := group_lt a i; omega)) 8
      have h2 := dot_eight 58 (fun k => hexT (groupV a k))
      rw [← h2, List.length_drop]
      omega
    · have h := dot_len 46 (fun k => decT (a.ip.getD k 0).toNat) 3 (fun i => decT_len _ 3 (by omega) (by have := (a.ip.getD i 0).toNat_lt; omega)) 4
      have h2 := dot_four 46 (fun k => decT (a.ip.getD k 0).toNat)
      rw [← h2, List.length_drop]
      omega
end Go.Proofs.YtkhghmmgegkiiaaGreatDoor
namespace Go.Proofs.YtkhghmmgegkiiaaGreatDoor
open Go.RowKit

set_option maxRecDepth 100000 in
set_option maxHeartbeats 4000000 in
theorem refFmtAddr_any (a : AddrM) (ho : a.ok) (w : World) :
    Calls Tryz.prog 13 #[.agg a.cells.toArray] w fun e w' => e = .returned (.string ⟨(addrT a).toArray⟩) ∧ Below w.heap.size w w' := by
  have HO := Lib.hid ho
  have HSO := Lib.hid (refSound_any a ho)
  obtain ⟨ca, hca⟩ : ∃ z, a.cells.toArray = z := ⟨_, rfl⟩
  have HUA := Lib.hid (show (Tryz.prog.info? 25).map (·.size) = some a.cells.length from by rw [AddrM.cells_length ho]; kernel_rfl)
  rw [hca] at HSO ⊢
  have HM := Lib.hid (show Mem w [blkE w.heap.size 25 a.cells] (w.alloc (.cells ca 25)) from (Mem.nil w).alloc rfl 25 ca a.cells hca.symm)
  have HCA := Lib.hid hca
  clear hca ho
  have HV := Lib.hid (show addrT a = if soundM a = false then [] else if a.six then joinT 58 ((List.range 8).map fun i => hexT (groupV a i)) else joinT 46 ((List.range 4).map fun i => decT (a.ip.getD i 0).toNat) from rfl)
  generalize hsd : soundM a = sd at HSO HV
  go_enter Tryz.func13, Tryz.ntmps13
  go_upto_region 1 with fail
  generalize w.alloc (.cells ca 25) = w1 at HM ⊢
  go_wp2_with (refine wpList_load_obj rfl 25 (.tmp 1) rfl w.heap.size 0 rfl a.cells (HM.out.blk 0 rfl).all _ Tryz.underlying25 rfl HUA.out ?_)
  rw [HCA.out]
  refine (HSO.out _).mono ?_
  rintro e w2 ⟨rfl, hb⟩
  replace HM := Lib.hid (show Mem w [blkE w.heap.size 25 a.cells] w2 from HM.out.below hb)
  clear hb HSO hsd
  cases sd
  · go_wp2
    go_ret
    exact ⟨ret_string (by rw [HV.out]; simp), HM.out.bel⟩
  replace HV := Lib.hid (HV.out.trans (if_neg (by decide)))
  have fsix : w2.cell? ⟨w.heap.size, 0, none⟩ = some (.bool a.six) := (HM.out.blk 0 rfl).cell 0
  cases h6 : a.six
  · rw [h6] at fsix
    replace HV := Lib.hid (HV.out.trans (if_neg (by rw [h6]; decide)))
    clear h6
    have HM := Lib.hid HM.out
    have HF := Lib.hid (show ∀ i, ((fun k => decT (a.ip.getD k 0).toNat) i).length ≤ 3 from fun i => decT_len _ 3 (by omega) (by have := (a.ip.getD i 0).toNat_lt; omega))
    go_wp2_with fail
    go_loopw [3, 4] (fun s i wr => ∃ j : Nat, j ≤ 4 ∧ i = .int .i64 (j : Int) ∧ s = .string ⟨(dotT 46 (fun k => decT (a.ip.getD k 0).toNat) j).toArray⟩ ∧ Mem w [blkE w.heap.size 25 a.cells] wr) (fun _ i _ => 4 - (intOf i).toNat)
    case atStart => exact ⟨0, by omega, rfl, rfl, HM.out⟩
    case round =>
      obtain ⟨j, hj, rfl, rfl, hM⟩ := hrel
      replace HM := Lib.hid hM
      clear hM
      by_cases hlt : j < 4
      · have hdl := dot_len 46 (fun k => decT (a.ip.getD k 0).toNat) 3 HF.out j
        have HDS := Lib.hid (show dotT 46 (fun k => decT (a.ip.getD k 0).toNat) (j + 1) = dotT 46 (fun k => decT (a.ip.getD k 0).toNat) j ++ (46 :: decT (a.ip.getD j 0).toNat) from dot_succ 46 (fun k => decT (a.ip.getD k 0).toNat) j)
        obtain ⟨x, hx⟩ : ∃ x, a.ip.getD j 0 = x := ⟨_, rfl⟩
        have hc := (HM.out.blk 0 rfl).cell (1 + j)
        rw [AddrM.ip_cell a HO.out j (by omega), hx] at hc
        have hDC := fun W => refDecimal_any x.toNat (by have := x.toNat_lt; omega) W
        have hfl : (decT (a.ip.getD j 0).toNat).length ≤ 3 := HF.out j
        rw [hx] at hfl HDS
        have HDC := Lib.hid hDC
        generalize decT x.toNat = d at HDC hfl HDS
        have HA1 := Lib.hid (fun W => add_text [46] d (by simp) (by omega) W)
        have hxb := x.toNat_lt
        have hw := IntWalk.i64_in (x.toNat : Int) (by omega)
        obtain ⟨e, he⟩ : ∃ e, dotT 46 (fun k => decT (a.ip.getD k 0).toNat) j = e := ⟨_, rfl⟩
        rw [he] at HDS hdl ⊢
        have HA2 := Lib.hid (fun W => add_text e (46 :: d) (by omega) (by simp; omega) W)
        have ha1 := HA1.out
        have ha2 := HA2.out
        clear hx hDC he
        go_wp2_with fail
        refine (HDC.out _).mono ?_
        rintro e5 w5 ⟨rfl, hb⟩
        replace HM := Lib.hid (show Mem w [blkE w.heap.size 25 a.cells] w5 from HM.out.below hb)
        clear hb hc
        go_wp2
        go_roundw
        case rel => exact ⟨j + 1, by omega, by go_num, by rw [HDS.out], HM.out⟩
        case measure => simp [intOf]; omega
      · obtain rfl : j = 4 := by omega
        have HLD := Lib.hid (dot_four 46 (fun k => decT (a.ip.getD k 0).toNat))
        have hdl := dot_len 46 (fun k => decT (a.ip.getD k 0).toNat) 3 HF.out 4
        have hne : 1 ≤ (dotT 46 (fun k => decT (a.ip.getD k 0).toNat) 4).length := by rw [dot_succ, List.length_append]; simp; omega
        generalize dotT 46 (fun k => decT (a.ip.getD k 0).toNat) 4 = e at HLD hdl hne ⊢
        have hsz := text_size e
        have hcut := text_drop e 1 e.length rfl
        have hn1 : (1 : Int) ≤ (e.length : Int) := by omega
        go_wp2
        go_ret
        exact ⟨ret_string (by rw [HV.out, ← HLD.out]; simp), HM.out.bel⟩
  · rw [h6] at fsix
    replace HV := Lib.hid (HV.out.trans (if_pos h6))
    clear h6
    have HM := Lib.hid HM.out
    have HF := Lib.hid (show ∀ i, ((fun k => hexT (groupV a k)) i).length ≤ 4 from fun i => hexT_len _ 4 (by omega) (by have := group_lt a i; omega))
    go_wp2_with fail
    go_loopw [3, 5] (fun s i wr => ∃ j : Nat, j ≤ 8 ∧ i = .int .i64 (j : Int) ∧ s = .string ⟨(dotT 58 (fun k => hexT (groupV a k)) j).toArray⟩ ∧ Mem w [blkE w.heap.size 25 a.cells] wr) (fun _ i _ => 8 - (intOf i).toNat)
    case atStart => exact ⟨0, by omega, rfl, rfl, HM.out⟩
    case round =>
      obtain ⟨j, hj, rfl, rfl, hM⟩ := hrel
      replace HM := Lib.hid hM
      clear hM
      by_cases hlt : j < 8
      · have hdl := dot_len 58 (fun k => hexT (groupV a k)) 4 HF.out j
        have HDS := Lib.hid (show dotT 58 (fun k => hexT (groupV a k)) (j + 1) = dotT 58 (fun k => hexT (groupV a k)) j ++ (58 :: hexT (groupV a j)) from dot_succ 58 (fun k => hexT (groupV a k)) j)
        obtain ⟨x, hx⟩ : ∃ x, a.ip.getD (2 * j) 0 = x := ⟨_, rfl⟩
        obtain ⟨y, hy⟩ : ∃ y, a.ip.getD (2 * j + 1) 0 = y := ⟨_, rfl⟩
        have hg : groupV a j = 256 * x.toNat + y.toNat := by rw [groupV, hx, hy]
        have hgl := group_lt a j
        have hGR := fun W => (refGroup_any (groupV a j) hgl W).mono (fun e w' (h : e = _ ∧ W = w') => (⟨h.1, h.2 ▸ Below.refl _ _⟩ : e = _ ∧ Below W.heap.size W w'))
        have hfl : (hexT (groupV a j)).length ≤ 4 := HF.out j
        rw [hg] at hGR hfl HDS hgl
        have HGR := Lib.hid hGR
        obtain ⟨z, hz⟩ : ∃ z, 256 * x.toNat + y.toNat = z := ⟨_, rfl⟩
        rw [hz] at HGR hfl HDS hgl
        generalize hexT z = d at HGR hfl HDS
        have HA1 := Lib.hid (fun W => add_text [58] d (by simp) (by omega) W)
        obtain ⟨e, he⟩ : ∃ e, dotT 58 (fun k => hexT (groupV a k)) j = e := ⟨_, rfl⟩
        rw [he] at HDS hdl ⊢
        have HA2 := Lib.hid (fun W => add_text e (58 :: d) (by omega) (by simp; omega) W)
        have hxb := x.toNat_lt
        have hyb := y.toNat_lt
        obtain ⟨p, hp⟩ : ∃ z, 2 * j = z := ⟨_, rfl⟩
        obtain ⟨p1, hp1⟩ : ∃ z, p + 1 = z := ⟨_, rfl⟩
        have hp16 : p + 1 < 16 := by omega
        rw [hp] at hx hy
        rw [hp1] at hy
        have HX := Lib.hid hx
        have HY := Lib.hid hy
        have hwp : IntKind.i64.wrap (2 * (j : Int)) = (p : Int) := by rw [IntWalk.i64_in _ (by omega)]; omega
        have hwp1 : IntKind.i64.wrap ((p : Int) + 1) = (p1 : Int) := by rw [IntWalk.i64_in _ (by omega)]; omega
        have q1 : (p : Int) < 16 := by omega
        have q2 : (p1 : Int) < 16 := by omega
        have hwx := IntWalk.i64_in (x.toNat : Int) (by omega)
        have hwy := IntWalk.i64_in (y.toNat : Int) (by omega)
        have hws : IntKind.i64.wrap ((x.toNat : Int) * 256) = (x.toNat : Int) * 256 := IntWalk.i64_in _ (by omega)
        have hwz : IntKind.i64.wrap ((x.toNat : Int) * 256 + (y.toNat : Int)) = (z : Int) := by rw [IntWalk.i64_in _ (by omega)]; omega
        clear hg hGR he hx hy hp hp1 hz
        go_upto_region 13 with fail
        refine wp_region_held_drew (S := fun W' => Mem w [blkE w.heap.size 25 a.cells] W') (by kernel_rfl) ((HM.out).drew) (fun hHeld => ?_)
        replace HM := Lib.hid HM.out.drew
        generalize wr.drew = wd1 at HM hHeld ⊢
        refine take_first (v := ?_) 0 rfl (by kernel_rfl) (by kernel_rfl) (by kernel_rfl) (fun _ _ _ h => h) (Or.inl ⟨by rfl, ?_⟩) (by assumption) ?_
        rotate_left
        · (intro w hSw; (try dsimp only at hSw); go_simp; try with_reducible rfl)
        (try simp only [Act.put, List.setIfInBounds_toArray, List.set_cons_zero, List.set_cons_succ])
        refine take_first (v := ?_) 1 rfl (by kernel_rfl) (by kernel_rfl) (by kernel_rfl) (fun _ _ _ h => h) (Or.inl ⟨by rfl, ?_⟩) (by assumption) ?_
        rotate_left
        · (intro w hSw; (try dsimp only at hSw); go_simp; try with_reducible rfl)
        (try simp only [Act.put, List.setIfInBounds_toArray, List.set_cons_zero, List.set_cons_succ])
        refine take_first (v := ?_) 2 rfl (by kernel_rfl) (by kernel_rfl) (by kernel_rfl) (fun _ _ _ h => h) (Or.inl ⟨by rfl, ?_⟩) (by assumption) ?_
        rotate_left
        · (intro w hSw; (try dsimp only at hSw); go_simp; try with_reducible rfl)
        (try simp only [Act.put, List.setIfInBounds_toArray, List.set_cons_zero, List.set_cons_succ])
        refine take_first (v := ?_) 3 rfl (by kernel_rfl) (by kernel_rfl) (by kernel_rfl) (fun _ _ _ h => h) (Or.inl ⟨by rfl, ?_⟩) (by assumption) ?_
        rotate_left
        · (intro w hSw; (try dsimp only at hSw); go_simp; try with_reducible rfl)
        (try simp only [Act.put, List.setIfInBounds_toArray, List.set_cons_zero, List.set_cons_succ])
        refine take_first (v := ?_) 4 rfl (by kernel_rfl) (by kernel_rfl) (by kernel_rfl) (fun _ _ _ h => h) (Or.inl ⟨by rfl, ?_⟩) (by assumption) ?_
        rotate_left
        · (intro w hSw; (try dsimp only at hSw); go_simp; try with_reducible rfl)
        (try simp only [Act.put, List.setIfInBounds_toArray, List.set_cons_zero, List.set_cons_succ])
        refine take_first (v := ?_) 5 rfl (by kernel_rfl) (by kernel_rfl) (by kernel_rfl) (fun _ _ _ h => h) (Or.inl ⟨by rfl, ?_⟩) (by assumption) ?_
        rotate_left
        · (intro w hSw; (try dsimp only at hSw); have hc := (Mem.blk hSw 0 rfl).cell (1 + p); rw [AddrM.ip_cell a HO.out (p) (by omega), HX.out] at hc; go_simp; try with_reducible rfl)
        (try simp only [Act.put, List.setIfInBounds_toArray, List.set_cons_zero, List.set_cons_succ])
        refine take_first (v := ?_) 6 rfl (by kernel_rfl) (by kernel_rfl) (by kernel_rfl) (fun _ _ _ h => h) (Or.inl ⟨by rfl, ?_⟩) (by assumption) ?_
        rotate_left
        · (intro w hSw; (try dsimp only at hSw); go_simp; try with_reducible rfl)
        (try simp only [Act.put, List.setIfInBounds_toArray, List.set_cons_zero, List.set_cons_succ])
        refine take_first (v := ?_) 7 rfl (by kernel_rfl) (by kernel_rfl) (by kernel_rfl) (fun _ _ _ h => h) (Or.inl ⟨by rfl, ?_⟩) (by assumption) ?_
        rotate_left
        · (intro w hSw; (try dsimp only at hSw); go_simp; try with_reducible rfl)
        (try simp only [Act.put, List.setIfInBounds_toArray, List.set_cons_zero, List.set_cons_succ])
        refine take_first (v := ?_) 8 rfl (by kernel_rfl) (by kernel_rfl) (by kernel_rfl) (fun _ _ _ h => h) (Or.inl ⟨by rfl, ?_⟩) (by assumption) ?_
        rotate_left
        · (intro w hSw; (try dsimp only at hSw); go_simp; try with_reducible rfl)
        (try simp only [Act.put, List.setIfInBounds_toArray, List.set_cons_zero, List.set_cons_succ])
        refine take_first (v := ?_) 9 rfl (by kernel_rfl) (by kernel_rfl) (by kernel_rfl) (fun _ _ _ h => h) (Or.inl ⟨by rfl, ?_⟩) (by assumption) ?_
        rotate_left
        · (intro w hSw; (try dsimp only at hSw); go_simp; try with_reducible rfl)
        (try simp only [Act.put, List.setIfInBounds_toArray, List.set_cons_zero, List.set_cons_succ])
        refine take_first (v := ?_) 10 rfl (by kernel_rfl) (by kernel_rfl) (by kernel_rfl) (fun _ _ _ h => h) (Or.inl ⟨by rfl, ?_⟩) (by assumption) ?_
        rotate_left
        · (intro w hSw; (try dsimp only at hSw); go_simp; try with_reducible rfl)
        (try simp only [Act.put, List.setIfInBounds_toArray, List.set_cons_zero, List.set_cons_succ])
        refine take_first (v := ?_) 11 rfl (by kernel_rfl) (by kernel_rfl) (by kernel_rfl) (fun _ _ _ h => h) (Or.inl ⟨by rfl, ?_⟩) (by assumption) ?_
        rotate_left
        · (intro w hSw; (try dsimp only at hSw); go_simp; try with_reducible rfl)
        (try simp only [Act.put, List.setIfInBounds_toArray, List.set_cons_zero, List.set_cons_succ])
        refine take_first (v := ?_) 12 rfl (by kernel_rfl) (by kernel_rfl) (by kernel_rfl) (fun _ _ _ h => h) (Or.inl ⟨by rfl, ?_⟩) (by assumption) ?_
        rotate_left
        · (intro w hSw; (try dsimp only at hSw); go_simp; try with_reducible rfl)
        (try simp only [Act.put, List.setIfInBounds_toArray, List.set_cons_zero, List.set_cons_succ])
        refine take_first (v := ?_) 13 rfl (by kernel_rfl) (by kernel_rfl) (by kernel_rfl) (fun _ _ _ h => h) (Or.inl ⟨by rfl, ?_⟩) (by assumption) ?_
        rotate_left
        · (intro w hSw; (try dsimp only at hSw); have hc := (Mem.blk hSw 0 rfl).cell (1 + p1); rw [AddrM.ip_cell a HO.out (p1) (by omega), HY.out] at hc; go_simp; try with_reducible rfl)
        (try simp only [Act.put, List.setIfInBounds_toArray, List.set_cons_zero, List.set_cons_succ])
        refine take_first (v := ?_) 14 rfl (by kernel_rfl) (by kernel_rfl) (by kernel_rfl) (fun _ _ _ h => h) (Or.inl ⟨by rfl, ?_⟩) (by assumption) ?_
        rotate_left
        · (intro w hSw; (try dsimp only at hSw); go_simp; try with_reducible rfl)
        (try simp only [Act.put, List.setIfInBounds_toArray, List.set_cons_zero, List.set_cons_succ])
        refine take_first (v := ?_) 15 rfl (by kernel_rfl) (by kernel_rfl) (by kernel_rfl) (fun _ _ _ h => h) (Or.inl ⟨by rfl, ?_⟩) (by assumption) ?_
        rotate_left
        · (intro w hSw; (try dsimp only at hSw); go_simp; try with_reducible rfl)
        (try simp only [Act.put, List.setIfInBounds_toArray, List.set_cons_zero, List.set_cons_succ])
        refine step_one 16 rfl (by kernel_rfl) (fun K hK => ?_)
        clear hHeld
        go_simp
        refine (HGR.out _).mono ?_
        rintro e wy2 ⟨rfl, hb⟩
        replace HM := Lib.hid (show Mem w [blkE w.heap.size 25 a.cells] wy2 from HM.out.below hb)
        clear hb
        go_wp2_with fail
        refine hK.out _ _ (HM.out) (fun hHeld => ?_)
        clear hK K
        (try simp only [Act.put, List.setIfInBounds_toArray, List.set_cons_zero, List.set_cons_succ])
        refine take_first (v := ?_) 17 rfl (by kernel_rfl) (by kernel_rfl) (by kernel_rfl) (fun _ _ _ h => h) (Or.inl ⟨by rfl, ?_⟩) (by assumption) ?_
        rotate_left
        · (intro w hSw; (try dsimp only at hSw); have ha := HA1.out w; go_simp; try with_reducible rfl)
        (try simp only [Act.put, List.setIfInBounds_toArray, List.set_cons_zero, List.set_cons_succ])
        refine take_first (v := ?_) 18 rfl (by kernel_rfl) (by kernel_rfl) (by kernel_rfl) (fun _ _ _ h => h) (Or.inl ⟨by rfl, ?_⟩) (by assumption) ?_
        rotate_left
        · (intro w hSw; (try dsimp only at hSw); have ha := HA2.out w; go_simp; try with_reducible rfl)
        (try simp only [Act.put, List.setIfInBounds_toArray, List.set_cons_zero, List.set_cons_succ])
        refine take_first (v := ?_) 19 rfl (by kernel_rfl) (by kernel_rfl) (by kernel_rfl) (fun _ _ _ h => h) (Or.inl ⟨by rfl, ?_⟩) (by assumption) ?_
        rotate_left
        · (intro w hSw; (try dsimp only at hSw); go_simp; try with_reducible rfl)
        (try simp only [Act.put, List.setIfInBounds_toArray, List.set_cons_zero, List.set_cons_succ])
        refine wpAnyH_done (by kernel_rfl) ?_ _
        clear hHeld
        go_wp2
        go_roundw
        case rel => exact ⟨j + 1, by omega, by go_num, by rw [HDS.out], HM.out⟩
        case measure => simp [intOf]; omega
      · obtain rfl : j = 8 := by omega
        have HLD := Lib.hid (dot_eight 58 (fun k => hexT (groupV a k)))
        have hdl := dot_len 58 (fun k => hexT (groupV a k)) 4 HF.out 8
        have hne : 1 ≤ (dotT 58 (fun k => hexT (groupV a k)) 8).length := by rw [dot_succ, List.length_append]; simp; omega
        generalize dotT 58 (fun k => hexT (groupV a k)) 8 = e at HLD hdl hne ⊢
        have hsz := text_size e
        have hcut := text_drop e 1 e.length rfl
        have hn1 : (1 : Int) ≤ (e.length : Int) := by omega
        go_wp2
        go_ret
        exact ⟨ret_string (by rw [HV.out, ← HLD.out]; simp), HM.out.bel⟩
end Go.Proofs.YtkhghmmgegkiiaaGreatDoor
namespace Go.Proofs.YtkhghmmgegkiiaaGreatDoor
open Go.RowKit

theorem pref_at {w : World} {g : Nat} {t : TypeId} {a : AddrM} {bits : Int} (h : Blk w g t (prefC a bits)) (ho : a.ok) : At w g 0 a.cells := by
  have h2 := h.sub 0 17
  rwa [prefC_addr a ho bits] at h2
set_option maxRecDepth 100000 in
set_option maxHeartbeats 4000000 in
theorem refFmtEnd_any (a : AddrM) (ho : a.ok) (port : Int) (w : World) :
    Calls Tryz.prog 14 #[.agg (prefC a port).toArray] w fun e w' => e = .returned (.string ⟨(endT a port).toArray⟩) ∧ Below w.heap.size w w' := by
  have HO := Lib.hid ho
  have HFA := Lib.hid (refFmtAddr_any a ho)
  obtain ⟨ca, hca⟩ : ∃ z, a.cells.toArray = z := ⟨_, rfl⟩
  obtain ⟨ce, hce⟩ : ∃ z, (prefC a port).toArray = z := ⟨_, rfl⟩
  have HUA := Lib.hid (show (Tryz.prog.info? 25).map (·.size) = some a.cells.length from by rw [AddrM.cells_length ho]; kernel_rfl)
  rw [hca] at HFA
  rw [hce]
  have HM := Lib.hid (show Mem w [blkE w.heap.size 27 (prefC a port)] (w.alloc (.cells ce 27)) from (Mem.nil w).alloc rfl 27 ce (prefC a port) hce.symm)
  have HCA := Lib.hid hca
  clear hca hce
  have htl := addrT_len a
  obtain ⟨t, ht⟩ : ∃ z, addrT a = z := ⟨_, rfl⟩
  rw [ht] at HFA htl
  have HT := Lib.hid ht
  go_enter Tryz.func14, Tryz.ntmps14
  go_upto_region 1 with fail
  generalize w.alloc (.cells ce 27) = w1 at HM ⊢
  go_wp2_with (refine wpList_load_obj rfl 25 (.tmp 4) rfl w.heap.size 0 rfl a.cells (pref_at (HM.out.blk 0 rfl) HO.out) _ Tryz.underlying25 rfl HUA.out ?_)
  rw [HCA.out]
  refine (HFA.out _).mono ?_
  rintro e w2 ⟨rfl, hb⟩
  replace HM := Lib.hid (show Mem w [blkE w.heap.size 27 (prefC a port)] w2 from HM.out.below hb)
  clear hb HFA ht ho
  have fx : w2.cell? ⟨w.heap.size, 17, none⟩ = some (.int .i64 port) := by
    have h := (HM.out.blk 0 rfl).cell 17
    rwa [prefC_bits a HO.out port] at h
  have fsix : w2.cell? ⟨w.heap.size, 0, none⟩ = some (.bool a.six) := (HM.out.blk 0 rfl).cell 0
  by_cases hn : t = []
  · have hv : endT a port = [] := by rw [endT, if_pos (.inl (by rw [HT.out, hn]))]
    have HVV := Lib.hid hv
    subst hn
    clear hv
    go_wp2
    go_ret
    exact ⟨ret_string (by rw [HVV.out]), HM.out.bel⟩
  have he : t.isEmpty = false := by cases t with | nil => exact absurd rfl hn | cons _ _ => rfl
  by_cases h1 : port < 1
  · have hv : endT a port = [] := by rw [endT, if_pos (.inr (.inl h1))]
    have HVV := Lib.hid hv
    clear hv
    go_wp2
    go_ret
    exact ⟨ret_string (by rw [HVV.out]), HM.out.bel⟩
  by_cases h2 : 65535 < port
  · have hv : endT a port = [] := by rw [endT, if_pos (.inr (.inr h2))]
    have HVV := Lib.hid hv
    clear hv
    go_wp2
    go_ret
    exact ⟨ret_string (by rw [HVV.out]), HM.out.bel⟩
  obtain ⟨q, rfl⟩ : ∃ q : Nat, port = (q : Int) := ⟨port.toNat, by omega⟩
  have hv : endT a (q : Int) = (if a.six then 91 :: (t ++ [93]) else t) ++ 58 :: decT q := by rw [endT, if_neg (by rw [HT.out]; rintro (h | h | h); exact hn h; exact h1 h; exact h2 h), HT.out, Int.toNat_natCast]
  have HDC := Lib.hid (fun W => refDecimal_any q (by omega) W)
  have hdl := decT_len q 5 (by omega) (by omega)
  generalize decT q = d at hv HDC hdl
  have HV := Lib.hid hv
  clear hv hn
  cases h6 : a.six
  · rw [h6] at fsix
    have HA1 := Lib.hid (fun W => add_text t [58] (by first | omega | (simp; omega)) (by simp) W)
    have ha1 := HA1.out
    have HA2 := Lib.hid (fun W => add_text (t ++ [58]) d (by simp; omega) (by omega) W)
    have ha2 := HA2.out
    replace HV := Lib.hid (show endT a (q : Int) = t ++ 58 :: d from by rw [HV.out, h6]; rfl)
    clear h6
    go_wp2_with fail
    refine (HDC.out _).mono ?_
    rintro e w4 ⟨rfl, hb⟩
    replace HM := Lib.hid (show Mem w [blkE w.heap.size 27 (prefC a (q : Int))] w4 from HM.out.below hb)
    clear hb fx
    go_wp2
    go_ret
    exact ⟨ret_string (by rw [HV.out]; try simp), HM.out.bel⟩
  · rw [h6] at fsix
    have HB1 := Lib.hid (fun W => add_text [91] t (by simp) (by omega) W)
    have HB2 := Lib.hid (fun W => add_text (91 :: t) [93] (by simp; omega) (by simp) W)
    have hb1 := HB1.out
    have hb2 := HB2.out
    have HA1 := Lib.hid (fun W => add_text (91 :: (t ++ [93])) [58] (by first | omega | (simp; omega)) (by simp) W)
    have ha1 := HA1.out
    have HA2 := Lib.hid (fun W => add_text ((91 :: (t ++ [93])) ++ [58]) d (by simp; omega) (by omega) W)
    have ha2 := HA2.out
    replace HV := Lib.hid (show endT a (q : Int) = (91 :: (t ++ [93])) ++ 58 :: d from by rw [HV.out, h6]; rfl)
    clear h6
    go_wp2_with fail
    refine (HDC.out _).mono ?_
    rintro e w4 ⟨rfl, hb⟩
    replace HM := Lib.hid (show Mem w [blkE w.heap.size 27 (prefC a (q : Int))] w4 from HM.out.below hb)
    clear hb fx
    go_wp2
    go_ret
    exact ⟨ret_string (by rw [HV.out]; try simp), HM.out.bel⟩
set_option maxRecDepth 100000 in
set_option maxHeartbeats 4000000 in
theorem refFmtPref_any (a : AddrM) (ho : a.ok) (bits : Int) (h1 : -9223372036854775808 ≤ bits) (h2 : bits ≤ 9223372036854775807) (w : World) :
    Calls Tryz.prog 15 #[.agg (prefC a bits).toArray] w fun e w' => e = .returned (.string ⟨(prefT a bits).toArray⟩) ∧ Below w.heap.size w w' := by
  have HO := Lib.hid ho
  have HFA := Lib.hid (refFmtAddr_any a ho)
  have HVA := Lib.hid (refValid_any a ho bits h1 h2)
  obtain ⟨ca, hca⟩ : ∃ z, a.cells.toArray = z := ⟨_, rfl⟩
  obtain ⟨ce, hce⟩ : ∃ z, (prefC a bits).toArray = z := ⟨_, rfl⟩
  have HUA := Lib.hid (show (Tryz.prog.info? 25).map (·.size) = some a.cells.length from by rw [AddrM.cells_length ho]; kernel_rfl)
  have HUP := Lib.hid (pref_cellsOf a ho bits)
  rw [hca] at HFA
  rw [hce] at HVA ⊢
  have HM := Lib.hid (show Mem w [blkE w.heap.size 29 (prefC a bits)] (w.alloc (.cells ce 29)) from (Mem.nil w).alloc rfl 29 ce (prefC a bits) hce.symm)
  have HCA := Lib.hid hca
  have HCE := Lib.hid hce
  clear hca hce ho
  have htl := addrT_len a
  have hvb := validM_bits a bits
  have HV := Lib.hid (show prefT a bits = if validM a bits = false then [] else addrT a ++ 47 :: decT bits.toNat from rfl)
  generalize addrT a = t at HFA htl HV
  generalize validM a bits = vb at HVA HV hvb
  go_enter Tryz.func15, Tryz.ntmps15
  go_upto_region 1 with fail
  generalize w.alloc (.cells ce 29) = w1 at HM ⊢
  go_wp2_with (refine wpList_load_obj rfl 29 (.tmp 1) rfl w.heap.size 0 rfl (prefC a bits) (HM.out.blk 0 rfl).all _ Tryz.underlying29 rfl HUP.out ?_)
  rw [HCE.out]
  refine (HVA.out _).mono ?_
  rintro e w2 ⟨rfl, hb⟩
  replace HM := Lib.hid (show Mem w [blkE w.heap.size 29 (prefC a bits)] w2 from HM.out.below hb)
  clear hb HVA
  cases vb
  · go_wp2
    go_ret
    exact ⟨ret_string (by rw [HV.out]; try simp), HM.out.bel⟩
  have hbb := hvb rfl
  obtain ⟨q, rfl⟩ : ∃ q : Nat, bits = (q : Int) := ⟨bits.toNat, by omega⟩
  replace HV := Lib.hid (show prefT a (q : Int) = t ++ 47 :: decT q from by rw [HV.out, if_neg (by decide), Int.toNat_natCast])
  have HDC := Lib.hid (fun W => refDecimal_any q (by omega) W)
  have hdl := decT_len q 3 (by omega) (by omega)
  generalize decT q = d at HV HDC hdl
  have HA1 := Lib.hid (fun W => add_text t [47] (by omega) (by simp) W)
  have HA2 := Lib.hid (fun W => add_text (t ++ [47]) d (by simp; omega) (by omega) W)
  clear hvb
  go_upto_region 3 with fail
  refine wp_region_held_drew (S := fun W' => Mem w [blkE w.heap.size 29 (prefC a (q : Int))] W') (by kernel_rfl) ((HM.out).drew) (fun hHeld => ?_)
  replace HM := Lib.hid HM.out.drew
  generalize w2.drew = wd1 at HM hHeld ⊢
  refine take_first (v := ?_) 0 rfl (by kernel_rfl) (by kernel_rfl) (by kernel_rfl) (fun _ _ _ h => h) (Or.inl ⟨by rfl, ?_⟩) (by assumption) ?_
  rotate_left
  · (intro w hSw; (try dsimp only at hSw); go_simp; try with_reducible rfl)
  (try simp only [Act.put, List.setIfInBounds_toArray, List.set_cons_zero, List.set_cons_succ])
  refine take_first (v := .agg ca) 1 rfl (by kernel_rfl) (by kernel_rfl) (by kernel_rfl) (fun _ _ _ h => h) (by rw [← HCA.out]; exact yields_load_obj (by rfl) 25 (.tmp 6) rfl w.heap.size 0 rfl a.cells (fun w' hb => pref_at (Mem.blk hb 0 rfl) HO.out) _ Tryz.underlying25 rfl HUA.out) (by assumption) ?_
  (try simp only [Act.put, List.setIfInBounds_toArray, List.set_cons_zero, List.set_cons_succ])
  refine take_first (v := ?_) 4 rfl (by kernel_rfl) (by kernel_rfl) (by kernel_rfl) (fun _ _ _ h => h) (Or.inl ⟨by rfl, ?_⟩) (by assumption) ?_
  rotate_left
  · (intro w hSw; (try dsimp only at hSw); go_simp; try with_reducible rfl)
  (try simp only [Act.put, List.setIfInBounds_toArray, List.set_cons_zero, List.set_cons_succ])
  refine take_first (v := ?_) 5 rfl (by kernel_rfl) (by kernel_rfl) (by kernel_rfl) (fun _ _ _ h => h) (Or.inl ⟨by rfl, ?_⟩) (by assumption) ?_
  rotate_left
  · (intro w hSw; (try dsimp only at hSw); have hc := (Mem.blk hSw 0 rfl).cell 17; rw [prefC_bits a HO.out _] at hc; go_simp; try with_reducible rfl)
  (try simp only [Act.put, List.setIfInBounds_toArray, List.set_cons_zero, List.set_cons_succ])
  refine step_one 2 rfl (by kernel_rfl) (fun K hK => ?_)
  clear hHeld
  go_simp
  refine (HFA.out _).mono ?_
  rintro e wy2 ⟨rfl, hb⟩
  replace HM := Lib.hid (show Mem w [blkE w.heap.size 29 (prefC a (q : Int))] wy2 from HM.out.below hb)
  clear hb
  go_wp2_with fail
  refine hK.out _ _ (HM.out) (fun hHeld => ?_)
  clear hK K
  (try simp only [Act.put, List.setIfInBounds_toArray, List.set_cons_zero, List.set_cons_succ])
  refine take_first (v := ?_) 3 rfl (by kernel_rfl) (by kernel_rfl) (by kernel_rfl) (fun _ _ _ h => h) (Or.inl ⟨by rfl, ?_⟩) (by assumption) ?_
  rotate_left
  · (intro w hSw; (try dsimp only at hSw); have ha := HA1.out w; go_simp; try with_reducible rfl)
  (try simp only [Act.put, List.setIfInBounds_toArray, List.set_cons_zero, List.set_cons_succ])
  refine step_one 6 rfl (by kernel_rfl) (fun K hK => ?_)
  clear hHeld
  go_simp
  refine (HDC.out _).mono ?_
  rintro e wy3 ⟨rfl, hb⟩
  replace HM := Lib.hid (show Mem w [blkE w.heap.size 29 (prefC a (q : Int))] wy3 from HM.out.below hb)
  clear hb
  go_wp2_with fail
  refine hK.out _ _ (HM.out) (fun hHeld => ?_)
  clear hK K
  (try simp only [Act.put, List.setIfInBounds_toArray, List.set_cons_zero, List.set_cons_succ])
  refine take_first (v := ?_) 7 rfl (by kernel_rfl) (by kernel_rfl) (by kernel_rfl) (fun _ _ _ h => h) (Or.inl ⟨by rfl, ?_⟩) (by assumption) ?_
  rotate_left
  · (intro w hSw; (try dsimp only at hSw); have ha := HA2.out w; go_simp; try with_reducible rfl)
  (try simp only [Act.put, List.setIfInBounds_toArray, List.set_cons_zero, List.set_cons_succ])
  refine take_first (v := ?_) 8 rfl (by kernel_rfl) (by kernel_rfl) (by kernel_rfl) (fun _ _ _ h => h) (Or.inl ⟨by rfl, ?_⟩) (by assumption) ?_
  rotate_left
  · (intro w hSw; (try dsimp only at hSw); go_simp; try with_reducible rfl)
  (try simp only [Act.put, List.setIfInBounds_toArray, List.set_cons_zero, List.set_cons_succ])
  refine wpAnyH_done (by kernel_rfl) ?_ _
  clear hHeld
  go_wp2
  go_ret
  exact ⟨ret_string (by rw [HV.out]; try simp), HM.out.bel⟩
end Go.Proofs.YtkhghmmgegkiiaaGreatDoor
namespace Go.Proofs.YtkhghmmgegkiiaaGreatDoor
open Go.RowKit

theorem AddrM.set_cell (a : AddrM) (q : Nat) (y : UInt8) : a.cells.set (1 + q) (u8v y) = (AddrM.mk a.six (a.ip.set q y)).cells := by
  rw [AddrM.cells, AddrM.cells, Nat.add_comm, List.set_cons_succ, ← List.map_set]
end Go.Proofs.YtkhghmmgegkiiaaGreatDoor
namespace Go.Proofs.YtkhghmmgegkiiaaGreatDoor
open Go.RowKit

/-- the bytes of the first parts of a text -/
def fourIp (ls : List (List UInt8)) (j : Nat) : List UInt8 := ((ls.take j).map fun s => UInt8.ofNat (numP s 3).1) ++ List.replicate (16 - j) 0
theorem four_set (ls : List (List UInt8)) (j : Nat) (h : j < ls.length) (h16 : j < 16) : (fourIp ls j).set j (UInt8.ofNat (numP (ls.getD j []) 3).1) = fourIp ls (j + 1) := by
  have hl : ((ls.take j).map fun s => UInt8.ofNat (numP s 3).1).length = j := by rw [List.length_map, List.length_take]; omega
  rw [fourIp, List.set_append_right _ _ (by omega), hl, Nat.sub_self, show 16 - j = (15 - j) + 1 from by omega, List.replicate_succ, List.set_cons_zero, fourIp, List.take_add_one, List.getElem?_eq_getElem h, Option.toList_some, List.map_append, List.getD_eq_getElem?_getD, List.getElem?_eq_getElem h, show 16 - (j + 1) = 15 - j from by omega]
  simp
theorem all_take_ls (p : List UInt8 → Bool) (ls : List (List UInt8)) (j : Nat) (h : j < ls.length) : (ls.take (j + 1)).all p = ((ls.take j).all p && p (ls.getD j [])) := by
  rw [List.take_add_one, List.getElem?_eq_getElem h, Option.toList_some, List.all_append, List.getD_eq_getElem?_getD, List.getElem?_eq_getElem h]
  simp
theorem all_not {p : List UInt8 → Bool} {ls : List (List UInt8)} {j : Nat} (h : j < ls.length) (hp : p (ls.getD j []) = false) : ls.all p = false := by
  cases ha : ls.all p with
  | false => rfl
  | true =>
    have := List.all_eq_true.1 ha (ls.getD j []) (by rw [List.getD_eq_getElem?_getD, List.getElem?_eq_getElem h]; exact List.getElem_mem _)
    rw [hp] at this
    cases this
set_option maxRecDepth 100000 in
set_option maxHeartbeats 4000000 in
theorem refFour_any (ls : List (List UInt8)) (h4 : ls.length = 4) (hlen : ∀ s ∈ ls, s.length ≤ 100000) (g k : Nat) (w : World) (hg : g < w.heap.size) (hat : At w g 0 (ls.map strV)) :
    Calls Tryz.prog 78 #[.slice (some ⟨g, 0, none⟩) 4 k] w fun e w' => e = .returned (.tuple #[.agg (fourP ls).1.cells.toArray, .int .i64 ((fourP ls).2 : Int)]) ∧ Below w.heap.size w w' := by
  have HL := Lib.hid h4
  have HG := Lib.hid hg
  have HAT := Lib.hid hat
  have HLEN := Lib.hid hlen
  have HV := Lib.hid (show fourP ls = if ls.all fourOk = true then (⟨false, (ls.map fun s => UInt8.ofNat (numP s 3).1) ++ List.replicate 12 0⟩, 0) else (addr0, 5) from rfl)
  have HU0 := Lib.hid (show (Tryz.prog.info? 25).map (·.size) = some addr0.cells.length from by kernel_rfl)
  have HM := Lib.hid (show Mem w [blkE (w.heap.size + 1) 25 (AddrM.mk false (fourIp ls 0)).cells, blkE w.heap.size 25 addr0.cells] ((w.alloc (.cells #[.bool false, .int .u8 0, .int .u8 0, .int .u8 0, .int .u8 0, .int .u8 0, .int .u8 0, .int .u8 0, .int .u8 0, .int .u8 0, .int .u8 0, .int .u8 0, .int .u8 0, .int .u8 0, .int .u8 0, .int .u8 0, .int .u8 0] 25)).alloc (.cells #[.bool false, .int .u8 0, .int .u8 0, .int .u8 0, .int .u8 0, .int .u8 0, .int .u8 0, .int .u8 0, .int .u8 0, .int .u8 0, .int .u8 0, .int .u8 0, .int .u8 0, .int .u8 0, .int .u8 0, .int .u8 0, .int .u8 0] 25)) from ((Mem.nil w).alloc rfl 25 #[.bool false, .int .u8 0, .int .u8 0, .int .u8 0, .int .u8 0, .int .u8 0, .int .u8 0, .int .u8 0, .int .u8 0, .int .u8 0, .int .u8 0, .int .u8 0, .int .u8 0, .int .u8 0, .int .u8 0, .int .u8 0, .int .u8 0] addr0.cells rfl).alloc (by simp) 25 #[.bool false, .int .u8 0, .int .u8 0, .int .u8 0, .int .u8 0, .int .u8 0, .int .u8 0, .int .u8 0, .int .u8 0, .int .u8 0, .int .u8 0, .int .u8 0, .int .u8 0, .int .u8 0, .int .u8 0, .int .u8 0, .int .u8 0] (AddrM.mk false (fourIp ls 0)).cells rfl)
  clear h4 hg hat hlen
  go_enter Tryz.func78, Tryz.ntmps78
  go_upto_region 2 with fail
  generalize (w.alloc (.cells #[.bool false, .int .u8 0, .int .u8 0, .int .u8 0, .int .u8 0, .int .u8 0, .int .u8 0, .int .u8 0, .int .u8 0, .int .u8 0, .int .u8 0, .int .u8 0, .int .u8 0, .int .u8 0, .int .u8 0, .int .u8 0, .int .u8 0] 25)).alloc (.cells #[.bool false, .int .u8 0, .int .u8 0, .int .u8 0, .int .u8 0, .int .u8 0, .int .u8 0, .int .u8 0, .int .u8 0, .int .u8 0, .int .u8 0, .int .u8 0, .int .u8 0, .int .u8 0, .int .u8 0, .int .u8 0, .int .u8 0] 25) = w1 at HM ⊢
  go_wp2_with fail
  go_loopw [11] (fun i wr => ∃ j : Nat, j ≤ 4 ∧ i = .int .i64 (j : Int) ∧ Hid ((ls.take j).all fourOk = true) ∧ Mem w [blkE (w.heap.size + 1) 25 (AddrM.mk false (fourIp ls j)).cells, blkE w.heap.size 25 addr0.cells] wr) (fun i _ => 4 - (intOf i).toNat)
  case atStart => exact ⟨0, by omega, rfl, Lib.hid rfl, HM.out⟩
  case round =>
    obtain ⟨j, hj, rfl, hall, hM⟩ := hrel
    replace HM := Lib.hid hM
    clear hM
    by_cases hlt : j < 4
    · have hjl : j < ls.length := by have := HL.out; omega
      obtain ⟨s, hs⟩ : ∃ z, ls.getD j [] = z := ⟨_, rfl⟩
      have hcell : wr.cell? ⟨g, j, none⟩ = some (.string ⟨s.toArray⟩) := by
        have h := HAT.out j (.string ⟨s.toArray⟩) (by rw [List.getElem?_map, List.getElem?_eq_getElem hjl, ← hs, List.getD_eq_getElem?_getD, List.getElem?_eq_getElem hjl]; rfl)
        rw [Nat.zero_add] at h
        exact (HM.out.bel.cell (p := ⟨g, j, none⟩) HG.out).trans h
      have HNC := Lib.hid (fun W => refNumberT_any s 3 (by omega) (by have := HLEN.out s (by rw [← hs, List.getD_eq_getElem?_getD, List.getElem?_eq_getElem hjl]; exact List.getElem_mem _); omega) W)
      have HSET := Lib.hid (show (fourIp ls j).set j (UInt8.ofNat (numP s 3).1) = fourIp ls (j + 1) from by rw [← hs]; exact four_set ls j hjl (by omega))
      have HALL := Lib.hid (show (ls.take (j + 1)).all fourOk = fourOk s from by rw [all_take_ls fourOk ls j hjl, hall.out, hs, Bool.true_and])
      have hfo : fourOk s = ((numP s 3).2 && decide ((numP s 3).1 ≤ 255)) := rfl
      have HNOT := Lib.hid (fun h : fourOk s = false => all_not (p := fourOk) hjl (by rw [hs]; exact h))
      generalize hn : numP s 3 = nb at HNC HSET hfo
      obtain ⟨n, ok⟩ := nb
      dsimp only at hfo HSET
      have hjj : (0 : Int) ≤ (j : Int) := by omega
      clear hs hn
      go_wp2_with fail
      refine (HNC.out _).mono ?_
      rintro e w5 ⟨rfl, rfl⟩
      clear hcell
      cases ok
      · have HNO := Lib.hid (show ¬ ls.all fourOk = true from by rw [HNOT.out (by rw [hfo]; rfl)]; decide)
        go_wp2_with (first | (refine wpList_build_as rfl 25 [] rfl #[.bool false, .int .u8 0, .int .u8 0, .int .u8 0, .int .u8 0, .int .u8 0, .int .u8 0, .int .u8 0, .int .u8 0, .int .u8 0, .int .u8 0, .int .u8 0, .int .u8 0, .int .u8 0, .int .u8 0, .int .u8 0, .int .u8 0] ?_ ?_; kernel_rfl) | (refine wpList_store_blk rfl 25 (.tmp 2) (.tmp 27) rfl w.heap.size addr0.cells rfl (by rfl) 25 addr0.cells (HM.out.blk 1 rfl) HU0.out rfl (AddrM.one _) ?_; intro w9 hb9 hg9))
        exact bodyPost_ret (results_obj_tmp rfl _ _ w.heap.size 25 addr0.cells _ rfl hb9 Tryz.underlying25 rfl HU0.out) rfl ⟨by rw [HV.out, if_neg HNO.out]; rfl, (HM.out.put 1 rfl _ hg9 hb9).bel⟩
      by_cases hbig : 255 < n
      · have HNO := Lib.hid (show ¬ ls.all fourOk = true from by rw [HNOT.out (by rw [hfo]; simp; omega)]; decide)
        go_wp2_with (first | (refine wpList_build_as rfl 25 [] rfl #[.bool false, .int .u8 0, .int .u8 0, .int .u8 0, .int .u8 0, .int .u8 0, .int .u8 0, .int .u8 0, .int .u8 0, .int .u8 0, .int .u8 0, .int .u8 0, .int .u8 0, .int .u8 0, .int .u8 0, .int .u8 0, .int .u8 0] ?_ ?_; kernel_rfl) | (refine wpList_store_blk rfl 25 (.tmp 2) (.tmp 27) rfl w.heap.size addr0.cells rfl (by rfl) 25 addr0.cells (HM.out.blk 1 rfl) HU0.out rfl (AddrM.one _) ?_; intro w9 hb9 hg9))
        exact bodyPost_ret (results_obj_tmp rfl _ _ w.heap.size 25 addr0.cells _ rfl hb9 Tryz.underlying25 rfl HU0.out) rfl ⟨by rw [HV.out, if_neg HNO.out]; rfl, (HM.out.put 1 rfl _ hg9 hb9).bel⟩
      · have HOK := Lib.hid (show fourOk s = true from by rw [hfo]; simp; omega)
        obtain ⟨x, hx⟩ : ∃ z, UInt8.ofNat n = z := ⟨_, rfl⟩
        have hxn : IntKind.u8.wrap (n : Int) = (x.toNat : Int) := by rw [← hx, UInt8.toNat_ofNat', IntKind.wrap_u8']; omega
        rw [hx] at HSET
        have fx := (HM.out.blk 0 rfl).cell (1 + j)
        rw [AddrM.ip_cell _ (by show (fourIp ls j).length = 16; rw [fourIp, List.length_append, List.length_map, List.length_take, List.length_replicate]; have := HL.out; omega) j (by omega)] at fx
        have zx := (HM.out.blk 0 rfl).frozen (1 + j)
        clear hx
        go_wp2_with fail
        have hm := HM.out.setCell 0 rfl (1 + j) (.int .u8 (x.toNat : Int))
        have hmv : (AddrM.mk false (fourIp ls j)).cells.set (1 + j) (.int .u8 (x.toNat : Int)) = (AddrM.mk false (fourIp ls (j + 1))).cells := by rw [← HSET.out]; exact AddrM.set_cell _ j x
        rw [hmv] at hm
        exact ⟨⟨j + 1, by omega, by go_num, Lib.hid (HALL.out.trans HOK.out), hm⟩, by simp [intOf]; omega⟩
    · obtain rfl : j = 4 := by omega
      have HALL := Lib.hid (show ls.all fourOk = true from by have h := hall.out; rwa [List.take_of_length_le (by have := HL.out; omega)] at h)
      have HE := Lib.hid (show fourIp ls 4 = (ls.map fun s => UInt8.ofNat (numP s 3).1) ++ List.replicate 12 0 from by rw [fourIp, List.take_of_length_le (by have := HL.out; omega)])
      have hok4 : (AddrM.mk false (fourIp ls 4)).ok := by
        show (fourIp ls 4).length = 16
        rw [fourIp, List.length_append, List.length_map, List.length_take, List.length_replicate]
        have := HL.out
        omega
      have HU1 := Lib.hid (addr_cellsOf _ hok4)
      have HCL := Lib.hid (show addr0.cells.length = (AddrM.mk false (fourIp ls 4)).cells.length from (AddrM.cells_length addr0_ok).trans (AddrM.cells_length hok4).symm)
      obtain ⟨cz, hcz⟩ : ∃ z, (AddrM.mk false (fourIp ls 4)).cells.toArray = z := ⟨_, rfl⟩
      have HCZ := Lib.hid hcz
      clear hcz
      go_wp2_with (first | (refine wpList_load_obj rfl 25 (.tmp 4) rfl (w.heap.size + 1) 0 rfl (AddrM.mk false (fourIp ls 4)).cells (HM.out.blk 0 rfl).all _ Tryz.underlying25 rfl HU1.out ?_; rw [HCZ.out]) | (refine wpList_store_blk rfl 25 (.tmp 2) (.tmp 34) rfl w.heap.size (AddrM.mk false (fourIp ls 4)).cells rfl (by show Value.agg cz = _; rw [HCZ.out]) 25 addr0.cells (HM.out.blk 1 rfl) HU1.out HCL.out (AddrM.one _) ?_; intro w9 hb9 hg9))
      exact bodyPost_ret (results_obj_tmp rfl _ _ w.heap.size 25 (AddrM.mk false (fourIp ls 4)).cells _ rfl hb9 Tryz.underlying25 rfl HU1.out) rfl ⟨by rw [HV.out, if_pos HALL.out, ← HE.out]; rfl, (HM.out.put 1 rfl _ hg9 hb9).bel⟩
end Go.Proofs.YtkhghmmgegkiiaaGreatDoor
