/-
  The mathematics of index tables in order: what Take, Drop, Find and Promote give of one another. No function of the program is named here. Tables made of choices are in order. No function of the program is named here. Equality of two structs, as an operation. Equality of two structs under a guard, as an operation. Two objects are compared by == or !=, in a list of operations and in a drawn region. No function of the program is named here. Index tables that are equal: same of the laws. The capacity of a row. The contract of the reference's DropSlot. The contract of the reference's Promote. The contract of the reference's ValidSlots. A struct that is built under a guard. append of a slice, and of a made one (zeros), onto a row of bytes of the call's own. The walk of IndexTables over what is asked of the program. The contract of index's first at slots. No statement is proved here.
-/
import Derived.RegionTactic
import Derived.Deep.DeepCutAuto
import Derived.Lib.AppendZerosOnto
import Derived.Test.YtboeeopgghldnaaIndexTablesB2
namespace Go.Proofs.Ytboeeopgghldnaa
open Go.RowKit

/-- a table in order, with no index 0 -/
def IxGood (l : List SlotM) : Prop := l.Pairwise (fun a b => a.idx < b.idx) ∧ ∀ s ∈ l, 1 ≤ s.idx
theorem IxGood.nil : IxGood [] := ⟨List.Pairwise.nil, by simp⟩
theorem above_split (l : List SlotM) (n : Nat) (hg : IxGood l) : ∃ A B, l = A ++ B ∧ l.take (aboveM n l) = A ∧ l.drop (aboveM n l) = B ∧ (∀ s ∈ A, s.idx < n) ∧ ∀ s ∈ B, n ≤ s.idx := by
  have h := List.takeWhile_append_dropWhile (p := fun s : SlotM => decide (s.idx < n)) (l := l)
  refine ⟨l.takeWhile fun s => decide (s.idx < n), l.dropWhile fun s => decide (s.idx < n), h.symm, ?_, ?_, fun s hs => ?_, ?_⟩
  · unfold aboveM
    generalize l.takeWhile _ = A at h ⊢
    rw [← h, List.take_left' rfl]
  · unfold aboveM
    generalize l.takeWhile _ = A at h ⊢
    generalize l.dropWhile _ = B at h ⊢
    rw [← h, List.drop_left' rfl]
  · have := List.all_eq_true.1 (List.all_takeWhile (l := l) (p := fun s : SlotM => decide (s.idx < n))) s hs
    simpa using this
  · have hp : (l.dropWhile fun s : SlotM => decide (s.idx < n)).Pairwise (fun a b => a.idx < b.idx) := hg.1.sublist (List.dropWhile_sublist _)
    have hd := List.head?_dropWhile_not (fun s : SlotM => decide (s.idx < n)) l
    revert hp hd
    cases (l.dropWhile fun s : SlotM => decide (s.idx < n)) with
    | nil => intro _ _ s hs; cases hs
    | cons a B =>
      intro hp hd s hs
      have ha : n ≤ a.idx := by simpa using hd
      rcases List.mem_cons.1 hs with rfl | hs
      · exact ha
      · have := (List.pairwise_cons.1 hp).1 s hs
        omega
theorem takenM_false {l : List SlotM} {n : Nat} (h : takenM l n = false) {s : SlotM} (hs : s ∈ l) : s.idx ≠ n := fun e => by
  have := List.any_eq_false.1 h s hs
  simp [e] at this
theorem take_split (l : List SlotM) (wish : Nat) (k : List UInt8) (b : Bool) (hg : IxGood l) (hl : l.length < 32) :
    ∃ A B n i, takeM l wish k b = (A ++ ⟨n, k, b⟩ :: B, n, 0) ∧ l = A ++ B ∧ (∀ s ∈ A, s.idx < n) ∧ (∀ s ∈ B, n < s.idx) ∧ (1 ≤ n ∧ n < 4294967296) ∧ i < 33 ∧ nthI (beginI wish) i = n ∧ takenM l n = false ∧ ∀ j, j < i → takenM l (nthI (beginI wish) j) = true := by
  obtain ⟨i, hi, hf, ht, hj⟩ := free_find (beginI wish) (show l.length ≤ 32 by omega)
  obtain ⟨A, B, hl2, hA, hB, h1, h2⟩ := above_split l (freeM l (beginI wish)) hg
  refine ⟨A, B, freeM l (beginI wish), i, ?_, hl2, h1, fun s hs => ?_, ?_, hi, hf.symm, by rw [hf]; exact ht, hj⟩
  · rw [takeM, if_neg (by omega)]
    simp only [hA, hB]
  · have h3 := h2 s hs
    have h4 := takenM_false (by rw [hf]; exact ht : takenM l (freeM l (beginI wish)) = false) (s := s) (by rw [hl2]; exact List.mem_append_right _ hs)
    omega
  · rw [hf]
    exact nthI_range _ _
theorem good_split {A B : List SlotM} {x : SlotM} (hg : IxGood (A ++ B)) (hA : ∀ s ∈ A, s.idx < x.idx) (hB : ∀ s ∈ B, x.idx < s.idx) (hx : 1 ≤ x.idx) : IxGood (A ++ x :: B) := by
  obtain ⟨h1, h2⟩ := hg
  rw [List.pairwise_append] at h1
  refine ⟨?_, fun s hs => ?_⟩
  · rw [List.pairwise_append]
    refine ⟨h1.1, List.pairwise_cons.2 ⟨hB, h1.2.1⟩, fun a ha c hc => ?_⟩
    rcases List.mem_cons.1 hc with rfl | hc
    · exact hA a ha
    · exact h1.2.2 a ha c hc
  · rcases List.mem_append.1 hs with hs | hs
    · exact h2 s (List.mem_append_left _ hs)
    · rcases List.mem_cons.1 hs with rfl | hs
      · exact hx
      · exact h2 s (List.mem_append_right _ hs)
theorem promM_len (l : List SlotM) (n : Nat) : (promM l n).length = l.length := by simp [promM]
theorem good_valid {l : List SlotM} (h : IxGood l) (hl : l.length ≤ 32) : validSlotsM l = true := by
  rw [validSlotsM, Bool.and_eq_true, decide_eq_true_eq]
  refine ⟨allS_good fun i hi => ?_, hl⟩
  have hs : l[i]? = some l[i] := List.getElem?_eq_getElem hi
  have h0 := h.2 l[i] (List.getElem_mem hi)
  have hz : (!(l[i].idx == 0)) = true := by
    rw [Bool.not_eq_true', Bool.eq_false_iff]
    intro e
    rw [beq_iff_eq] at e
    omega
  cases i with
  | zero => rw [stepS_zero hs, hz]
  | succ i =>
    have hq : l[i]? = some l[i] := List.getElem?_eq_getElem (by omega)
    rw [stepS_succ hq hs, hz, Bool.true_and, decide_eq_true_eq]
    exact List.pairwise_iff_getElem.1 h.1 i (i + 1) (by omega) hi (by omega)
theorem take_good (l : List SlotM) (wish : Nat) (k : List UInt8) (b : Bool) (hg : IxGood l) (hl : l.length < 32) : IxGood (takeM l wish k b).1 := by
  obtain ⟨A, B, n, i, he, rfl, hA, hB, hn, _⟩ := take_split l wish k b hg hl
  rw [he]
  exact good_split hg hA hB hn.1
end Go.Proofs.Ytboeeopgghldnaa
namespace Go.Proofs.Ytboeeopgghldnaa
open Go.RowKit

theorem takeAll_good : ∀ (n : Nat) (xs : List (Nat × UInt8 × Bool)), xs.length = n → n ≤ 32 → IxGood (takeAll xs) := by
  intro n
  induction n with
  | zero =>
    intro xs h _
    rw [List.eq_nil_of_length_eq_zero h]
    exact IxGood.nil
  | succ n ih =>
    intro xs h hn
    rcases List.eq_nil_or_concat xs with rfl | ⟨ys, y, rfl⟩
    · cases h
    · rw [List.concat_eq_append] at h ⊢
      rw [List.length_append, List.length_singleton] at h
      rw [takeAll_snoc]
      exact take_good _ _ _ _ (ih ys (by omega) (by omega)) (by rw [takeAll_len n ys (by omega) (by omega)]; omega)
end Go.Proofs.Ytboeeopgghldnaa
namespace Go.Proofs.Ytboeeopgghldnaa
open Go.RowKit

end Go.Proofs.Ytboeeopgghldnaa
namespace Go.Proofs.Ytboeeopgghldnaa
open Go.RowKit

end Go.Proofs.Ytboeeopgghldnaa
namespace Go.Proofs.Ytboeeopgghldnaa
open Go.RowKit

theorem run_cmp_agg {P : Program} (ρ : Operand → Value) (o : Oper) (t r : TypeId) (i j : Tmp) (neg : Bool) (ho : o.op = .binOp (if neg then .neq else .eql) t (.tmp i) (.tmp j) r) (u v : Array Value) (b : Bool) (w : World) (hx : ρ (.tmp i) = .agg u) (hy : ρ (.tmp j) = .agg v) (hg : P.eqGuardType P.depth t = false) (he : (Op.equalIn 10000 t (.agg u) (.agg v)).run P w = .ok b w) :
    (execOp ρ o).run P w = .ok (.value (.bool (if neg then !b else b))) w := by
  have he2 : (Op.equalIn Op.maxDepth t (.agg u) (.agg v)).run P w = .ok b w := he
  unfold execOp
  cases neg
  · rw [if_neg (by decide)] at ho
    simp only [ho, hx, hy, eqGuard]
    simp [binOp, Op.equal, he2, hg, Result.andThen]
  · rw [if_pos rfl] at ho
    simp only [ho, hx, hy, eqGuard]
    simp [binOp, Op.equal, he2, hg, Result.andThen]
theorem wpList_neq_agg {P : Program} {w : World} {ops : Array Oper} {rest : List Oper} {o : Oper} {a : Act} {Q : Exit → Act → World → Prop} (hw : Region.wanted o (yielded ops a.tmps) = true) (t r : TypeId) (i j : Tmp) (ho : o.op = .binOp .neq t (.tmp i) (.tmp j) r) (u v : Array Value) (b : Bool)
    (hx : a.eval (.tmp i) = .agg u) (hy : a.eval (.tmp j) = .agg v) (hg : P.eqGuardType P.depth t = false) (he : (Op.equalIn 10000 t (.agg u) (.agg v)).run P w = .ok b w)
    (h : wpList P ops Q rest (a.put o.dst (.bool (!b))) w) : wpList P ops Q (o :: rest) a w :=
  wpList_step fun K hK => by
    rw [if_pos hw]
    have hr := run_cmp_agg a.eval o t r i j true ho u v b w hx hy hg he
    unfold Oper.wp
    rw [hr]
    exact hK _ _ h
theorem yields_cmp_agg {P : Program} {ops : Array Oper} {S : World → Prop} {o : Oper} {a : Act} (neg : Bool) (hw : Region.wanted o (yielded ops a.tmps) = true) (t r : TypeId) (i j : Tmp) (ho : o.op = .binOp (if neg then .neq else .eql) t (.tmp i) (.tmp j) r) (u v : Array Value) (b : Bool)
    (hx : a.eval (.tmp i) = .agg u) (hy : a.eval (.tmp j) = .agg v) (hg : P.eqGuardType P.depth t = false) (he : ∀ w, (Op.equalIn 10000 t (.agg u) (.agg v)).run P w = .ok b w) : YieldsIf P ops S o (.bool (if neg then !b else b)) a :=
  .inl ⟨hw, fun w _ => run_cmp_agg a.eval o t r i j neg ho u v b w hx hy hg (he w)⟩
end Go.Proofs.Ytboeeopgghldnaa
namespace Go.Proofs.Ytboeeopgghldnaa
open Go.RowKit

set_option maxRecDepth 100000 in
set_option maxHeartbeats 8000000 in
theorem same_any (A A' : Option Addr) (n c c' : Nat) (l : List SlotM) (hn : n ≤ 1000) (w : World) (ha : SlRd w w.heap.size A n l) (hb : SlRd w w.heap.size A' n l) :
    Calls Try.prog 11 #[.slice A n c, .slice A' n c'] w fun e w' => e = .returned (.bool true) ∧ Below w.heap.size w w' := by
  have HA := Lib.hid ha
  have HB := Lib.hid hb
  clear ha hb
  have sn : ((n : Int) != (n : Int)) = false := by simp
  go_enter Try.func11, Try.ntmps11
  go_wp2_with fail
  clear sn
  go_loopw [13] (fun i wr => ∃ j : Nat, j ≤ n ∧ i = .int .i64 (j : Int) ∧ Below w.heap.size w wr) (fun i _ => n - (intOf i).toNat)
  case atStart => exact ⟨0, Nat.zero_le _, rfl, Below.refl _ _⟩
  case round =>
    obtain ⟨j, hj, rfl, hW⟩ := hrel
    have HW := Lib.hid hW
    clear hW
    by_cases hjn : j < n
    · have d1 : decide ((j : Int) < (n : Int)) = true := by simp; omega
      obtain ⟨b, off, rfl⟩ := HA.out.1.addr (by omega)
      obtain ⟨b', off', rfl⟩ := HB.out.1.addr (by omega)
      obtain ⟨r, hr⟩ : ∃ r, l[j]? = some r := ⟨l[j]'(by rw [HA.out.len]; exact hjn), List.getElem?_eq_getElem _⟩
      have HOK := Lib.hid (HA.out.ok hr)
      have HLA := Lib.hid (show ∀ W, Below w.heap.size w W → At W b (off + j * 34) r.cells from fun W hW => (HA.out.at j r hr).2.mono hW (HA.out.at j r hr).1)
      have HLB := Lib.hid (show ∀ W, Below w.heap.size w W → At W b' (off' + j * 34) r.cells from fun W hW => (HB.out.at j r hr).2.mono hW (HB.out.at j r hr).1)
      have heq := fun w' : World => (slot_eqd r r HOK.out HOK.out w' true (by simp))
      obtain ⟨ck, hck⟩ : ∃ c, (r.cells).toArray = c := ⟨_, rfl⟩
      rw [hck] at heq
      have HEQ := Lib.hid heq
      have HCK := Lib.hid hck
      clear hck hr heq
      go_upto_region 6 with fail
      clear d1
      refine wp_region_held_drew (S := fun W' => Below w.heap.size w W') (by kernel_rfl) (HW.out.drew) (fun hHeld => ?_)
      refine take_first (v := ?_) 0 rfl (by kernel_rfl) (by kernel_rfl) (by kernel_rfl) (fun _ _ _ h => h) (Or.inl ⟨by rfl, ?_⟩) (by assumption) ?_
      rotate_left
      · (intro w hSw; (try dsimp only at hSw); go_simp; try with_reducible rfl)
      (try simp only [Act.put, List.setIfInBounds_toArray, List.set_cons_zero, List.set_cons_succ])
      refine take_first (v := ?_) 1 rfl (by kernel_rfl) (by kernel_rfl) (by kernel_rfl) (fun _ _ _ h => h) (Or.inl ⟨by rfl, ?_⟩) (by assumption) ?_
      rotate_left
      · (intro w hSw; (try dsimp only at hSw); go_simp; try with_reducible rfl)
      (try simp only [Act.put, List.setIfInBounds_toArray, List.set_cons_zero, List.set_cons_succ])
      refine take_first (v := ?_) 2 rfl (by kernel_rfl) (by kernel_rfl) (by kernel_rfl) (fun _ _ _ h => h) (Or.inl ⟨by rfl, ?_⟩) (by assumption) ?_
      rotate_left
      · (intro w hSw; (try dsimp only at hSw); go_simp; try with_reducible rfl)
      (try simp only [Act.put, List.setIfInBounds_toArray, List.set_cons_zero, List.set_cons_succ])
      refine take_first (v := .agg ck) 3 rfl (by kernel_rfl) (by kernel_rfl) (by kernel_rfl) (fun _ _ _ h => h) (by rw [← HCK.out]; exact yields_load_obj (by rfl) 34 (.tmp 18) rfl b _ rfl _ (fun W hW => HLA.out W hW) _ Try.underlying34 rfl (slot_cellsOf r HOK.out)) (by assumption) ?_
      (try simp only [Act.put, List.setIfInBounds_toArray, List.set_cons_zero, List.set_cons_succ])
      refine take_first (v := ?_) 4 rfl (by kernel_rfl) (by kernel_rfl) (by kernel_rfl) (fun _ _ _ h => h) (Or.inl ⟨by rfl, ?_⟩) (by assumption) ?_
      rotate_left
      · (intro w hSw; (try dsimp only at hSw); go_simp; try with_reducible rfl)
      (try simp only [Act.put, List.setIfInBounds_toArray, List.set_cons_zero, List.set_cons_succ])
      refine take_first (v := ?_) 5 rfl (by kernel_rfl) (by kernel_rfl) (by kernel_rfl) (fun _ _ _ h => h) (Or.inl ⟨by rfl, ?_⟩) (by assumption) ?_
      rotate_left
      · (intro w hSw; (try dsimp only at hSw); go_simp; try with_reducible rfl)
      (try simp only [Act.put, List.setIfInBounds_toArray, List.set_cons_zero, List.set_cons_succ])
      refine take_first (v := ?_) 6 rfl (by kernel_rfl) (by kernel_rfl) (by kernel_rfl) (fun _ _ _ h => h) (Or.inl ⟨by rfl, ?_⟩) (by assumption) ?_
      rotate_left
      · (intro w hSw; (try dsimp only at hSw); go_simp; try with_reducible rfl)
      (try simp only [Act.put, List.setIfInBounds_toArray, List.set_cons_zero, List.set_cons_succ])
      refine take_first (v := .agg ck) 7 rfl (by kernel_rfl) (by kernel_rfl) (by kernel_rfl) (fun _ _ _ h => h) (by rw [← HCK.out]; exact yields_load_obj (by rfl) 34 (.tmp 22) rfl b' _ rfl _ (fun W hW => HLB.out W hW) _ Try.underlying34 rfl (slot_cellsOf r HOK.out)) (by assumption) ?_
      (try simp only [Act.put, List.setIfInBounds_toArray, List.set_cons_zero, List.set_cons_succ])
      refine take_first (v := .bool false) 8 rfl (by kernel_rfl) (by kernel_rfl) (by kernel_rfl) (fun _ _ _ h => h) (yields_cmp_agg true (by rfl) 34 34 19 23 rfl ck ck true rfl rfl slot_noguard (fun w' => HEQ.out w')) (by assumption) ?_
      (try simp only [Act.put, List.setIfInBounds_toArray, List.set_cons_zero, List.set_cons_succ])
      refine wpAnyH_done (by kernel_rfl) ?_ _
      go_wp2
      go_roundw
      case rel => exact ⟨j + 1, by omega, by go_num, by assumption⟩
      case measure => simp [intOf]; omega
    · obtain rfl : j = n := by omega
      have d1 : decide ((j : Int) < (j : Int)) = false := by simp
      have HF := Lib.hid HW.out
      go_wp2
      go_ret
      exact ⟨rfl, HF.out⟩
end Go.Proofs.Ytboeeopgghldnaa
namespace Go.Proofs.Ytboeeopgghldnaa
open Go.RowKit

theorem own_cap {w : World} {base e size n c : Nat} {A : Option Addr} {xs : List Value} (h : w.ownsRow base e size (.slice A n c) n xs) : n ≤ c ∧ c ≤ maxLen := by
  rcases h.2 with ⟨h, h0⟩ | ⟨g, cap, cur, h, _, _, h1, h2, _⟩
  · injection h with _ _ h
    exact ⟨by omega, by unfold maxLen; omega⟩
  · injection h with _ _ h
    subst h
    exact ⟨h1, h2⟩
end Go.Proofs.Ytboeeopgghldnaa
namespace Go.Proofs.Ytboeeopgghldnaa
open Go.RowKit

theorem dropM_snoc (l : List SlotM) (s : SlotM) (i : Nat) : dropM (l ++ [s]) i = dropM l i ++ (if (s.idx == i) = true then [] else [s]) := by
  rw [dropM, dropM, List.filter_append]
  cases h : s.idx == i <;> simp [h]
theorem dropM_ok {l : List SlotM} (h : ∀ s ∈ l, s.ok) (i : Nat) : ∀ s ∈ dropM l i, s.ok := fun s hs => h s (List.mem_filter.1 hs).1
theorem dropM_le (l : List SlotM) (i : Nat) : (dropM l i).length ≤ l.length := List.length_filter_le _ _
set_option maxRecDepth 100000 in
set_option maxHeartbeats 8000000 in
theorem refDrop_any : IxDropC 13 := by
  intro A n c l i w hi harg
  have hn := harg.1
  have HA := Lib.hid harg.2.2.2
  obtain ⟨ik, hik, hiz, his, hib⟩ := slotInfo
  have HKI := Lib.hid (And.intro hik (And.intro hiz (And.intro his hib)))
  clear hik hiz his hib
  clear harg
  go_enter Try.func13, Try.ntmps13
  go_wp2_with fail
  go_loopw [10, 5] (fun v vo wr => ∃ j m : Nat, j ≤ n ∧ v = .int .i64 (j : Int) ∧ m = (dropM (l.take j) i).length ∧ wr.ownsRow w.heap.size 34 34 vo m (slsV (dropM (l.take j) i)).flatten ∧ Below w.heap.size w wr) (fun v _ _ => n - (intOf v).toNat)
  case atStart => exact ⟨0, 0, by omega, rfl, rfl, World.ownsRow_nil _ _ _ _, Below.refl _ _⟩
  case round =>
    obtain ⟨j, m, hj, rfl, hm, hown, hbl⟩ := hrel
    have HO := Lib.hid (And.intro hown hbl)
    have HBL := Lib.hid hbl
    have HMM := Lib.hid hm
    clear hown hbl hm
    by_cases hjn : j < n
    · have d1 : decide ((j : Int) < (n : Int)) = true := by simp; omega
      have HLE := Lib.hid (show m ≤ n from by rw [HMM.out]; exact Nat.le_trans (dropM_le _ _) (by rw [List.length_take]; omega))
      obtain ⟨b, off, rfl⟩ := HA.out.1.addr (by omega)
      obtain ⟨s, hs⟩ : ∃ s, l[j]? = some s := ⟨l[j]'(by rw [HA.out.len]; exact hjn), List.getElem?_eq_getElem _⟩
      have HOK := Lib.hid (HA.out.ok hs)
      have hat := HA.out.at j s hs
      have HLA := Lib.hid (hat.2.mono HBL.out hat.1)
      have HJS := Lib.hid hs
      obtain ⟨sc, hsc⟩ : ∃ z, s.cells.toArray = z := ⟨_, rfl⟩
      have HSC := Lib.hid hsc
      clear hat hs hsc
      have HZ := Lib.hid (Blk.new wr 34 slotZ)
      go_upto_region 5 with (first | (refine wpList_load_obj rfl 34 (.tmp 12) rfl b _ rfl s.cells HLA.out _ Try.underlying34 rfl (slot_cellsOf s HOK.out) ?_; rw [HSC.out]) | (refine wpList_store_obj rfl 34 (.tmp 7) (.tmp 13) rfl wr.heap.size 0 s.cells rfl (by show Value.agg sc = _; rw [HSC.out]) 34 slotZ HZ.out (slot_cellsOf s HOK.out) (by rw [SlotM.cells_length HOK.out, slotZ_length]; omega) (slot_one s) ?_; intro w4 hb4 hg4))
      rw [setL_all slotZ s.cells (by rw [SlotM.cells_length HOK.out, slotZ_length])] at hb4
      have HSN := Lib.hid (take_snoc HJS.out)
      have HBF := Lib.hid (below_fresh hg4)
      have HP := Lib.hid hb4
      have HO4 := Lib.hid (show w4.ownsRow w.heap.size 34 34 u5 m (slsV (dropM (l.take j) i)).flatten ∧ Below w.heap.size w w4 from ⟨own_below HO.out.1 HBF.out, HO.out.2.trans (HBF.out.mono HO.out.2.size)⟩)
      clear hb4 hg4 HO HBF HZ d1 HLA HBL
      generalize wr.heap.size = P1 at HP ⊢
      have fx := idx_at HP.out.all
      obtain ⟨y, hy⟩ : ∃ y, (s.idx == i) = y := ⟨_, rfl⟩
      have heq : ((s.idx : Int) == (i : Int)) = y := by rw [← hy, Bool.eq_iff_iff, beq_iff_eq, beq_iff_eq]; omega
      have HY := Lib.hid hy
      clear hy
      have heq2 : ((s.idx : Int) != (i : Int)) = !y := by rw [← heq]; rfl
      have HRE := Lib.hid (show dropM (l.take (j + 1)) i = dropM (l.take j) i ++ (if y = true then [] else [s]) from by rw [HSN.out, dropM_snoc, HY.out])
      clear heq
      cases y with
      | true =>
        go_wp2_with fail
        go_roundw
        case rel => exact ⟨j + 1, m, by omega, by go_num, by rw [HRE.out]; simpa using HMM.out, by rw [HRE.out]; simpa using HO4.out.1, HO4.out.2⟩
        case measure => simp [intOf]; omega
      | false =>
        go_wp2_with (first | (refine wpList_load_obj rfl 34 (.tmp 7) rfl P1 0 rfl s.cells HP.out.all _ Try.underlying34 rfl (slot_cellsOf s HOK.out) ?_; rw [HSC.out]) | (refine wpList_buildOne rfl 23 34 (.tmp 19) rfl sc rfl 34 Try.underlying23 ik HKI.out.1 HKI.out.2.2.1 _ HKI.out.2.1 (by omega) (by omega) (by rw [← HSC.out, List.size_toArray, SlotM.cells_length HOK.out]) ?_) | (refine wpList_append_own_at _ rfl (.tmp 18) (.tmp 20) 23 rfl w.heap.size 34 ik _ 34 40 Try.underlying23 HKI.out.1 HKI.out.2.1 HKI.out.2.2.1 HKI.out.2.2.2 (by rfl) (by omega) u5 m _ rfl (HO4.out.1.alloc (.cells sc 34)) ⟨w4.heap.size, 0, none⟩ 1 1 s.cells rfl (by rw [SlotM.cells_length HOK.out]) (fun q v hv => by rw [Go.WideShapes.add_plain, Nat.zero_add, ← HSC.out, (Blk.new w4 34 s.cells).cell]; exact hv) (slot_one s) (by unfold maxLen; have := HLE.out; omega) (by have := HLE.out; omega) (HO4.out.2.alloc HO4.out.2.size (.cells sc 34)).size ?_; intro v6 w6 ho6 hg6 _ _))
        go_roundw
        case rel => exact ⟨j + 1, m + 1, by omega, by go_num, by rw [HRE.out, List.length_append, ← HMM.out]; rfl, by rw [HRE.out]; show w6.ownsRow _ _ _ _ _ (slsV (_ ++ [s])).flatten; rw [slsV_snoc]; exact ho6, (HO4.out.2.alloc HO4.out.2.size (.cells sc 34)).grown hg6 (HO4.out.2.alloc HO4.out.2.size (.cells sc 34)).size (own_from HO4.out.1)⟩
        case measure => simp [intOf]; omega
    · obtain rfl : n = j := by omega
      obtain ⟨A9, c9, rfl⟩ : ∃ A c, u5 = .slice A m c := by
        rcases HO.out.1.2 with ⟨h, h0⟩ | ⟨g, cap, cur, h, _⟩
        · exact ⟨none, 0, by rw [h, h0]⟩
        · exact ⟨_, _, h⟩
      have d1 : decide ((n : Int) < (n : Int)) = false := by simp
      have htk : l.take n = l := List.take_of_length_le (by rw [HA.out.len]; exact Nat.le_refl _)
      rw [htk] at HO HMM
      have HF := Lib.hid HO.out
      have HX := Lib.hid HMM.out
      clear HO HMM htk HBL
      go_wp2
      go_ret
      have hx := HX.out
      subst hx
      exact ⟨_, rfl, A9, c9, rfl, (own_cap HF.out.1).1, (own_cap HF.out.1).2, SlRd.of_own rfl (dropM_ok HA.out.2 i) HF.out.1, HF.out.2⟩
end Go.Proofs.Ytboeeopgghldnaa
namespace Go.Proofs.Ytboeeopgghldnaa
open Go.RowKit

theorem flat_cell {k : Nat} {rest : List Value} : ∀ {cs : List (List Value)}, (∀ o ∈ cs, o.length = k) → ∀ (j : Nat) (o : List Value), cs[j]? = some o → ∀ (i : Nat) (v : Value), i < k → (cs.flatten ++ rest).set (j * k + i) v = (cs.set j (o.set i v)).flatten ++ rest
  | [], _, j, o, hj, _, _, _ => by simp at hj
  | a :: r, h, 0, o, hj, i, v, hi => by
    simp only [List.getElem?_cons_zero, Option.some.injEq] at hj
    subst hj
    have ha := h a (List.mem_cons_self ..)
    rw [Nat.zero_mul, Nat.zero_add, List.set_cons_zero, List.flatten_cons, List.flatten_cons, List.append_assoc, List.append_assoc, List.set_append_left _ _ (by omega)]
  | a :: r, h, j + 1, o, hj, i, v, hi => by
    have ha := h a (List.mem_cons_self ..)
    have ih := flat_cell (rest := rest) (fun x hx => h x (List.mem_cons_of_mem _ hx)) j o (by simpa using hj) i v hi
    rw [List.set_cons_succ, List.flatten_cons, List.flatten_cons, List.append_assoc, List.append_assoc, ← ih, Nat.succ_mul, List.set_append_right _ _ (by omega), ha]
    congr 2
    omega
def promTo (l : List SlotM) (n j : Nat) : List SlotM := (l.take j).map (promS n) ++ l.drop j
theorem promTo_at {l : List SlotM} {n j : Nat} {s : SlotM} (h : l[j]? = some s) : (promTo l n j)[j]? = some s := by
  have hj := (List.getElem?_eq_some_iff.1 h).1
  rw [promTo, List.getElem?_append_right (by simp; omega)]
  simp only [List.length_map, List.length_take, List.getElem?_drop]
  rw [show min j l.length = j by omega, show j + (j - j) = j by omega]
  exact h
theorem promTo_next {l : List SlotM} {n j : Nat} {s : SlotM} (h : l[j]? = some s) : promTo l n (j + 1) = (promTo l n j).set j (promS n s) := by
  have hj := (List.getElem?_eq_some_iff.1 h).1
  rw [promTo, promTo, take_snoc h, List.map_append, List.append_assoc, List.set_append_right _ _ (by simp; omega)]
  congr 1
  simp only [List.length_map, List.length_take]
  rw [show j - min j l.length = 0 by omega, List.drop_eq_getElem_cons hj, List.set_cons_zero]
  rfl
theorem promS_ok {n : Nat} {s : SlotM} (h : s.ok) : (promS n s).ok := by
  unfold promS
  split
  · exact ⟨h.1, h.2⟩
  · exact h
theorem promTo_ok {l : List SlotM} (h : ∀ s ∈ l, s.ok) (n j : Nat) : ∀ s ∈ promTo l n j, s.ok := by
  intro s hs
  rcases List.mem_append.1 hs with hs | hs
  · obtain ⟨q, hq, rfl⟩ := List.mem_map.1 hs
    exact promS_ok (h q (List.mem_of_mem_take hq))
  · exact h s (List.mem_of_mem_drop hs)
theorem promTo_len (l : List SlotM) (n j : Nat) : (promTo l n j).length = l.length := by
  rw [promTo, List.length_append, List.length_map, List.length_take, List.length_drop]
  omega
theorem slot_set {s : SlotM} (h : s.ok) : s.cells.set 33 (.bool true) = (SlotM.mk s.idx s.peer true).cells := by
  rw [SlotM.cells, SlotM.cells, List.set_cons_succ, List.set_append_right _ _ (by rw [List.length_map, h.2]; omega), List.length_map, h.2]
  rfl
theorem slsV_set (l : List SlotM) (j : Nat) (s : SlotM) : slsV (l.set j s) = (slsV l).set j s.cells := by rw [slsV, slsV, List.map_set]
set_option maxRecDepth 100000 in
set_option maxHeartbeats 8000000 in
theorem refProm_any : IxPromC 15 := by
  intro A n c l i w hi harg
  have hn := harg.1
  have HA := Lib.hid harg.2.2.2
  obtain ⟨ik, hik, hiz, his, hib⟩ := slotInfo
  have HKI := Lib.hid (And.intro hik (And.intro hiz (And.intro his hib)))
  clear hik hiz his hib
  clear harg
  go_enter Try.func15, Try.ntmps15
  go_upto_region 2 with (refine wpList_append_rows _ rfl (.const (.slice none 0 0)) (.tmp 7) 23 rfl w.heap.size 34 ik _ 34 40 Try.underlying23 HKI.out.1 HKI.out.2.1 HKI.out.2.2.1 HKI.out.2.2.2 (by rfl) (by omega) (.slice none 0 0) 0 [] rfl (World.ownsRow_nil _ _ _ _) _ A n c (slsV l) rfl HA.out.1 (slsV_one l) (by unfold maxLen; omega) (by omega) (Nat.le_refl _) ?_; intro v1 w3 hown1 hg1 _)
  rw [Nat.zero_add, List.nil_append] at hown1
  obtain ⟨A5, c5, rfl, hc1, hc2, hlo⟩ := own_sliceK hown1
  have hb3 : Below w.heap.size w w3 := (Below.refl _ _).grown hg1 (Nat.le_refl _) (by simp [Value.ownBlock])
  rcases Nat.eq_zero_or_pos n with h0 | h0
  · subst h0
    have hl0 : l = [] := List.eq_nil_of_length_eq_zero HA.out.len
    have HF := Lib.hid (And.intro hb3 (And.intro hc1 hc2))
    clear hown1 hg1 hb3 hc1 hc2 hlo
    go_wp2_with fail
    go_loopw [11] (fun v wr => v = .int .i64 0 ∧ Below w.heap.size w wr) (fun _ _ => 0)
    case atStart => exact ⟨rfl, HF.out.1⟩
    case round =>
      obtain ⟨rfl, hbl⟩ := hrel
      have HB := Lib.hid hbl
      clear hbl
      go_wp2
      go_ret
      subst hl0
      exact ⟨_, rfl, A5, c5, rfl, HF.out.2.1, HF.out.2.2, SlRd.nil, HB.out⟩
  · rcases hown1.2 with ⟨_, h1⟩ | ⟨g, cap, cur, hv, hbg, hg, hnc, hcm, hs, hcr⟩
    · omega
    injection hv with hA5 _ hc5
    subst hA5 hc5
    obtain ⟨rest, hrest⟩ : ∃ z, cur.toList.drop (n * 34) = z := ⟨_, rfl⟩
    have hblk : Blk w3 g 34 ((slsV l).flatten ++ rest) := by
      unfold Blk
      rw [← hcr, ← hrest, List.take_append_drop, Array.toArray_toList]
      exact hg
    have HF := Lib.hid (And.intro hblk (And.intro hb3 (And.intro hbg (And.intro hc1 hc2))))
    have HOK := Lib.hid HA.out.2
    have HLN := Lib.hid HA.out.len
    clear hown1 hg1 hb3 hc1 hc2 hlo hbg hg hnc hcm hs hcr hrest hblk
    go_wp2_with fail
    go_loopw [11] (fun v wr => ∃ j : Nat, j ≤ n ∧ v = .int .i64 (j : Int) ∧ Blk wr g 34 ((slsV (promTo l i j)).flatten ++ rest) ∧ Below w.heap.size w wr) (fun v _ => n - (intOf v).toNat)
    case atStart => exact ⟨0, Nat.zero_le _, rfl, by simpa [promTo] using HF.out.1, HF.out.2.1⟩
    case round =>
      obtain ⟨j, hj, rfl, hbk, hbl⟩ := hrel
      by_cases hjn : j < n
      · have d1 : decide ((j : Int) < (n : Int)) = true := by simp; omega
        obtain ⟨s, hs⟩ : ∃ s, l[j]? = some s := ⟨l[j]'(by rw [HLN.out]; exact hjn), List.getElem?_eq_getElem _⟩
        have hso := HOK.out s (List.mem_of_getElem? hs)
        have hkl : ∀ o ∈ slsV (promTo l i j), o.length = 34 := fun o ho => by
          obtain ⟨q, hq, rfl⟩ := List.mem_map.1 ho
          exact SlotM.cells_length (promTo_ok HOK.out i j q hq)
        have hat : (slsV (promTo l i j))[j]? = some s.cells := by rw [slsV, List.getElem?_map, promTo_at hs]; rfl
        have hAt := blk_at hbk hkl hat
        have fx : wr.cell? ⟨g, j * 34, none⟩ = some (.int .u32 (s.idx : Int)) := idx_at hAt
        have fy : wr.cell? ⟨g, j * 34 + 33, none⟩ = some (.bool s.sess) := hAt 33 _ (slot_sess hso)
        have zy := hbk.frozen (j * 34 + 33)
        have hset := flat_cell (rest := rest) hkl j s.cells hat 33 (.bool true) (by omega)
        rw [slot_set hso, ← slsV_set] at hset
        have hb2 := hbk.set_ (j * 34 + 33) (.bool true)
        rw [hset] at hb2
        have hl2 : Below w.heap.size w (wr.setCell ⟨g, j * 34 + 33, none⟩ (.bool true)) := hbl.setCell HF.out.2.2.1 _
        obtain ⟨y, hy⟩ : ∃ y, (s.idx == i) = y := ⟨_, rfl⟩
        have heq : ((s.idx : Int) == (i : Int)) = y := by rw [← hy, Bool.eq_iff_iff, beq_iff_eq, beq_iff_eq]; omega
        have HNX := Lib.hid (promTo_next (n := i) hs)
        have HJS := Lib.hid hs
        have HB := Lib.hid (And.intro hbk (And.intro hbl (And.intro hb2 hl2)))
        have HY := Lib.hid hy
        clear hs hso hkl hat hAt hset hb2 hl2 hbk hbl hy
        cases y with
        | true =>
          have hp : promS i s = ⟨s.idx, s.peer, true⟩ := by unfold promS; rw [if_pos (by simpa using HY.out)]
          rw [hp] at HNX
          go_wp2_with fail
          go_roundw
          case rel => exact ⟨j + 1, by omega, by go_num, by rw [HNX.out]; exact HB.out.2.2.1, HB.out.2.2.2⟩
          case measure => simp [intOf]; omega
        | false =>
          have hp : promS i s = s := by unfold promS; rw [if_neg (by simpa using HY.out)]
          have hsame : (promTo l i j).set j s = promTo l i j := by
            refine List.ext_getElem? fun q => ?_
            rw [List.getElem?_set]
            split
            · rename_i e
              subst e
              rw [if_pos (by rw [promTo_len]; exact (List.getElem?_eq_some_iff.1 HJS.out).1)]
              exact (promTo_at HJS.out).symm
            · rfl
          rw [hp, hsame] at HNX
          go_wp2_with fail
          go_roundw
          case rel => exact ⟨j + 1, by omega, by go_num, by rw [HNX.out]; exact HB.out.1, HB.out.2.1⟩
          case measure => simp [intOf]; omega
      · obtain rfl : n = j := by omega
        have d1 : decide ((n : Int) < (n : Int)) = false := by simp
        have hp : promTo l i n = promM l i := by rw [promTo, List.take_of_length_le (by rw [HLN.out]; exact Nat.le_refl _), List.drop_of_length_le (by rw [HLN.out]; exact Nat.le_refl _), List.append_nil]; rfl
        rw [hp] at hbk
        have hko : ∀ s ∈ promM l i, s.ok := by rw [← hp]; exact promTo_ok HOK.out i n
        have hln : (promM l i).length = n := by rw [← hp, promTo_len]; exact HLN.out
        have hrow := blk_row hbk (fun o ho => by
          obtain ⟨q, hq, rfl⟩ := List.mem_map.1 ho
          exact SlotM.cells_length (hko q hq)) (show (slsV (promM l i)).length = n from by rw [slsV, List.length_map]; exact hln)
        have HX := Lib.hid (And.intro hrow (And.intro hko (And.intro hln hbl)))
        clear hp hbk hbl hko hln hrow
        go_wp2
        go_ret
        exact ⟨_, rfl, _, _, by rw [HX.out.2.2.1]; rfl, by rw [HX.out.2.2.1]; exact HF.out.2.2.2.1, HF.out.2.2.2.2, ⟨by rw [HX.out.2.2.1]; exact HX.out.1, HX.out.2.1⟩, HX.out.2.2.2⟩
end Go.Proofs.Ytboeeopgghldnaa
namespace Go.Proofs.Ytboeeopgghldnaa
open Go.RowKit

set_option maxRecDepth 100000 in
set_option maxHeartbeats 16000000 in
theorem refValidSlots_any : IxValidC 17 := by
  intro A n c l w harg
  have hn := harg.1
  have HA := Lib.hid harg.2.2.2
  clear harg
  go_enter Try.func17, Try.ntmps17
  go_wp2_with fail
  go_loopw [7] (fun i wr => ∃ j : Nat, j ≤ n ∧ i = .int .i64 (j : Int) ∧ (∀ k, k < j → stepS l k = true) ∧ Below w.heap.size w wr) (fun i _ => n - (intOf i).toNat)
  case atStart => exact ⟨0, by omega, rfl, fun k hk => absurd hk (by omega), Below.refl _ _⟩
  case round =>
    obtain ⟨j, hj, rfl, hs, hW⟩ := hrel
    have HW := Lib.hid hW
    have HS := Lib.hid hs
    clear hW hs
    by_cases hjn : j < n
    · have d1 : decide ((j : Int) < (n : Int)) = true := by simp; omega
      obtain ⟨b, off, rfl⟩ := HA.out.1.addr (by omega)
      obtain ⟨s, hs⟩ : ∃ s, l[j]? = some s := ⟨l[j]'(by rw [HA.out.len]; exact hjn), List.getElem?_eq_getElem _⟩
      have HOK := Lib.hid (HA.out.ok hs)
      have hat := HA.out.at j s hs
      have HLA := Lib.hid (hat.2.mono HW.out hat.1)
      have HJR := Lib.hid hs
      clear hat hs
      obtain ⟨sc, hsc⟩ : ∃ z, s.cells.toArray = z := ⟨_, rfl⟩
      have HSC := Lib.hid hsc
      clear hsc
      have HZ := Lib.hid (Blk.new wr 34 slotZ)
      go_upto_region 4 with (first | (refine wpList_load_obj rfl 34 (.tmp 10) rfl b _ rfl s.cells HLA.out _ Try.underlying34 rfl (slot_cellsOf s HOK.out) ?_; rw [HSC.out]) | (refine wpList_store_obj rfl 34 (.tmp 4) (.tmp 11) rfl wr.heap.size 0 s.cells rfl (by show Value.agg sc = _; rw [HSC.out]) 34 slotZ HZ.out (slot_cellsOf s HOK.out) (by rw [SlotM.cells_length HOK.out, slotZ_length]; omega) (slot_one s) ?_; intro w5 hb4 hg4))
      rw [setL_all slotZ s.cells (by rw [SlotM.cells_length HOK.out, slotZ_length])] at hb4
      have HM := Lib.hid (show Lows w [blkL wr.heap.size 34 s.cells] w5 from ⟨fun f hf => by cases List.mem_singleton.1 hf; exact hb4, HW.out.trans ((below_fresh hg4).mono HW.out.size)⟩)
      clear hb4 hg4 HW HZ d1 HLA
      generalize wr.heap.size = P1 at HM ⊢
      by_cases hv : s.idx = 0
      · have HR := Lib.hid (show validSlotsM l = false from by rw [validSlotsM, allS_bad (by rw [HA.out.len]; exact hjn) (stepS_bad HJR.out hv)]; rfl)
        have dv : ((s.idx : Int) == 0) = true := by rw [beq_iff_eq]; omega
        clear hv
        refine wp_region_held_drew (S := fun W' => Lows w [blkL P1 34 s.cells] W') (by kernel_rfl) (HM.out.drew) (fun hHeld => ?_)
        replace HM := Lib.hid HM.out.drew
        generalize w5.drew = wd1 at HM hHeld ⊢
        refine take_first (v := ?_) 0 rfl (by kernel_rfl) (by kernel_rfl) (by kernel_rfl) (fun _ _ _ h => h) (Or.inl ⟨by rfl, ?_⟩) (by assumption) ?_
        rotate_left
        · (intro w hSw; (try dsimp only at hSw); go_simp; try with_reducible rfl)
        (try simp only [Act.put, List.setIfInBounds_toArray, List.set_cons_zero, List.set_cons_succ])
        refine take_first (v := ?_) 1 rfl (by kernel_rfl) (by kernel_rfl) (by kernel_rfl) (fun _ _ _ h => h) (Or.inl ⟨by rfl, ?_⟩) (by assumption) ?_
        rotate_left
        · (intro w hSw; (try dsimp only at hSw); have fb := idx_at (Lows.blk hSw 0 rfl).all; go_simp; try with_reducible rfl)
        (try simp only [Act.put, List.setIfInBounds_toArray, List.set_cons_zero, List.set_cons_succ])
        refine take_first (v := ?_) 2 rfl (by kernel_rfl) (by kernel_rfl) (by kernel_rfl) (fun _ _ _ h => h) (Or.inl ⟨by rfl, ?_⟩) (by assumption) ?_
        rotate_left
        · (intro w hSw; (try dsimp only at hSw); go_simp; try with_reducible rfl)
        (try simp only [Act.put, List.setIfInBounds_toArray, List.set_cons_zero, List.set_cons_succ])
        refine take_first (v := ?_) 3 rfl (by kernel_rfl) (by kernel_rfl) (by kernel_rfl) (fun _ _ _ h => h) (Or.inl ⟨by rfl, ?_⟩) (by assumption) ?_
        rotate_left
        · (intro w hSw; (try dsimp only at hSw); go_simp; try with_reducible rfl)
        (try simp only [Act.put, List.setIfInBounds_toArray, List.set_cons_zero, List.set_cons_succ])
        refine take_first (v := undef) 4 rfl (by kernel_rfl) (by kernel_rfl) (by kernel_rfl) (fun _ _ _ h => h) (Or.inr ⟨by rfl, rfl⟩) (by assumption) ?_
        (try simp only [Act.put, List.setIfInBounds_toArray, List.set_cons_zero, List.set_cons_succ])
        refine take_first (v := undef) 5 rfl (by kernel_rfl) (by kernel_rfl) (by kernel_rfl) (fun _ _ _ h => h) (Or.inr ⟨by rfl, rfl⟩) (by assumption) ?_
        (try simp only [Act.put, List.setIfInBounds_toArray, List.set_cons_zero, List.set_cons_succ])
        refine take_first (v := undef) 6 rfl (by kernel_rfl) (by kernel_rfl) (by kernel_rfl) (fun _ _ _ h => h) (Or.inr ⟨by rfl, rfl⟩) (by assumption) ?_
        (try simp only [Act.put, List.setIfInBounds_toArray, List.set_cons_zero, List.set_cons_succ])
        refine take_first (v := undef) 7 rfl (by kernel_rfl) (by kernel_rfl) (by kernel_rfl) (fun _ _ _ h => h) (Or.inr ⟨by rfl, rfl⟩) (by assumption) ?_
        (try simp only [Act.put, List.setIfInBounds_toArray, List.set_cons_zero, List.set_cons_succ])
        refine take_first (v := undef) 8 rfl (by kernel_rfl) (by kernel_rfl) (by kernel_rfl) (fun _ _ _ h => h) (Or.inr ⟨by rfl, rfl⟩) (by assumption) ?_
        (try simp only [Act.put, List.setIfInBounds_toArray, List.set_cons_zero, List.set_cons_succ])
        refine take_first (v := undef) 9 rfl (by kernel_rfl) (by kernel_rfl) (by kernel_rfl) (fun _ _ _ h => h) (Or.inr ⟨by rfl, rfl⟩) (by assumption) ?_
        (try simp only [Act.put, List.setIfInBounds_toArray, List.set_cons_zero, List.set_cons_succ])
        refine take_first (v := undef) 10 rfl (by kernel_rfl) (by kernel_rfl) (by kernel_rfl) (fun _ _ _ h => h) (Or.inr ⟨by rfl, rfl⟩) (by assumption) ?_
        (try simp only [Act.put, List.setIfInBounds_toArray, List.set_cons_zero, List.set_cons_succ])
        refine take_first (v := undef) 11 rfl (by kernel_rfl) (by kernel_rfl) (by kernel_rfl) (fun _ _ _ h => h) (Or.inr ⟨by rfl, rfl⟩) (by assumption) ?_
        (try simp only [Act.put, List.setIfInBounds_toArray, List.set_cons_zero, List.set_cons_succ])
        refine take_first (v := undef) 12 rfl (by kernel_rfl) (by kernel_rfl) (by kernel_rfl) (fun _ _ _ h => h) (Or.inr ⟨by rfl, rfl⟩) (by assumption) ?_
        (try simp only [Act.put, List.setIfInBounds_toArray, List.set_cons_zero, List.set_cons_succ])
        refine take_first (v := undef) 13 rfl (by kernel_rfl) (by kernel_rfl) (by kernel_rfl) (fun _ _ _ h => h) (Or.inr ⟨by rfl, rfl⟩) (by assumption) ?_
        (try simp only [Act.put, List.setIfInBounds_toArray, List.set_cons_zero, List.set_cons_succ])
        refine take_first (v := undef) 14 rfl (by kernel_rfl) (by kernel_rfl) (by kernel_rfl) (fun _ _ _ h => h) (Or.inr ⟨by rfl, rfl⟩) (by assumption) ?_
        (try simp only [Act.put, List.setIfInBounds_toArray, List.set_cons_zero, List.set_cons_succ])
        refine take_first (v := undef) 15 rfl (by kernel_rfl) (by kernel_rfl) (by kernel_rfl) (fun _ _ _ h => h) (Or.inr ⟨by rfl, rfl⟩) (by assumption) ?_
        (try simp only [Act.put, List.setIfInBounds_toArray, List.set_cons_zero, List.set_cons_succ])
        refine take_first (v := undef) 16 rfl (by kernel_rfl) (by kernel_rfl) (by kernel_rfl) (fun _ _ _ h => h) (Or.inr ⟨by rfl, rfl⟩) (by assumption) ?_
        (try simp only [Act.put, List.setIfInBounds_toArray, List.set_cons_zero, List.set_cons_succ])
        refine take_first (v := ?_) 17 rfl (by kernel_rfl) (by kernel_rfl) (by kernel_rfl) (fun _ _ _ h => h) (Or.inl ⟨by rfl, ?_⟩) (by assumption) ?_
        rotate_left
        · (intro w hSw; (try dsimp only at hSw); go_simp; try with_reducible rfl)
        (try simp only [Act.put, List.setIfInBounds_toArray, List.set_cons_zero, List.set_cons_succ])
        refine wpAnyH_done (by kernel_rfl) ?_ _
        clear hHeld
        have HF := Lib.hid HM.out.bel
        clear HM
        go_wp2_with fail
        go_ret
        exact ⟨by rw [HR.out]; rfl, HF.out⟩
      · have dv : ((s.idx : Int) == 0) = false := by rw [beq_eq_false_iff_ne]; omega
        have hvb : (s.idx == 0) = false := by rw [beq_eq_false_iff_ne]; exact hv
        cases hj0 : j with
        | zero =>
          subst hj0
          have HG := Lib.hid (show ∀ k, k < 0 + 1 → stepS l k = true from fun k hk => by
            obtain rfl : k = 0 := by omega
            rw [stepS_zero HJR.out, hvb]; rfl)
          clear hv hvb
          have dz : decide (((0 : Nat) : Int) > 0) = false := by simp
          refine wp_region_held_drew (S := fun W' => Lows w [blkL P1 34 s.cells] W') (by kernel_rfl) (HM.out.drew) (fun hHeld => ?_)
          replace HM := Lib.hid HM.out.drew
          generalize w5.drew = wd1 at HM hHeld ⊢
          refine take_first (v := ?_) 0 rfl (by kernel_rfl) (by kernel_rfl) (by kernel_rfl) (fun _ _ _ h => h) (Or.inl ⟨by rfl, ?_⟩) (by assumption) ?_
          rotate_left
          · (intro w hSw; (try dsimp only at hSw); go_simp; try with_reducible rfl)
          (try simp only [Act.put, List.setIfInBounds_toArray, List.set_cons_zero, List.set_cons_succ])
          refine take_first (v := ?_) 1 rfl (by kernel_rfl) (by kernel_rfl) (by kernel_rfl) (fun _ _ _ h => h) (Or.inl ⟨by rfl, ?_⟩) (by assumption) ?_
          rotate_left
          · (intro w hSw; (try dsimp only at hSw); have fb := idx_at (Lows.blk hSw 0 rfl).all; go_simp; try with_reducible rfl)
          (try simp only [Act.put, List.setIfInBounds_toArray, List.set_cons_zero, List.set_cons_succ])
          refine take_first (v := ?_) 2 rfl (by kernel_rfl) (by kernel_rfl) (by kernel_rfl) (fun _ _ _ h => h) (Or.inl ⟨by rfl, ?_⟩) (by assumption) ?_
          rotate_left
          · (intro w hSw; (try dsimp only at hSw); go_simp; try with_reducible rfl)
          (try simp only [Act.put, List.setIfInBounds_toArray, List.set_cons_zero, List.set_cons_succ])
          refine take_first (v := ?_) 3 rfl (by kernel_rfl) (by kernel_rfl) (by kernel_rfl) (fun _ _ _ h => h) (Or.inl ⟨by rfl, ?_⟩) (by assumption) ?_
          rotate_left
          · (intro w hSw; (try dsimp only at hSw); go_simp; try with_reducible rfl)
          (try simp only [Act.put, List.setIfInBounds_toArray, List.set_cons_zero, List.set_cons_succ])
          refine take_first (v := ?_) 4 rfl (by kernel_rfl) (by kernel_rfl) (by kernel_rfl) (fun _ _ _ h => h) (Or.inl ⟨by rfl, ?_⟩) (by assumption) ?_
          rotate_left
          · (intro w hSw; (try dsimp only at hSw); go_simp; try with_reducible rfl)
          (try simp only [Act.put, List.setIfInBounds_toArray, List.set_cons_zero, List.set_cons_succ])
          refine take_first (v := ?_) 5 rfl (by kernel_rfl) (by kernel_rfl) (by kernel_rfl) (fun _ _ _ h => h) (Or.inl ⟨by rfl, ?_⟩) (by assumption) ?_
          rotate_left
          · (intro w hSw; (try dsimp only at hSw); go_simp; try with_reducible rfl)
          (try simp only [Act.put, List.setIfInBounds_toArray, List.set_cons_zero, List.set_cons_succ])
          refine take_first (v := ?_) 6 rfl (by kernel_rfl) (by kernel_rfl) (by kernel_rfl) (fun _ _ _ h => h) (Or.inl ⟨by rfl, ?_⟩) (by assumption) ?_
          rotate_left
          · (intro w hSw; (try dsimp only at hSw); go_simp; try with_reducible rfl)
          (try simp only [Act.put, List.setIfInBounds_toArray, List.set_cons_zero, List.set_cons_succ])
          refine take_first (v := undef) 7 rfl (by kernel_rfl) (by kernel_rfl) (by kernel_rfl) (fun _ _ _ h => h) (Or.inr ⟨by rfl, rfl⟩) (by assumption) ?_
          (try simp only [Act.put, List.setIfInBounds_toArray, List.set_cons_zero, List.set_cons_succ])
          refine take_first (v := undef) 8 rfl (by kernel_rfl) (by kernel_rfl) (by kernel_rfl) (fun _ _ _ h => h) (Or.inr ⟨by rfl, rfl⟩) (by assumption) ?_
          (try simp only [Act.put, List.setIfInBounds_toArray, List.set_cons_zero, List.set_cons_succ])
          refine take_first (v := undef) 9 rfl (by kernel_rfl) (by kernel_rfl) (by kernel_rfl) (fun _ _ _ h => h) (Or.inr ⟨by rfl, rfl⟩) (by assumption) ?_
          (try simp only [Act.put, List.setIfInBounds_toArray, List.set_cons_zero, List.set_cons_succ])
          refine take_first (v := undef) 10 rfl (by kernel_rfl) (by kernel_rfl) (by kernel_rfl) (fun _ _ _ h => h) (Or.inr ⟨by rfl, rfl⟩) (by assumption) ?_
          (try simp only [Act.put, List.setIfInBounds_toArray, List.set_cons_zero, List.set_cons_succ])
          refine take_first (v := undef) 11 rfl (by kernel_rfl) (by kernel_rfl) (by kernel_rfl) (fun _ _ _ h => h) (Or.inr ⟨by rfl, rfl⟩) (by assumption) ?_
          (try simp only [Act.put, List.setIfInBounds_toArray, List.set_cons_zero, List.set_cons_succ])
          refine take_first (v := undef) 12 rfl (by kernel_rfl) (by kernel_rfl) (by kernel_rfl) (fun _ _ _ h => h) (Or.inr ⟨by rfl, rfl⟩) (by assumption) ?_
          (try simp only [Act.put, List.setIfInBounds_toArray, List.set_cons_zero, List.set_cons_succ])
          refine take_first (v := undef) 13 rfl (by kernel_rfl) (by kernel_rfl) (by kernel_rfl) (fun _ _ _ h => h) (Or.inr ⟨by rfl, rfl⟩) (by assumption) ?_
          (try simp only [Act.put, List.setIfInBounds_toArray, List.set_cons_zero, List.set_cons_succ])
          refine take_first (v := undef) 14 rfl (by kernel_rfl) (by kernel_rfl) (by kernel_rfl) (fun _ _ _ h => h) (Or.inr ⟨by rfl, rfl⟩) (by assumption) ?_
          (try simp only [Act.put, List.setIfInBounds_toArray, List.set_cons_zero, List.set_cons_succ])
          refine take_first (v := undef) 15 rfl (by kernel_rfl) (by kernel_rfl) (by kernel_rfl) (fun _ _ _ h => h) (Or.inr ⟨by rfl, rfl⟩) (by assumption) ?_
          (try simp only [Act.put, List.setIfInBounds_toArray, List.set_cons_zero, List.set_cons_succ])
          refine take_first (v := ?_) 16 rfl (by kernel_rfl) (by kernel_rfl) (by kernel_rfl) (fun _ _ _ h => h) (Or.inl ⟨by rfl, ?_⟩) (by assumption) ?_
          rotate_left
          · (intro w hSw; (try dsimp only at hSw); go_simp; try with_reducible rfl)
          (try simp only [Act.put, List.setIfInBounds_toArray, List.set_cons_zero, List.set_cons_succ])
          refine take_first (v := ?_) 17 rfl (by kernel_rfl) (by kernel_rfl) (by kernel_rfl) (fun _ _ _ h => h) (Or.inl ⟨by rfl, ?_⟩) (by assumption) ?_
          rotate_left
          · (intro w hSw; (try dsimp only at hSw); go_simp; try with_reducible rfl)
          (try simp only [Act.put, List.setIfInBounds_toArray, List.set_cons_zero, List.set_cons_succ])
          refine wpAnyH_done (by kernel_rfl) ?_ _
          clear hHeld
          have HF := Lib.hid HM.out.bel
          clear HM
          go_wp2_with fail
          go_roundw
          case rel => exact ⟨0 + 1, by omega, by go_num, HG.out, HF.out⟩
          case measure => simp [intOf] <;> omega

        | succ k =>
          rw [← hj0]
          obtain ⟨q, hq⟩ : ∃ q, l[k]? = some q := ⟨l[k]'(by rw [HA.out.len]; omega), List.getElem?_eq_getElem _⟩
          have HOQ := Lib.hid (HA.out.ok hq)
          have hat := HA.out.at k q hq
          have HLQ := Lib.hid (show ∀ W, Below w.heap.size w W → W.cell? ⟨b, off + k * 34, none⟩ = some (.int .u32 (q.idx : Int)) from fun W hW => idx_at (hat.2.mono hW hat.1))
          have HST := Lib.hid (show stepS l j = decide (q.idx < s.idx) from by rw [hj0, stepS_succ hq (hj0 ▸ HJR.out), hvb]; rfl)
          clear hat hq hv hvb
          obtain ⟨bf, hbf⟩ : ∃ v, decide (q.idx < s.idx) = v := ⟨_, rfl⟩
          have dle : decide ((s.idx : Int) ≤ (q.idx : Int)) = !bf := by rw [← hbf, Bool.eq_iff_iff]; simp
          have dle2 : decide (s.idx ≤ q.idx) = !bf := by rw [← hbf, Bool.eq_iff_iff]; simp
          rw [hbf] at HST
          clear hbf
          have dz : decide ((j : Int) > 0) = true := by simp; omega
          have ek : (j : Int) - 1 = (k : Int) := by omega
          have ew : IntKind.i64.wrap (k : Int) = (k : Int) := IntWalk.i64_in _ (by omega)
          have ekn : (k : Int) < (n : Int) := by omega
          have dz2 : decide ((0 : Int) < (j : Int)) = true := by simp; omega
          have dz3 : 0 < j := by omega
          clear hj0
          cases bf with
          | true =>
            have HG := Lib.hid (show ∀ k, k < j + 1 → stepS l k = true from fun i hi => by
              by_cases he : i = j
              · rw [he]; exact HST.out
              · exact HS.out i (by omega))
            simp only [Bool.not_true] at dle dle2
            refine wp_region_held_drew (S := fun W' => Lows w [blkL P1 34 s.cells] W') (by kernel_rfl) (HM.out.drew) (fun hHeld => ?_)
            replace HM := Lib.hid HM.out.drew
            generalize w5.drew = wd1 at HM hHeld ⊢
            refine take_first (v := ?_) 0 rfl (by kernel_rfl) (by kernel_rfl) (by kernel_rfl) (fun _ _ _ h => h) (Or.inl ⟨by rfl, ?_⟩) (by assumption) ?_
            rotate_left
            · (intro w hSw; (try dsimp only at hSw); go_simp; try with_reducible rfl)
            (try simp only [Act.put, List.setIfInBounds_toArray, List.set_cons_zero, List.set_cons_succ])
            refine take_first (v := ?_) 1 rfl (by kernel_rfl) (by kernel_rfl) (by kernel_rfl) (fun _ _ _ h => h) (Or.inl ⟨by rfl, ?_⟩) (by assumption) ?_
            rotate_left
            · (intro w hSw; (try dsimp only at hSw); have fb := idx_at (Lows.blk hSw 0 rfl).all; go_simp; try with_reducible rfl)
            (try simp only [Act.put, List.setIfInBounds_toArray, List.set_cons_zero, List.set_cons_succ])
            refine take_first (v := ?_) 2 rfl (by kernel_rfl) (by kernel_rfl) (by kernel_rfl) (fun _ _ _ h => h) (Or.inl ⟨by rfl, ?_⟩) (by assumption) ?_
            rotate_left
            · (intro w hSw; (try dsimp only at hSw); go_simp; try with_reducible rfl)
            (try simp only [Act.put, List.setIfInBounds_toArray, List.set_cons_zero, List.set_cons_succ])
            refine take_first (v := ?_) 3 rfl (by kernel_rfl) (by kernel_rfl) (by kernel_rfl) (fun _ _ _ h => h) (Or.inl ⟨by rfl, ?_⟩) (by assumption) ?_
            rotate_left
            · (intro w hSw; (try dsimp only at hSw); go_simp; try with_reducible rfl)
            (try simp only [Act.put, List.setIfInBounds_toArray, List.set_cons_zero, List.set_cons_succ])
            refine take_first (v := ?_) 4 rfl (by kernel_rfl) (by kernel_rfl) (by kernel_rfl) (fun _ _ _ h => h) (Or.inl ⟨by rfl, ?_⟩) (by assumption) ?_
            rotate_left
            · (intro w hSw; (try dsimp only at hSw); go_simp; try with_reducible rfl)
            (try simp only [Act.put, List.setIfInBounds_toArray, List.set_cons_zero, List.set_cons_succ])
            refine take_first (v := ?_) 5 rfl (by kernel_rfl) (by kernel_rfl) (by kernel_rfl) (fun _ _ _ h => h) (Or.inl ⟨by rfl, ?_⟩) (by assumption) ?_
            rotate_left
            · (intro w hSw; (try dsimp only at hSw); go_simp; try with_reducible rfl)
            (try simp only [Act.put, List.setIfInBounds_toArray, List.set_cons_zero, List.set_cons_succ])
            refine take_first (v := ?_) 6 rfl (by kernel_rfl) (by kernel_rfl) (by kernel_rfl) (fun _ _ _ h => h) (Or.inl ⟨by rfl, ?_⟩) (by assumption) ?_
            rotate_left
            · (intro w hSw; (try dsimp only at hSw); go_simp; try with_reducible rfl)
            (try simp only [Act.put, List.setIfInBounds_toArray, List.set_cons_zero, List.set_cons_succ])
            refine take_first (v := ?_) 7 rfl (by kernel_rfl) (by kernel_rfl) (by kernel_rfl) (fun _ _ _ h => h) (Or.inl ⟨by rfl, ?_⟩) (by assumption) ?_
            rotate_left
            · (intro w hSw; (try dsimp only at hSw); go_simp; try with_reducible rfl)
            (try simp only [Act.put, List.setIfInBounds_toArray, List.set_cons_zero, List.set_cons_succ])
            refine take_first (v := ?_) 8 rfl (by kernel_rfl) (by kernel_rfl) (by kernel_rfl) (fun _ _ _ h => h) (Or.inl ⟨by rfl, ?_⟩) (by assumption) ?_
            rotate_left
            · (intro w hSw; (try dsimp only at hSw); have fb := idx_at (Lows.blk hSw 0 rfl).all; go_simp; try with_reducible rfl)
            (try simp only [Act.put, List.setIfInBounds_toArray, List.set_cons_zero, List.set_cons_succ])
            refine take_first (v := ?_) 9 rfl (by kernel_rfl) (by kernel_rfl) (by kernel_rfl) (fun _ _ _ h => h) (Or.inl ⟨by rfl, ?_⟩) (by assumption) ?_
            rotate_left
            · (intro w hSw; (try dsimp only at hSw); go_simp; try with_reducible rfl)
            (try simp only [Act.put, List.setIfInBounds_toArray, List.set_cons_zero, List.set_cons_succ])
            refine take_first (v := ?_) 10 rfl (by kernel_rfl) (by kernel_rfl) (by kernel_rfl) (fun _ _ _ h => h) (Or.inl ⟨by rfl, ?_⟩) (by assumption) ?_
            rotate_left
            · (intro w hSw; (try dsimp only at hSw); go_simp; try with_reducible rfl)
            (try simp only [Act.put, List.setIfInBounds_toArray, List.set_cons_zero, List.set_cons_succ])
            refine take_first (v := ?_) 11 rfl (by kernel_rfl) (by kernel_rfl) (by kernel_rfl) (fun _ _ _ h => h) (Or.inl ⟨by rfl, ?_⟩) (by assumption) ?_
            rotate_left
            · (intro w hSw; (try dsimp only at hSw); go_simp; try with_reducible rfl)
            (try simp only [Act.put, List.setIfInBounds_toArray, List.set_cons_zero, List.set_cons_succ])
            refine take_first (v := ?_) 12 rfl (by kernel_rfl) (by kernel_rfl) (by kernel_rfl) (fun _ _ _ h => h) (Or.inl ⟨by rfl, ?_⟩) (by assumption) ?_
            rotate_left
            · (intro w hSw; (try dsimp only at hSw); go_simp; try with_reducible rfl)
            (try simp only [Act.put, List.setIfInBounds_toArray, List.set_cons_zero, List.set_cons_succ])
            refine take_first (v := ?_) 13 rfl (by kernel_rfl) (by kernel_rfl) (by kernel_rfl) (fun _ _ _ h => h) (Or.inl ⟨by rfl, ?_⟩) (by assumption) ?_
            rotate_left
            · (intro w hSw; (try dsimp only at hSw); go_simp; try with_reducible rfl)
            (try simp only [Act.put, List.setIfInBounds_toArray, List.set_cons_zero, List.set_cons_succ])
            refine take_first (v := ?_) 14 rfl (by kernel_rfl) (by kernel_rfl) (by kernel_rfl) (fun _ _ _ h => h) (Or.inl ⟨by rfl, ?_⟩) (by assumption) ?_
            rotate_left
            · (intro w hSw; (try dsimp only at hSw); have fq := HLQ.out _ hSw.bel; go_simp; try with_reducible rfl)
            (try simp only [Act.put, List.setIfInBounds_toArray, List.set_cons_zero, List.set_cons_succ])
            refine take_first (v := ?_) 15 rfl (by kernel_rfl) (by kernel_rfl) (by kernel_rfl) (fun _ _ _ h => h) (Or.inl ⟨by rfl, ?_⟩) (by assumption) ?_
            rotate_left
            · (intro w hSw; (try dsimp only at hSw); go_simp; try with_reducible rfl)
            (try simp only [Act.put, List.setIfInBounds_toArray, List.set_cons_zero, List.set_cons_succ])
            refine take_first (v := ?_) 16 rfl (by kernel_rfl) (by kernel_rfl) (by kernel_rfl) (fun _ _ _ h => h) (Or.inl ⟨by rfl, ?_⟩) (by assumption) ?_
            rotate_left
            · (intro w hSw; (try dsimp only at hSw); go_simp; try with_reducible rfl)
            (try simp only [Act.put, List.setIfInBounds_toArray, List.set_cons_zero, List.set_cons_succ])
            refine take_first (v := ?_) 17 rfl (by kernel_rfl) (by kernel_rfl) (by kernel_rfl) (fun _ _ _ h => h) (Or.inl ⟨by rfl, ?_⟩) (by assumption) ?_
            rotate_left
            · (intro w hSw; (try dsimp only at hSw); go_simp; try with_reducible rfl)
            (try simp only [Act.put, List.setIfInBounds_toArray, List.set_cons_zero, List.set_cons_succ])
            refine wpAnyH_done (by kernel_rfl) ?_ _
            clear hHeld
            have HF := Lib.hid HM.out.bel
            clear HM
            go_wp2_with fail
            go_roundw
            case rel => exact ⟨j + 1, by omega, by go_num, HG.out, HF.out⟩
            case measure => simp [intOf] <;> omega

          | false =>
            have HR := Lib.hid (show validSlotsM l = false from by rw [validSlotsM, allS_bad (by rw [HA.out.len]; exact hjn) HST.out]; rfl)
            simp only [Bool.not_false] at dle dle2
            refine wp_region_held_drew (S := fun W' => Lows w [blkL P1 34 s.cells] W') (by kernel_rfl) (HM.out.drew) (fun hHeld => ?_)
            replace HM := Lib.hid HM.out.drew
            generalize w5.drew = wd1 at HM hHeld ⊢
            refine take_first (v := ?_) 0 rfl (by kernel_rfl) (by kernel_rfl) (by kernel_rfl) (fun _ _ _ h => h) (Or.inl ⟨by rfl, ?_⟩) (by assumption) ?_
            rotate_left
            · (intro w hSw; (try dsimp only at hSw); go_simp; try with_reducible rfl)
            (try simp only [Act.put, List.setIfInBounds_toArray, List.set_cons_zero, List.set_cons_succ])
            refine take_first (v := ?_) 1 rfl (by kernel_rfl) (by kernel_rfl) (by kernel_rfl) (fun _ _ _ h => h) (Or.inl ⟨by rfl, ?_⟩) (by assumption) ?_
            rotate_left
            · (intro w hSw; (try dsimp only at hSw); have fb := idx_at (Lows.blk hSw 0 rfl).all; go_simp; try with_reducible rfl)
            (try simp only [Act.put, List.setIfInBounds_toArray, List.set_cons_zero, List.set_cons_succ])
            refine take_first (v := ?_) 2 rfl (by kernel_rfl) (by kernel_rfl) (by kernel_rfl) (fun _ _ _ h => h) (Or.inl ⟨by rfl, ?_⟩) (by assumption) ?_
            rotate_left
            · (intro w hSw; (try dsimp only at hSw); go_simp; try with_reducible rfl)
            (try simp only [Act.put, List.setIfInBounds_toArray, List.set_cons_zero, List.set_cons_succ])
            refine take_first (v := ?_) 3 rfl (by kernel_rfl) (by kernel_rfl) (by kernel_rfl) (fun _ _ _ h => h) (Or.inl ⟨by rfl, ?_⟩) (by assumption) ?_
            rotate_left
            · (intro w hSw; (try dsimp only at hSw); go_simp; try with_reducible rfl)
            (try simp only [Act.put, List.setIfInBounds_toArray, List.set_cons_zero, List.set_cons_succ])
            refine take_first (v := ?_) 4 rfl (by kernel_rfl) (by kernel_rfl) (by kernel_rfl) (fun _ _ _ h => h) (Or.inl ⟨by rfl, ?_⟩) (by assumption) ?_
            rotate_left
            · (intro w hSw; (try dsimp only at hSw); go_simp; try with_reducible rfl)
            (try simp only [Act.put, List.setIfInBounds_toArray, List.set_cons_zero, List.set_cons_succ])
            refine take_first (v := ?_) 5 rfl (by kernel_rfl) (by kernel_rfl) (by kernel_rfl) (fun _ _ _ h => h) (Or.inl ⟨by rfl, ?_⟩) (by assumption) ?_
            rotate_left
            · (intro w hSw; (try dsimp only at hSw); go_simp; try with_reducible rfl)
            (try simp only [Act.put, List.setIfInBounds_toArray, List.set_cons_zero, List.set_cons_succ])
            refine take_first (v := ?_) 6 rfl (by kernel_rfl) (by kernel_rfl) (by kernel_rfl) (fun _ _ _ h => h) (Or.inl ⟨by rfl, ?_⟩) (by assumption) ?_
            rotate_left
            · (intro w hSw; (try dsimp only at hSw); go_simp; try with_reducible rfl)
            (try simp only [Act.put, List.setIfInBounds_toArray, List.set_cons_zero, List.set_cons_succ])
            refine take_first (v := ?_) 7 rfl (by kernel_rfl) (by kernel_rfl) (by kernel_rfl) (fun _ _ _ h => h) (Or.inl ⟨by rfl, ?_⟩) (by assumption) ?_
            rotate_left
            · (intro w hSw; (try dsimp only at hSw); go_simp; try with_reducible rfl)
            (try simp only [Act.put, List.setIfInBounds_toArray, List.set_cons_zero, List.set_cons_succ])
            refine take_first (v := ?_) 8 rfl (by kernel_rfl) (by kernel_rfl) (by kernel_rfl) (fun _ _ _ h => h) (Or.inl ⟨by rfl, ?_⟩) (by assumption) ?_
            rotate_left
            · (intro w hSw; (try dsimp only at hSw); have fb := idx_at (Lows.blk hSw 0 rfl).all; go_simp; try with_reducible rfl)
            (try simp only [Act.put, List.setIfInBounds_toArray, List.set_cons_zero, List.set_cons_succ])
            refine take_first (v := ?_) 9 rfl (by kernel_rfl) (by kernel_rfl) (by kernel_rfl) (fun _ _ _ h => h) (Or.inl ⟨by rfl, ?_⟩) (by assumption) ?_
            rotate_left
            · (intro w hSw; (try dsimp only at hSw); go_simp; try with_reducible rfl)
            (try simp only [Act.put, List.setIfInBounds_toArray, List.set_cons_zero, List.set_cons_succ])
            refine take_first (v := ?_) 10 rfl (by kernel_rfl) (by kernel_rfl) (by kernel_rfl) (fun _ _ _ h => h) (Or.inl ⟨by rfl, ?_⟩) (by assumption) ?_
            rotate_left
            · (intro w hSw; (try dsimp only at hSw); go_simp; try with_reducible rfl)
            (try simp only [Act.put, List.setIfInBounds_toArray, List.set_cons_zero, List.set_cons_succ])
            refine take_first (v := ?_) 11 rfl (by kernel_rfl) (by kernel_rfl) (by kernel_rfl) (fun _ _ _ h => h) (Or.inl ⟨by rfl, ?_⟩) (by assumption) ?_
            rotate_left
            · (intro w hSw; (try dsimp only at hSw); go_simp; try with_reducible rfl)
            (try simp only [Act.put, List.setIfInBounds_toArray, List.set_cons_zero, List.set_cons_succ])
            refine take_first (v := ?_) 12 rfl (by kernel_rfl) (by kernel_rfl) (by kernel_rfl) (fun _ _ _ h => h) (Or.inl ⟨by rfl, ?_⟩) (by assumption) ?_
            rotate_left
            · (intro w hSw; (try dsimp only at hSw); go_simp; try with_reducible rfl)
            (try simp only [Act.put, List.setIfInBounds_toArray, List.set_cons_zero, List.set_cons_succ])
            refine take_first (v := ?_) 13 rfl (by kernel_rfl) (by kernel_rfl) (by kernel_rfl) (fun _ _ _ h => h) (Or.inl ⟨by rfl, ?_⟩) (by assumption) ?_
            rotate_left
            · (intro w hSw; (try dsimp only at hSw); go_simp; try with_reducible rfl)
            (try simp only [Act.put, List.setIfInBounds_toArray, List.set_cons_zero, List.set_cons_succ])
            refine take_first (v := ?_) 14 rfl (by kernel_rfl) (by kernel_rfl) (by kernel_rfl) (fun _ _ _ h => h) (Or.inl ⟨by rfl, ?_⟩) (by assumption) ?_
            rotate_left
            · (intro w hSw; (try dsimp only at hSw); have fq := HLQ.out _ hSw.bel; go_simp; try with_reducible rfl)
            (try simp only [Act.put, List.setIfInBounds_toArray, List.set_cons_zero, List.set_cons_succ])
            refine take_first (v := ?_) 15 rfl (by kernel_rfl) (by kernel_rfl) (by kernel_rfl) (fun _ _ _ h => h) (Or.inl ⟨by rfl, ?_⟩) (by assumption) ?_
            rotate_left
            · (intro w hSw; (try dsimp only at hSw); go_simp; try with_reducible rfl)
            (try simp only [Act.put, List.setIfInBounds_toArray, List.set_cons_zero, List.set_cons_succ])
            refine take_first (v := ?_) 16 rfl (by kernel_rfl) (by kernel_rfl) (by kernel_rfl) (fun _ _ _ h => h) (Or.inl ⟨by rfl, ?_⟩) (by assumption) ?_
            rotate_left
            · (intro w hSw; (try dsimp only at hSw); go_simp; try with_reducible rfl)
            (try simp only [Act.put, List.setIfInBounds_toArray, List.set_cons_zero, List.set_cons_succ])
            refine take_first (v := ?_) 17 rfl (by kernel_rfl) (by kernel_rfl) (by kernel_rfl) (fun _ _ _ h => h) (Or.inl ⟨by rfl, ?_⟩) (by assumption) ?_
            rotate_left
            · (intro w hSw; (try dsimp only at hSw); go_simp; try with_reducible rfl)
            (try simp only [Act.put, List.setIfInBounds_toArray, List.set_cons_zero, List.set_cons_succ])
            refine wpAnyH_done (by kernel_rfl) ?_ _
            clear hHeld
            have HF := Lib.hid HM.out.bel
            clear HM
            go_wp2_with fail
            go_ret
            exact ⟨by rw [HR.out]; rfl, HF.out⟩

    · obtain rfl : j = n := by omega
      have d1 : decide ((j : Int) < (j : Int)) = false := by simp
      have HX := Lib.hid (show validSlotsM l = decide ((j : Int) ≤ 32) from by
        rw [validSlotsM, allS_good (by rw [HA.out.len]; exact HS.out), HA.out.len, Bool.true_and]
        simp only [decide_eq_decide]; omega)
      have HF := Lib.hid HW.out
      clear HW HS
      go_wp2
      go_ret
      exact ⟨by rw [HX.out]; rfl, HF.out⟩
end Go.Proofs.Ytboeeopgghldnaa
namespace Go.Proofs.Ytboeeopgghldnaa
open Go.RowKit

end Go.Proofs.Ytboeeopgghldnaa
namespace Go.Proofs.Ytboeeopgghldnaa
open Go.RowKit

/-- min of two numbers, by a name for what it gives -/
theorem wpList_min_int {P : Program} {w : World} {ops : Array Oper} {rest : List Oper} {o : Oper} {a : Act} {Q : Exit → Act → World → Prop} (hgd : o.guard = none) (x y : Operand) (ts : Array TypeId) (ho : o.op = .call { callee := .builtin .min, args := #[x, y], argTypes := ts })
    (u v m : Int) (hx : a.eval x = .int .i64 u) (hy : a.eval y = .int .i64 v) (hm : min u v = m) (h : wpList P ops Q rest (a.put o.dst (.int .i64 m)) w) : wpList P ops Q (o :: rest) a w :=
  wpList_plain hgd fun K hK => by
    have hr : (Builtin.min_ ts o.type #[.int .i64 u, .int .i64 v]).run P w = .ok (.int .i64 m) w := by
      subst hm
      by_cases huv : u ≤ v
      · rw [Int.min_eq_left huv]
        simp [Builtin.min_, Builtin.min2]
        try omega
      · rw [Int.min_eq_right (by omega)]
        simp [Builtin.min_, Builtin.min2]
        try omega
    unfold Oper.wp execOp
    simp only [ho, resolve, invoke, builtin, Sem.run_bind, Sem.run_pure, Result.andThen_ok, List.map_toArray, List.map_cons, List.map_nil, hx, hy, hr]
    exact hK _ _ h
end Go.Proofs.Ytboeeopgghldnaa
namespace Go.Proofs.Ytboeeopgghldnaa
open Go.RowKit

set_option maxRecDepth 100000 in
set_option maxHeartbeats 16000000 in
theorem ix_tables_walk (HT : IxTakeC 7) (HD : IxDropC 12) (HFN : IxFindC 9) (HP : IxPromC 14) (HV : IxValidC 16)
    (w : World) (A : Option Addr) (n c : Nat) (l : List UInt8) (Aw : Option Addr) (nw cw : Nat) (rw' : List SlotM) (i0 : Nat) (k : List UInt8) (b : Bool) (hnc : n ≤ c) (hcm : c ≤ maxLen) (hr : Rd w w.heap.size A n l) (hcw : nw ≤ cw ∧ cw ≤ maxLen) (hrw : SlRd w w.heap.size Aw nw rw') (hi0 : i0 < 4294967296) (hk : k.length = 32) :
    Calls Try.prog 3 #[.slice A n c, .slice Aw nw cw, .int .u32 (i0 : Int), .agg (k.map u8v).toArray, .bool b] w fun e w' => e = .returned (.bool true) ∧ Below w.heap.size w w' := by
  have HBG := Lib.hid (fun W : World => ix_begun_any HT W)
  have HTK := Lib.hid HT
  have HDH := Lib.hid HD
  have HFH := Lib.hid HFN
  have HPH := Lib.hid HP
  have HVH := Lib.hid HV
  have HKL := Lib.hid hk
  have HRW := Lib.hid hrw
  have HCW := Lib.hid (show CapIx nw cw from hcw)
  obtain ⟨kk, hkk⟩ : ∃ z, (k.map u8v).toArray = z := ⟨_, rfl⟩
  have HKK := Lib.hid hkk
  rw [hkk]
  obtain ⟨mr, hmr⟩ : ∃ z, min nw 34 = z := ⟨_, rfl⟩
  have hmin : min (nw : Int) 34 = (mr : Int) := by omega
  obtain ⟨Ar, hAr⟩ : ∃ z, addrK Aw 0 cw 34 = z := ⟨_, rfl⟩
  obtain ⟨rr, hrr⟩ : ∃ z, rw'.take mr = z := ⟨_, rfl⟩
  have hslr := sl_h Aw (n := nw) cw mr (by omega) hcw.1
  rw [hAr] at hslr
  have HAR := Lib.hid (And.intro hAr hrr)
  have HMR := Lib.hid (show mr ≤ nw ∧ mr ≤ 34 from by omega)
  have HM := Lib.hid (((Lows.nil w).cons (rdL A n l) hr).alloc 26 kk (k.map u8v) hkk.symm)
  have HNC := Lib.hid (And.intro hnc hcm)
  obtain ⟨i1, hi1⟩ : ∃ z, i0 % 8 = z := ⟨_, rfl⟩
  obtain ⟨i4, hi4⟩ : ∃ z, i0 % 4 = z := ⟨_, rfl⟩
  obtain ⟨i2, hi2⟩ : ∃ z, 4294967295 - i4 = z := ⟨_, rfl⟩
  have HI12 := Lib.hid (show i0 < 4294967296 ∧ i1 < 4294967296 ∧ i2 < 4294967296 from by omega)
  have r1 : (i0 : Int) % 8 = (i1 : Int) := by omega
  have r2 : (i0 : Int) % 4 = (i4 : Int) := by omega
  have r3 : (i0 : Int).tmod 8 = (i1 : Int) := by rw [Int.tmod_eq_emod_of_nonneg (by omega)]; omega
  have r4 : (i0 : Int).tmod 4 = (i4 : Int) := by rw [Int.tmod_eq_emod_of_nonneg (by omega)]; omega
  have r5 : IntKind.u32.wrap (4294967295 - (i4 : Int)) = (i2 : Int) := by rw [IntKind.wrap_u32]; omega
  have r6 : (4294967295 - (i4 : Int)) % 4294967296 = (i2 : Int) := by omega
  clear HT HD HFN HP HV hk hkk hr hnc hcm hAr hrr hmr hrw hcw hi0 hi1 hi4 hi2
  go_enter Try.func3, Try.ntmps3
  go_upto_region 1 with fail
  generalize w.alloc (.cells kk 26) = w1 at HM ⊢
  go_wp2_with fail
  refine (made_any A n c l HNC.out.1 HNC.out.2 w1 (HM.out.rd 1 rfl)).mono ?_
  rintro e w2 ⟨xs, A9, c9, hmd, rfl, hsl, hcp, hb⟩
  have hm19 := hmd.1
  have hg := takeAll_good xs.length xs rfl (by omega)
  have hln := takeAll_len xs.length xs rfl (by omega)
  generalize takeAll xs = rs at hsl hg hln
  generalize xs.length = nn at hsl hln hcp hm19 ⊢
  replace HM := Lib.hid (((HM.out.below hb).tail 1).cons (slL A9 nn rs) hsl)
  have HVX := Lib.hid (good_valid hg (by omega))
  have HCP := Lib.hid (show CapIx nn c9 from hcp)
  clear hsl hcp hb hmd hg hln HNC
  go_upto_region 3 with (refine wpList_min_int rfl (.tmp 30) (.const (.int .i64 34)) #[3, 3] rfl (nw : Int) 34 (mr : Int) rfl rfl hmin ?_)
  clear hmin hslr
  replace HM := Lib.hid (HM.out.cons (slL Ar mr rr) (by
    have h := HRW.out.below HM.out.bel
    exact ⟨(show RdRow _ w.heap.size Ar 34 mr (slsV rr) from by rw [← HAR.out.1, ← HAR.out.2, ← slsV_take]; exact h.1.ahead mr cw HMR.out.1).mono HM.out.size, fun r hr => h.2 r (by rw [← HAR.out.2] at hr; exact List.mem_of_mem_take hr)⟩))
  go_upto_region 4 with fail
  have HM5 := Lib.hid (HM.out.alloc 23 #[.slice A9 nn c9, .slice Ar mr cw] [.slice A9 nn c9, .slice Ar mr cw] rfl)
  clear HM
  generalize w2.alloc (.cells #[.slice A9 nn c9, .slice Ar mr cw] 23) = w5 at HM5 ⊢
  generalize w2.heap.size = gs at HM5 ⊢
  have HM := Lib.hid (show Lows w [blkL gs 23 [.slice A9 nn c9, .slice Ar mr cw], slL Ar mr rr, slL A9 nn rs, blkL w.heap.size 26 (k.map u8v)] w5 from HM5.out)
  have HI := Lib.hid (show ∀ q, q < 2 → ∃ (Al : Option Addr) (nl cl : Nat) (ls : List SlotM), nl ≤ 34 ∧ CapIx nl cl ∧ ∀ W, Lows w [blkL gs 23 [.slice A9 nn c9, .slice Ar mr cw], slL Ar mr rr, slL A9 nn rs, blkL w.heap.size 26 (k.map u8v)] W → W.cell? ⟨gs, q, none⟩ = some (.slice Al nl cl) ∧ SlRd W W.heap.size Al nl ls from fun q hq => by
    rcases (show q = 0 ∨ q = 1 by omega) with rfl | rfl
    · exact ⟨A9, nn, c9, rs, by omega, HCP.out, fun W h => ⟨(h.blk 0 rfl).cell 0, h.get (f := slL A9 nn rs) 2 rfl⟩⟩
    · exact ⟨Ar, mr, cw, rr, HMR.out.2, ⟨Nat.le_trans HMR.out.1 HCW.out.1, HCW.out.2⟩, fun W h => ⟨(h.blk 0 rfl).cell 1, h.get (f := slL Ar mr rr) 1 rfl⟩⟩)
  clear HM5 HRW
  go_loopw [37] (fun i wr => ∃ q : Nat, q ≤ 2 ∧ i = .int .i64 (q : Int) ∧ Lows w [blkL gs 23 [.slice A9 nn c9, .slice Ar mr cw], slL Ar mr rr, slL A9 nn rs, blkL w.heap.size 26 (k.map u8v)] wr) (fun i _ => 2 - (intOf i).toNat)
  case atStart => exact ⟨0, Nat.zero_le _, rfl, HM.out⟩
  case round =>
    clear HM
    obtain ⟨q, hq, rfl, hM⟩ := hrel
    have HM := Lib.hid hM
    clear hM
    by_cases hq2 : q < 2
    · have d1 : decide ((q : Int) < 2) = true := by simp; omega
      obtain ⟨Al, nl, cl, ls, hnl, hcl, hl⟩ := HI.out q hq2
      have HCL := Lib.hid hcl
      have hcell := (hl wr HM.out).1
      replace HM := Lib.hid (show Lows w [slL Al nl ls, blkL gs 23 [.slice A9 nn c9, .slice Ar mr cw], slL Ar mr rr, slL A9 nn rs, blkL w.heap.size 26 (k.map u8v)] wr from HM.out.cons (slL Al nl ls) (hl wr HM.out).2)
      clear hcl hl
      go_upto_region 6 with fail
      clear hcell
      go_upto_region 7 with fail
      have HM5 := Lib.hid (HM.out.alloc 24 #[.int .u32 (i0 : Int), .int .u32 (i1 : Int), .int .u32 (i2 : Int)] [.int .u32 (i0 : Int), .int .u32 (i1 : Int), .int .u32 (i2 : Int)] rfl)
      clear HM
      generalize wr.alloc (.cells #[.int .u32 (i0 : Int), .int .u32 (i1 : Int), .int .u32 (i2 : Int)] 24) = w6 at HM5 ⊢
      generalize wr.heap.size = gn at HM5 ⊢
      have HM := Lib.hid (show Lows w [blkL gn 24 [.int .u32 (i0 : Int), .int .u32 (i1 : Int), .int .u32 (i2 : Int)], slL Al nl ls, blkL gs 23 [.slice A9 nn c9, .slice Ar mr cw], slL Ar mr rr, slL A9 nn rs, blkL w.heap.size 26 (k.map u8v)] w6 from HM5.out)
      have HJ := Lib.hid (show ∀ j, j < 3 → ∃ ii : Nat, ii < 4294967296 ∧ ∀ W, Lows w [blkL gn 24 [.int .u32 (i0 : Int), .int .u32 (i1 : Int), .int .u32 (i2 : Int)], slL Al nl ls, blkL gs 23 [.slice A9 nn c9, .slice Ar mr cw], slL Ar mr rr, slL A9 nn rs, blkL w.heap.size 26 (k.map u8v)] W → W.cell? ⟨gn, j, none⟩ = some (.int .u32 (ii : Int)) from fun j hj => by
        rcases (show j = 0 ∨ j = 1 ∨ j = 2 by omega) with rfl | rfl | rfl
        · exact ⟨i0, HI12.out.1, fun W h => (h.blk 0 rfl).cell 0⟩
        · exact ⟨i1, HI12.out.2.1, fun W h => (h.blk 0 rfl).cell 1⟩
        · exact ⟨i2, HI12.out.2.2, fun W h => (h.blk 0 rfl).cell 2⟩)
      clear HM5
      go_loopw [49] (fun i wz => ∃ j : Nat, j ≤ 3 ∧ i = .int .i64 (j : Int) ∧ Lows w [blkL gn 24 [.int .u32 (i0 : Int), .int .u32 (i1 : Int), .int .u32 (i2 : Int)], slL Al nl ls, blkL gs 23 [.slice A9 nn c9, .slice Ar mr cw], slL Ar mr rr, slL A9 nn rs, blkL w.heap.size 26 (k.map u8v)] wz) (fun i _ => 3 - (intOf i).toNat)
      case atStart => exact ⟨0, Nat.zero_le _, rfl, HM.out⟩
      case round =>
        clear HM
        obtain ⟨j, hj, rfl, hM⟩ := hrel
        have HM := Lib.hid hM
        clear hM
        by_cases hj3 : j < 3
        · have d1 : decide ((j : Int) < 3) = true := by simp; omega
          obtain ⟨ii, hii, hcell⟩ := HJ.out j hj3
          have hcl := hcell _ HM.out
          obtain ⟨l2, x2, er, htk⟩ : ∃ (l2 : List SlotM) (x2 er : Nat), takeM ls ii k b = (l2, x2, er) := ⟨_, _, _, rfl⟩
          obtain ⟨m2, hm2⟩ : ∃ z, l2.length = z := ⟨_, rfl⟩
          have hlen : ls.length = nl := (HM.out.get (f := slL Al nl ls) 1 rfl).len
          have hm2b : m2 ≤ 35 := by
            have h := congrArg (fun p => p.1.length) htk
            dsimp only at h
            rw [← hm2, ← h]
            by_cases h32 : ls.length < 32
            · rw [takeM_len h32]; omega
            · rw [takeM, if_pos (by omega)]; simp
          have t1 := take_use HTK.out htk hm2 (n := nl) (by omega) hii HKL.out Al cl
          have t2 := take_use refTake_any htk hm2 (n := nl) (by omega) hii HKL.out Al cl
          rw [HKK.out] at t1 t2
          have HT1 := Lib.hid t1
          have HT2 := Lib.hid t2
          have hfo := findS_ok (HM.out.get (f := slL Al nl ls) 1 rfl).2 ii
          have f1 := fun A n c l W => HFH.out A n c l ii W hii
          have f2 := fun A n c l W => refFind_any A n c l ii W hii
          obtain ⟨dl, hdl⟩ : ∃ z, dropM ls ii = z := ⟨_, rfl⟩
          obtain ⟨dm, hdm⟩ : ∃ z, dl.length = z := ⟨_, rfl⟩
          have hdmb : dm ≤ 34 := by rw [← hdm, ← hdl]; exact Nat.le_trans (List.length_filter_le _ _) (by omega)
          obtain ⟨pl, hpl⟩ : ∃ z, promM ls ii = z := ⟨_, rfl⟩
          have hpm : pl.length = nl := by rw [← hpl, promM_len, hlen]
          have HD1 := Lib.hid (drop_use HDH.out hdl hdm (n := nl) (by omega) hii Al cl)
          have HD2 := Lib.hid (drop_use refDrop_any hdl hdm (n := nl) (by omega) hii Al cl)
          have HP1 := Lib.hid (prom_use HPH.out hpl hpm (n := nl) (by omega) hii Al cl)
          have HP2 := Lib.hid (prom_use refProm_any hpl hpm (n := nl) (by omega) hii Al cl)
          have HF1 := Lib.hid (fun W h => f1 Al nl cl ls W h)
          have HF2 := Lib.hid (fun W h => f2 Al nl cl ls W h)
          clear t1 t2 f1 f2 htk hm2 hdl hdm hpl hpm hlen
          obtain ⟨fs, hfs⟩ : ∃ z, (findS ls ii).1 = z := ⟨_, rfl⟩
          obtain ⟨ok, hok⟩ : ∃ z, (findS ls ii).2 = z := ⟨_, rfl⟩
          rw [hfs] at hfo HF1 HF2
          rw [hok] at HF1 HF2
          obtain ⟨fc, hfc⟩ : ∃ z, fs.cells.toArray = z := ⟨_, rfl⟩
          rw [hfc] at HF1 HF2
          have HFO := Lib.hid hfo
          have HFC := Lib.hid hfc
          have HEQ := Lib.hid (show ∀ W : World, (Op.equalIn 10000 34 (.agg fc) (.agg fc)).run Try.prog W = .ok true W from fun W => by rw [← hfc]; exact slot_eqd fs fs hfo hfo W true (by simp))
          clear hfs hok hfo hfc hcell
          go_wp2_with (refine wpList_load_obj rfl 26 (.tmp 8) rfl w.heap.size 0 rfl (k.map u8v) (HM.out.blk 5 rfl).all _ Try.underlying26 rfl (key_cellsOf k HKL.out) ?_; rw [HKK.out])
          refine (HT1.out _ HCL.out (HM.out.get (f := slL Al nl ls) 1 rfl)).mono ?_
          rintro e wa ⟨A2, c2, rfl, hc2, hr2, hb⟩
          replace HM := Lib.hid ((HM.out.below hb).cons (slL A2 m2 l2) hr2)
          clear hc2 hr2 hb
          clear hcl
          go_wp2_with (refine wpList_load_obj rfl 26 (.tmp 8) rfl w.heap.size 0 rfl (k.map u8v) (HM.out.blk 6 rfl).all _ Try.underlying26 rfl (key_cellsOf k HKL.out) ?_; rw [HKK.out])
          refine (HT2.out _ HCL.out (HM.out.get (f := slL Al nl ls) 2 rfl)).mono ?_
          rintro e wb ⟨A3, c3, rfl, hc2, hr2, hb⟩
          replace HM := Lib.hid ((HM.out.below hb).cons (slL A3 m2 l2) hr2)
          clear hc2 hr2 hb
          go_wp2_with fail
          refine (HF1.out _ ⟨by omega, HCL.out.1, HCL.out.2, (HM.out.get (f := slL Al nl ls) 3 rfl)⟩).mono ?_
          rintro e wc ⟨rfl, hb⟩
          replace HM := Lib.hid (HM.out.below hb)
          clear hb
          have HZ := Lib.hid (Blk.new wc 34 slotZ)
          go_upto_region 12 with (refine wpList_store_obj rfl 34 (.tmp 22) (.tmp 75) rfl wc.heap.size 0 fs.cells rfl (by show Value.agg fc = _; rw [HFC.out]) 34 slotZ HZ.out (slot_cellsOf _ HFO.out) (by rw [SlotM.cells_length HFO.out, slotZ_length]; omega) (slot_one _) ?_; intro w5 hb5 hg5)
          rw [setL_all _ _ (by rw [SlotM.cells_length HFO.out, slotZ_length])] at hb5
          replace HM := Lib.hid ((HM.out.below (below_fresh hg5)).cons (blkL wc.heap.size 34 fs.cells) hb5)
          clear hb5 hg5 HZ
          generalize wc.heap.size = g1 at HM ⊢
          go_wp2_with fail
          refine (HF2.out _ ⟨by omega, HCL.out.1, HCL.out.2, (HM.out.get (f := slL Al nl ls) 4 rfl)⟩).mono ?_
          rintro e wd ⟨rfl, hb⟩
          replace HM := Lib.hid (HM.out.below hb)
          clear hb
          have HZ := Lib.hid (Blk.new wd 34 slotZ)
          go_upto_region 13 with (refine wpList_store_obj rfl 34 (.tmp 24) (.tmp 81) rfl wd.heap.size 0 fs.cells rfl (by show Value.agg fc = _; rw [HFC.out]) 34 slotZ HZ.out (slot_cellsOf _ HFO.out) (by rw [SlotM.cells_length HFO.out, slotZ_length]; omega) (slot_one _) ?_; intro w5 hb5 hg5)
          rw [setL_all _ _ (by rw [SlotM.cells_length HFO.out, slotZ_length])] at hb5
          replace HM := Lib.hid ((HM.out.below (below_fresh hg5)).cons (blkL wd.heap.size 34 fs.cells) hb5)
          clear hb5 hg5 HZ
          generalize wd.heap.size = g2 at HM ⊢
          go_wp2_with (first | (refine wpList_load_obj_g (by rfl) 34 (.tmp 22) rfl g1 0 rfl fs.cells (HM.out.blk 1 rfl).all _ Try.underlying34 rfl (slot_cellsOf _ HFO.out) ?_; rw [HFC.out]) | (refine wpList_load_obj_g (by rfl) 34 (.tmp 24) rfl g2 0 rfl fs.cells (HM.out.blk 0 rfl).all _ Try.underlying34 rfl (slot_cellsOf _ HFO.out) ?_; rw [HFC.out]) | (refine wpList_neq_agg (by rfl) 34 34 92 93 rfl fc fc true rfl rfl slot_noguard (HEQ.out _) ?_))
          refine (same_any A2 A3 m2 c2 c3 l2 (by omega) _ (HM.out.get (f := slL A2 m2 l2) 3 rfl) (HM.out.get (f := slL A3 m2 l2) 2 rfl)).mono ?_
          rintro e ws ⟨rfl, hb⟩
          replace HM := Lib.hid ((((HM.out.below hb).tail 0).tail 0).tail 0 |>.tail 0)
          clear hb
          go_wp2_with fail
          refine (HD1.out _ HCL.out (HM.out.get (f := slL Al nl ls) 1 rfl)).mono ?_
          rintro e wp ⟨Ap, cp, rfl, -, hr2, hb⟩
          replace HM := Lib.hid ((HM.out.below hb).cons (slL Ap dm dl) hr2)
          clear hr2 hb
          go_wp2_with fail
          refine (HD2.out _ HCL.out (HM.out.get (f := slL Al nl ls) 2 rfl)).mono ?_
          rintro e wq ⟨Aq, cq, rfl, -, hr2, hb⟩
          replace HM := Lib.hid ((HM.out.below hb).cons (slL Aq dm dl) hr2)
          clear hr2 hb
          go_wp2_with fail
          refine (same_any Ap Aq dm cp cq dl (by omega) _ (HM.out.get (f := slL Ap dm dl) 1 rfl) (HM.out.get (f := slL Aq dm dl) 0 rfl)).mono ?_
          rintro e ws ⟨rfl, hb⟩
          replace HM := Lib.hid (((HM.out.below hb).tail 0).tail 0)
          clear hb
          go_wp2_with fail
          refine (HP1.out _ HCL.out (HM.out.get (f := slL Al nl ls) 1 rfl)).mono ?_
          rintro e wp ⟨Ap, cp, rfl, -, hr2, hb⟩
          replace HM := Lib.hid ((HM.out.below hb).cons (slL Ap nl pl) hr2)
          clear hr2 hb
          go_wp2_with fail
          refine (HP2.out _ HCL.out (HM.out.get (f := slL Al nl ls) 2 rfl)).mono ?_
          rintro e wq ⟨Aq, cq, rfl, -, hr2, hb⟩
          replace HM := Lib.hid ((HM.out.below hb).cons (slL Aq nl pl) hr2)
          clear hr2 hb
          go_wp2_with fail
          refine (same_any Ap Aq nl cp cq pl (by omega) _ (HM.out.get (f := slL Ap nl pl) 1 rfl) (HM.out.get (f := slL Aq nl pl) 0 rfl)).mono ?_
          rintro e ws ⟨rfl, hb⟩
          replace HM := Lib.hid (((HM.out.below hb).tail 0).tail 0)
          clear hb
          go_wp2_with fail
          go_roundw
          case rel => exact ⟨j + 1, by omega, by go_num, HM.out⟩
          case measure => simp [intOf]; omega
        · obtain rfl : j = 3 := by omega
          have v1 := HVH.out Al nl cl ls
          have v2 := refValidSlots_any Al nl cl ls
          obtain ⟨vl, hvl⟩ : ∃ z, validSlotsM ls = z := ⟨_, rfl⟩
          rw [hvl] at v1 v2
          have HV1 := Lib.hid v1
          have HV2 := Lib.hid v2
          clear v1 v2 hvl
          go_wp2_with fail
          refine (HV1.out _ ⟨by omega, HCL.out.1, HCL.out.2, (HM.out.get (f := slL Al nl ls) 1 rfl)⟩).mono ?_
          rintro e wp ⟨rfl, hb⟩
          replace HM := Lib.hid (HM.out.below hb)
          clear hb
          go_wp2_with fail
          refine (HV2.out _ ⟨by omega, HCL.out.1, HCL.out.2, (HM.out.get (f := slL Al nl ls) 1 rfl)⟩).mono ?_
          rintro e wq ⟨rfl, hb⟩
          replace HM := Lib.hid (((HM.out.below hb).tail 0).tail 0)
          clear hb
          go_wp2_with fail
          go_roundw
          case rel => exact ⟨q + 1, by omega, by go_num, HM.out⟩
          case measure => simp [intOf]; omega
    · obtain rfl : q = 2 := by omega
      go_wp2_with fail
      refine (HVH.out A9 nn c9 rs _ ⟨by omega, HCP.out.1, HCP.out.2, (HM.out.get (f := slL A9 nn rs) 2 rfl)⟩).mono ?_
      rintro e wp ⟨rfl, hb⟩
      rw [HVX.out]
      replace HM := Lib.hid (HM.out.below hb)
      clear hb
      go_wp2_with fail
      refine (HBG.out _).mono ?_
      rintro e wv ⟨rfl, hb⟩
      have HF := Lib.hid ((HM.out.below hb).bel)
      clear hb HM
      go_wp2_with fail
      go_ret
      exact ⟨rfl, HF.out⟩
end Go.Proofs.Ytboeeopgghldnaa
namespace Go.Proofs.Ytboeeopgghldnaa
open Go.RowKit

/-- the number of items ahead of the first one that is wanted -/
def firstM (p : List Value → Bool) (os : List (List Value)) : Nat := (os.findIdx? p).getD os.length
theorem firstM_none {p : List Value → Bool} {os : List (List Value)} (h : ∀ o ∈ os, p o = false) : firstM p os = os.length := by
  have e : os.findIdx? p = none := List.findIdx?_eq_none_iff.2 h
  unfold firstM
  rw [e]
  rfl
theorem firstM_some {p : List Value → Bool} {os : List (List Value)} {j : Nat} {o : List Value} (ho : os[j]? = some o) (hp : p o = true) (hn : ∀ (q : Nat) x, q < j → os[q]? = some x → p x = false) : firstM p os = j := by
  obtain ⟨hi, rfl⟩ := List.getElem?_eq_some_iff.1 ho
  have e : os.findIdx? p = some j := by
    rw [List.findIdx?_eq_some_iff_getElem]
    exact ⟨hi, hp, fun q hq => by simpa using hn q _ hq (List.getElem?_eq_getElem (by omega))⟩
  unfold firstM
  rw [e]
  rfl
set_option maxRecDepth 100000 in
set_option maxHeartbeats 16000000 in
theorem ixFirst_any (A : Option Addr) (n c : Nat) (os : List (List Value)) (hn : n ≤ 1000000) (h1 : ∀ o ∈ os, ∀ v ∈ o, v.oneCell' = true) (F : Nat) (lb : Array Value) (hE : ∀ (args : Array Value) (W : World), (callFunc F args).run Try.prog W = .ok (.enter F args) W) (p : List Value → Bool) (B : Nat) (w : World) (hB : B ≤ w.heap.size) (hr : RdRow w w.heap.size A 34 n os) (hf : PredB Try.prog F lb p B w os) :
    Calls Try.prog 23 #[.slice A n c, .func (.func F) #[] lb] w fun e w' => e = .returned (.int .i64 (firstM p os : Int)) ∧ Below w.heap.size w w' := by
  have HR := Lib.hid hr
  have HF := Lib.hid hf
  have HB := Lib.hid hB
  have H1 := Lib.hid h1
  clear hr hf hB h1
  go_enter Try.func23, Try.ntmps23
  go_wp2_with fail
  go_loopw [9] (fun i wr => ∃ j : Nat, j ≤ n ∧ i = .int .i64 (j : Int) ∧ Below w.heap.size w wr ∧ ∀ (q : Nat) x, q < j → os[q]? = some x → p x = false) (fun i _ => n - (intOf i).toNat)
  case atStart => exact ⟨0, Nat.zero_le _, rfl, Below.refl _ _, fun q _ h => absurd h (Nat.not_lt_zero _)⟩
  case round =>
    obtain ⟨j, hj, rfl, hW, hno⟩ := hrel
    have HW := Lib.hid hW
    have HNO := Lib.hid hno
    clear hW hno
    by_cases hjn : j < n
    · have d1 : decide ((j : Int) < (n : Int)) = true := by simp; omega
      obtain ⟨b, off, rfl⟩ := HR.out.addr (by omega)
      obtain ⟨o, ho⟩ : ∃ o, os[j]? = some o := ⟨os[j]'(by rw [HR.out.1]; exact hjn), List.getElem?_eq_getElem _⟩
      have hat := HR.out.at j o ho
      have HLA := Lib.hid (show At wr b (off + j * 34) o from fun q v hv => (World.cell?_of_block (HW.out.block b hat.1)).trans (hat.2 q v hv))
      have HOL := Lib.hid (HR.out.2.1 o (List.mem_of_getElem? ho))
      have HU := Lib.hid (sl_size o HOL.out)
      have H1O := Lib.hid (H1.out o (List.mem_of_getElem? ho))
      have hcall := HF.out o (List.mem_of_getElem? ho)
      obtain ⟨oc, hoc⟩ : ∃ z, o.toArray = z := ⟨_, rfl⟩
      rw [hoc] at hcall
      obtain ⟨y, hy⟩ : ∃ y, p o = y := ⟨_, rfl⟩
      rw [hy] at hcall
      have HOC := Lib.hid hoc
      have HC := Lib.hid hcall
      have HJO := Lib.hid (And.intro ho hy)
      clear hat ho hcall hoc hy
      have HZ := Lib.hid (Blk.new wr 34 slotZ)
      go_upto_region 4 with (first | (refine wpList_load_obj rfl 34 (.tmp 12) rfl b _ rfl o HLA.out _ Try.underlying34 rfl HU.out ?_; rw [HOC.out]) | (refine wpList_store_obj rfl 34 (.tmp 6) (.tmp 13) rfl wr.heap.size 0 o rfl (by show Value.agg oc = _; rw [HOC.out]) 34 slotZ HZ.out HU.out (by rw [HOL.out, slotZ_length]; omega) H1O.out ?_; intro w4 hb4 hg4))
      rw [setL_all slotZ o (by rw [HOL.out, slotZ_length])] at hb4
      have HW4 := Lib.hid (HW.out.trans ((below_fresh hg4).mono HW.out.size))
      have HP := Lib.hid hb4
      clear hb4 hg4 HW HZ d1 HLA
      generalize wr.heap.size = P1 at HP ⊢
      go_wp2_with (refine wpList_load_obj rfl 34 (.tmp 6) rfl P1 0 rfl o HP.out.all _ Try.underlying34 rfl HU.out ?_; rw [HOC.out])
      refine (HC.out w4 (HW4.out.mono HB.out)).mono ?_
      rintro e w2 ⟨rfl, hb⟩
      have HW2 := Lib.hid (HW4.out.trans (hb.mono HW4.out.size))
      clear hb HW4 HC HP
      cases y with
      | true =>
        go_wp2
        go_ret
        exact ⟨by rw [firstM_some HJO.out.1 HJO.out.2 HNO.out]; rfl, HW2.out⟩
      | false =>
        go_wp2_with fail
        go_roundw
        case rel => exact ⟨j + 1, by omega, by go_num, HW2.out, fun q x hq hx => by
          rcases Nat.lt_or_ge q j with h | h
          · exact HNO.out q x h hx
          · obtain rfl : q = j := by omega
            have e := HJO.out.1.symm.trans hx
            injection e with e
            rw [← e]
            exact HJO.out.2⟩
        case measure => simp [intOf]; omega
    · obtain rfl : j = n := by omega
      have d1 : decide ((j : Int) < (j : Int)) = false := by simp
      have HF2 := Lib.hid HW.out
      have HX := Lib.hid ((firstM_none (all_false HR.out.1 HNO.out)).trans HR.out.1)
      clear HW HNO
      go_wp2
      go_ret
      exact ⟨by rw [HX.out]; rfl, HF2.out⟩
end Go.Proofs.Ytboeeopgghldnaa
