/-
  What is asked of Less holds of the landed one. A timer's purpose and what is permitted. The contract of slices.IndexFunc at a slice of structs. The predicates that the program's timers hand on. The contract of slices.Clone at a slice of structs. The contract of slices.DeleteFunc at a slice of structs of the call's own. The contract of slices.DeleteFunc at a slice of structs of the call's own, for a predicate that looks at what was made behind the slice. The builtin copy of objects of any size into a block, the append of made objects where there is no room, and what slices.overlaps gives of two blocks. No function of the program is named here. The contract of slices.DeleteFunc at a slice of structs of the call's own, for a predicate that looks at what was made behind the slice; the result is a row of the call's own. What is asked of Cancel, CancelPeer and Has holds of the landed ones. No statement is proved here.
-/
import Derived.RegionTactic
import Derived.Deep.DeepCutAuto
import Derived.Shelf.Abstract
import Derived.Laws.Cover3
import Derived.Lib.AppendZerosOnto
import Derived.Lib.Overlaps
import Derived.Test.YtffeecaidkeepaaWheelChangesB5
namespace Go.Proofs.Ytffeecaidkeepaa
open Go.RowKit

theorem compare_bel (n m c d B B' : Nat) (A A' : Option Addr) (a b : List UInt8) (w : World) (ha : Rd w B A n a) (hb : Rd w B' A' m b) :
    Calls Try.prog 43 #[.slice A n c, .slice A' m d] w fun e w' => e = .returned (.int .i64 (Lib.compareBytes a b)) ∧ Below w.heap.size w w' :=
  (compare_any n m c d B B' A A' a b w ha hb).mono fun _ _ ⟨he, hw⟩ => ⟨he, by subst hw; exact Below.refl _ _⟩
theorem compare_zero : ∀ (a b : List UInt8), a.length = b.length → (Lib.compareBytes a b = 0 ↔ a = b)
  | [], [], _ => by simp [Lib.compareBytes]
  | [], _ :: _, h => by simp at h
  | _ :: _, [], h => by simp at h
  | x :: a, y :: b, h => by
    have ih := compare_zero a b (by simpa using h)
    unfold Lib.compareBytes
    by_cases h1 : x < y
    · rw [if_pos h1]
      have : x ≠ y := fun e => by subst e; exact UInt8.lt_irrefl _ h1
      simp [this]
    · by_cases h2 : y < x
      · rw [if_neg h1, if_pos h2]
        have : x ≠ y := fun e => by subst e; exact UInt8.lt_irrefl _ h2
        simp [this]
      · have he : x = y := by
          apply UInt8.toNat.inj
          rw [UInt8.lt_iff_toNat_lt] at h1 h2
          omega
        subst he
        rw [if_neg h1, if_neg h2, ih]
        simp
theorem cmpV_zero (x y : Int) : cmpV x y = 0 ↔ x = y := by unfold cmpV; split <;> (try split) <;> omega
theorem cmpV_neg (x y : Int) : cmpV x y < 0 ↔ x < y := by unfold cmpV; split <;> (try split) <;> omega
theorem orV_cons0 (l : List Int) : orV (0 :: l) = orV l := rfl
theorem orV_cons {x : Int} (h : x ≠ 0) (l : List Int) : orV (x :: l) = x := by
  have e : (x :: l).find? (fun x => !(x == 0)) = some x := List.find?_cons_of_pos (by simpa using h)
  rw [orV, e]
  rfl
theorem less_or {a b : TimerM} (ha : a.ok) (hb : b.ok) : decide (orV [cmpV a.tm b.tm, Lib.compareBytes a.peer b.peer, cmpV a.kind b.kind] < 0) = lessT a b := by
  unfold lessT
  by_cases h1 : a.tm = b.tm
  · rw [(cmpV_zero _ _).2 h1, orV_cons0, if_pos h1]
    by_cases h2 : a.peer = b.peer
    · rw [(compare_zero _ _ (by rw [ha.2.1, hb.2.1])).2 h2, orV_cons0, if_pos h2]
      by_cases h3 : cmpV a.kind b.kind = 0
      · rw [h3, orV_cons0]
        have := (cmpV_zero _ _).1 h3
        rw [decide_eq_false (show ¬ a.kind < b.kind by omega)]
        rfl
      · rw [orV_cons h3, decide_eq_decide]
        exact cmpV_neg _ _
    · rw [orV_cons (fun h => h2 ((compare_zero _ _ (by rw [ha.2.1, hb.2.1])).1 h)), if_neg h2]
      exact compare_less _ _
  · rw [orV_cons (fun h => h1 ((cmpV_zero _ _).1 h)), if_neg h1, decide_eq_decide]
    exact cmpV_neg _ _
set_option maxRecDepth 100000 in
set_option maxHeartbeats 8000000 in
theorem whBefore_any (a b : TimerM) (w : World) (ha : a.ok) (hb : b.ok) : Calls Try.prog 35 #[.agg a.cells.toArray, .agg b.cells.toArray] w fun e w' => e = .returned (.bool (lessT a b)) ∧ Below w.heap.size w w' := by
  obtain ⟨ca, hca⟩ : ∃ x, a.cells.toArray = x := ⟨_, rfl⟩
  obtain ⟨cb, hcb⟩ : ∃ x, b.cells.toArray = x := ⟨_, rfl⟩
  rw [hca, hcb]
  have hm := ((Lows.nil w).alloc 58 ca a.cells hca.symm).alloc 27 cb b.cells hcb.symm
  have HM := Lib.hid (show Lows w [blkL (w.heap.size + 1) 27 b.cells, blkL w.heap.size 58 a.cells] ((w.alloc (.cells ca 58)).alloc (.cells cb 27)) from by simpa using hm)
  have HOA := Lib.hid ha
  have HOB := Lib.hid hb
  have HR := Lib.hid (less_or ha hb)
  clear hca hcb ha hb hm
  go_enter Try.func35, Try.ntmps35
  go_upto_region 1 with fail
  generalize (w.alloc (.cells ca 58)).alloc (.cells cb 27) = w1 at HM ⊢
  obtain ⟨GB, hGB⟩ : ∃ z, w.heap.size + 1 = z := ⟨_, rfl⟩
  rw [hGB] at HM ⊢
  obtain ⟨GA, hGA⟩ : ∃ z, w.heap.size = z := ⟨_, rfl⟩
  rw [hGA] at HM ⊢
  clear hGA hGB
  refine wp_region_held_drew (S := fun W' => Lows w [blkL GB 27 b.cells, blkL GA 58 a.cells] W') (by kernel_rfl) (HM.out.drew) (fun hHeld => ?_)
  replace HM := Lib.hid HM.out.drew
  generalize w1.drew = wd1 at HM hHeld ⊢
  refine take_first (v := ?_) 0 rfl (by kernel_rfl) (by kernel_rfl) (by kernel_rfl) (fun _ _ _ h => h) (Or.inl ⟨by rfl, ?_⟩) (by assumption) ?_
  rotate_left
  · (intro w hSw; (try dsimp only at hSw); go_simp; try with_reducible rfl)
  (try simp only [Act.put, List.setIfInBounds_toArray, List.set_cons_zero, List.set_cons_succ])
  refine take_first (v := ?_) 1 rfl (by kernel_rfl) (by kernel_rfl) (by kernel_rfl) (fun _ _ _ h => h) (Or.inl ⟨by rfl, ?_⟩) (by assumption) ?_
  rotate_left
  · (intro w hSw; (try dsimp only at hSw); go_simp; try with_reducible rfl)
  (try simp only [Act.put, List.setIfInBounds_toArray, List.set_cons_zero, List.set_cons_succ])
  refine take_first (v := ?_) 2 rfl (by kernel_rfl) (by kernel_rfl) (by kernel_rfl) (fun _ _ _ h => h) (Or.inl ⟨by rfl, ?_⟩) (by assumption) ?_
  rotate_left
  · (intro w hSw; (try dsimp only at hSw); have fb := tm_at (Lows.blk hSw 1 rfl).all; go_simp; try with_reducible rfl)
  (try simp only [Act.put, List.setIfInBounds_toArray, List.set_cons_zero, List.set_cons_succ])
  refine take_first (v := ?_) 3 rfl (by kernel_rfl) (by kernel_rfl) (by kernel_rfl) (fun _ _ _ h => h) (Or.inl ⟨by rfl, ?_⟩) (by assumption) ?_
  rotate_left
  · (intro w hSw; (try dsimp only at hSw); go_simp; try with_reducible rfl)
  (try simp only [Act.put, List.setIfInBounds_toArray, List.set_cons_zero, List.set_cons_succ])
  refine take_first (v := ?_) 4 rfl (by kernel_rfl) (by kernel_rfl) (by kernel_rfl) (fun _ _ _ h => h) (Or.inl ⟨by rfl, ?_⟩) (by assumption) ?_
  rotate_left
  · (intro w hSw; (try dsimp only at hSw); have fb := tm_at (Lows.blk hSw 0 rfl).all; go_simp; try with_reducible rfl)
  (try simp only [Act.put, List.setIfInBounds_toArray, List.set_cons_zero, List.set_cons_succ])
  refine take_first (v := ?_) 6 rfl (by kernel_rfl) (by kernel_rfl) (by kernel_rfl) (fun _ _ _ h => h) (Or.inl ⟨by rfl, ?_⟩) (by assumption) ?_
  rotate_left
  · (intro w hSw; (try dsimp only at hSw); go_simp; try with_reducible rfl)
  (try simp only [Act.put, List.setIfInBounds_toArray, List.set_cons_zero, List.set_cons_succ])
  refine take_first (v := ?_) 7 rfl (by kernel_rfl) (by kernel_rfl) (by kernel_rfl) (fun _ _ _ h => h) (Or.inl ⟨by rfl, ?_⟩) (by assumption) ?_
  rotate_left
  · (intro w hSw; (try dsimp only at hSw); go_simp; try with_reducible rfl)
  (try simp only [Act.put, List.setIfInBounds_toArray, List.set_cons_zero, List.set_cons_succ])
  refine take_first (v := ?_) 8 rfl (by kernel_rfl) (by kernel_rfl) (by kernel_rfl) (fun _ _ _ h => h) (Or.inl ⟨by rfl, ?_⟩) (by assumption) ?_
  rotate_left
  · (intro w hSw; (try dsimp only at hSw); go_simp; try with_reducible rfl)
  (try simp only [Act.put, List.setIfInBounds_toArray, List.set_cons_zero, List.set_cons_succ])
  refine take_first (v := ?_) 9 rfl (by kernel_rfl) (by kernel_rfl) (by kernel_rfl) (fun _ _ _ h => h) (Or.inl ⟨by rfl, ?_⟩) (by assumption) ?_
  rotate_left
  · (intro w hSw; (try dsimp only at hSw); go_simp; try with_reducible rfl)
  (try simp only [Act.put, List.setIfInBounds_toArray, List.set_cons_zero, List.set_cons_succ])
  refine take_first (v := ?_) 10 rfl (by kernel_rfl) (by kernel_rfl) (by kernel_rfl) (fun _ _ _ h => h) (Or.inl ⟨by rfl, ?_⟩) (by assumption) ?_
  rotate_left
  · (intro w hSw; (try dsimp only at hSw); go_simp; try with_reducible rfl)
  (try simp only [Act.put, List.setIfInBounds_toArray, List.set_cons_zero, List.set_cons_succ])
  refine take_first (v := ?_) 12 rfl (by kernel_rfl) (by kernel_rfl) (by kernel_rfl) (fun _ _ _ h => h) (Or.inl ⟨by rfl, ?_⟩) (by assumption) ?_
  rotate_left
  · (intro w hSw; (try dsimp only at hSw); go_simp; try with_reducible rfl)
  (try simp only [Act.put, List.setIfInBounds_toArray, List.set_cons_zero, List.set_cons_succ])
  refine take_first (v := ?_) 13 rfl (by kernel_rfl) (by kernel_rfl) (by kernel_rfl) (fun _ _ _ h => h) (Or.inl ⟨by rfl, ?_⟩) (by assumption) ?_
  rotate_left
  · (intro w hSw; (try dsimp only at hSw); go_simp; try with_reducible rfl)
  (try simp only [Act.put, List.setIfInBounds_toArray, List.set_cons_zero, List.set_cons_succ])
  refine take_first (v := ?_) 14 rfl (by kernel_rfl) (by kernel_rfl) (by kernel_rfl) (fun _ _ _ h => h) (Or.inl ⟨by rfl, ?_⟩) (by assumption) ?_
  rotate_left
  · (intro w hSw; (try dsimp only at hSw); have fb := kind_at (Lows.blk hSw 1 rfl).all HOA.out; go_simp; try with_reducible rfl)
  (try simp only [Act.put, List.setIfInBounds_toArray, List.set_cons_zero, List.set_cons_succ])
  refine take_first (v := ?_) 15 rfl (by kernel_rfl) (by kernel_rfl) (by kernel_rfl) (fun _ _ _ h => h) (Or.inl ⟨by rfl, ?_⟩) (by assumption) ?_
  rotate_left
  · (intro w hSw; (try dsimp only at hSw); go_simp; try with_reducible rfl)
  (try simp only [Act.put, List.setIfInBounds_toArray, List.set_cons_zero, List.set_cons_succ])
  refine take_first (v := ?_) 16 rfl (by kernel_rfl) (by kernel_rfl) (by kernel_rfl) (fun _ _ _ h => h) (Or.inl ⟨by rfl, ?_⟩) (by assumption) ?_
  rotate_left
  · (intro w hSw; (try dsimp only at hSw); have fb := kind_at (Lows.blk hSw 0 rfl).all HOB.out; go_simp; try with_reducible rfl)
  (try simp only [Act.put, List.setIfInBounds_toArray, List.set_cons_zero, List.set_cons_succ])
  refine step_one 5 rfl (by kernel_rfl) (fun K hK => ?_)
  clear hHeld
  go_simp
  refine (cmp64_any a.tm b.tm _).mono ?_
  rintro e wy2 ⟨rfl, hb⟩
  replace HM := Lib.hid (show Lows w [blkL GB 27 b.cells, blkL GA 58 a.cells] wy2 from HM.out.below hb)
  clear hb
  go_wp2_with fail
  refine hK.out _ _ (HM.out) (fun hHeld => ?_)
  clear hK K
  (try simp only [Act.put, List.setIfInBounds_toArray, List.set_cons_zero, List.set_cons_succ])
  refine step_one 11 rfl (by kernel_rfl) (fun K hK => ?_)
  clear hHeld
  go_simp
  refine (compare_bel 32 32 32 32 _ _ _ _ a.peer b.peer _ (timer_rd (HM.out.blk 1 rfl) HOA.out) (timer_rd (HM.out.blk 0 rfl) HOB.out)).mono ?_
  rintro e wy3 ⟨rfl, hb⟩
  replace HM := Lib.hid (show Lows w [blkL GB 27 b.cells, blkL GA 58 a.cells] wy3 from HM.out.below hb)
  clear hb
  go_wp2_with fail
  refine hK.out _ _ (HM.out) (fun hHeld => ?_)
  clear hK K
  (try simp only [Act.put, List.setIfInBounds_toArray, List.set_cons_zero, List.set_cons_succ])
  refine step_one 17 rfl (by kernel_rfl) (fun K hK => ?_)
  clear hHeld
  go_simp
  refine (cmpI_any a.kind b.kind _).mono ?_
  rintro e wy4 ⟨rfl, hb⟩
  replace HM := Lib.hid (show Lows w [blkL GB 27 b.cells, blkL GA 58 a.cells] wy4 from HM.out.below hb)
  clear hb
  go_wp2_with fail
  refine hK.out _ _ (HM.out) (fun hHeld => ?_)
  clear hK K
  (try simp only [Act.put, List.setIfInBounds_toArray, List.set_cons_zero, List.set_cons_succ])
  refine step_one 18 rfl (by kernel_rfl) (fun K hK => ?_)
  clear hHeld
  go_simp
  have hm9 := HM.out.alloc 3 #[.int .i64 (cmpV a.tm b.tm), .int .i64 (Lib.compareBytes a.peer b.peer), .int .i64 (cmpV a.kind b.kind)] ([.int .i64 (cmpV a.tm b.tm), .int .i64 (Lib.compareBytes a.peer b.peer), .int .i64 (cmpV a.kind b.kind)]) rfl
  generalize wy4.alloc (.cells #[.int .i64 (cmpV a.tm b.tm), .int .i64 (Lib.compareBytes a.peer b.peer), .int .i64 (cmpV a.kind b.kind)] 3) = wy5 at hm9 ⊢
  generalize wy4.heap.size = G3 at hm9 ⊢
  replace HM := Lib.hid (show Lows w [blkL G3 3 ([.int .i64 (cmpV a.tm b.tm), .int .i64 (Lib.compareBytes a.peer b.peer), .int .i64 (cmpV a.kind b.kind)]), blkL GB 27 b.cells, blkL GA 58 a.cells] wy5 from hm9)
  clear hm9
  refine hK.out _ _ (HM.out.tail 0) (fun hHeld => ?_)
  clear hK K
  (try simp only [Act.put, List.setIfInBounds_toArray, List.set_cons_zero, List.set_cons_succ])
  refine wpAnyH_stronger (T := fun W' => Lows w [blkL G3 3 ([.int .i64 (cmpV a.tm b.tm), .int .i64 (Lib.compareBytes a.peer b.peer), .int .i64 (cmpV a.kind b.kind)]), blkL GB 27 b.cells, blkL GA 58 a.cells] W') (fun _ h' => (h'.tail 0)) _ _ _ _ ?_
  replace hHeld := HM.out
  refine step_one 19 rfl (by kernel_rfl) (fun K hK => ?_)
  clear hHeld
  go_simp
  refine (cmpOr_any G3 3 3 (by omega) [cmpV a.tm b.tm, Lib.compareBytes a.peer b.peer, cmpV a.kind b.kind] rfl 3 _ (HM.out.blk 0 rfl)).mono ?_
  rintro e wy6 ⟨rfl, hb⟩
  replace HM := Lib.hid (show Lows w [blkL G3 3 ([.int .i64 (cmpV a.tm b.tm), .int .i64 (Lib.compareBytes a.peer b.peer), .int .i64 (cmpV a.kind b.kind)]), blkL GB 27 b.cells, blkL GA 58 a.cells] wy6 from HM.out.below hb)
  clear hb
  go_wp2_with fail
  refine hK.out _ _ (HM.out) (fun hHeld => ?_)
  clear hK K
  (try simp only [Act.put, List.setIfInBounds_toArray, List.set_cons_zero, List.set_cons_succ])
  refine take_first (v := ?_) 20 rfl (by kernel_rfl) (by kernel_rfl) (by kernel_rfl) (fun _ _ _ h => h) (Or.inl ⟨by rfl, ?_⟩) (by assumption) ?_
  rotate_left
  · (intro w hSw; (try dsimp only at hSw); go_simp; try with_reducible rfl)
  (try simp only [Act.put, List.setIfInBounds_toArray, List.set_cons_zero, List.set_cons_succ])
  refine take_first (v := ?_) 21 rfl (by kernel_rfl) (by kernel_rfl) (by kernel_rfl) (fun _ _ _ h => h) (Or.inl ⟨by rfl, ?_⟩) (by assumption) ?_
  rotate_left
  · (intro w hSw; (try dsimp only at hSw); go_simp; try with_reducible rfl)
  (try simp only [Act.put, List.setIfInBounds_toArray, List.set_cons_zero, List.set_cons_succ])
  refine wpAnyH_done (by kernel_rfl) ?_ _
  clear hHeld
  have HF := Lib.hid HM.out.bel
  clear HM
  go_wp2
  go_ret
  exact ⟨by have h := HR.out; simp at h ⊢; exact h, HF.out⟩
theorem timer_built (t : TimerM) (h : t.ok) : Try.prog.built 58 [(0, .agg t.cells.toArray)] = some t.cells.toArray := by
  rw [built_of 58 [34] [timerZ] (by kernel_rfl) #[(0, 34)] (fun parts => by kernel_rfl) (fun i h => by
    match i, h with
    | 0, _ => rfl
    | i + 1, h => exact absurd h (by simp)) _ (fun p hp => by
    simp only [List.mem_cons, List.not_mem_nil, or_false] at hp
    subst hp
    simp [Value.cells, TimerM.cells_length h])]
  simp [Value.cells]
set_option maxRecDepth 100000 in
set_option maxHeartbeats 8000000 in
theorem whLessC : WhLessC 21 := by
  intro a b w ha hb
  have hbt := timer_built a ha
  have hbf := fun W => whBefore_any a b W ha hb
  obtain ⟨ca, hca⟩ : ∃ x, a.cells.toArray = x := ⟨_, rfl⟩
  obtain ⟨cb, hcb⟩ : ∃ x, b.cells.toArray = x := ⟨_, rfl⟩
  rw [hca] at hbt
  simp only [hca, hcb] at hbf
  rw [hca, hcb]
  have hm := ((Lows.nil w).alloc 27 ca a.cells hca.symm).alloc 27 cb b.cells hcb.symm
  have HM := Lib.hid (show Lows w [blkL (w.heap.size + 1) 27 b.cells, blkL w.heap.size 27 a.cells] ((w.alloc (.cells ca 27)).alloc (.cells cb 27)) from by simpa using hm)
  have HOA := Lib.hid ha
  have HOB := Lib.hid hb
  have HBT := Lib.hid hbt
  have HBF := Lib.hid hbf
  have HCA := Lib.hid hca
  have HCB := Lib.hid hcb
  clear hca hcb ha hb hm hbt hbf
  go_enter Try.func21, Try.ntmps21
  go_upto_region 1 with fail
  generalize (w.alloc (.cells ca 27)).alloc (.cells cb 27) = w1 at HM ⊢
  go_wp2_with (first | (refine wpList_load_obj rfl 27 (.tmp 2) rfl w.heap.size 0 rfl a.cells (HM.out.blk 1 rfl).all _ Try.underlying27 rfl (timer_cellsOf a HOA.out) ?_; rw [HCA.out]) | (refine wpList_build_as rfl 58 [(0, .tmp 5)] rfl ca ?_ ?_; exact HBT.out) | (refine wpList_load_obj rfl 27 (.tmp 3) rfl (w.heap.size + 1) 0 rfl b.cells (HM.out.blk 0 rfl).all _ Try.underlying27 rfl (timer_cellsOf b HOB.out) ?_; rw [HCB.out]))
  refine (HBF.out _).mono ?_
  rintro e w2 ⟨rfl, hb⟩
  have HF := Lib.hid (HM.out.below hb).bel
  clear hb HM HBF
  go_wp2
  go_ret
  exact ⟨rfl, HF.out⟩
end Go.Proofs.Ytffeecaidkeepaa
namespace Go.Proofs.Ytffeecaidkeepaa
open Go.RowKit

/-- a purpose as cells -/
def purC (k : List UInt8) (d : Int) : List Value := k.map u8v ++ [.int .i64 d]
theorem purC_length {k : List UInt8} (h : k.length = 32) (d : Int) : (purC k d).length = 33 := by rw [purC, List.length_append, List.length_map, h]; rfl
theorem pur_cellsOf {k : List UInt8} (h : k.length = 32) (d : Int) : (Try.prog.info? 60).map (·.size) = some (purC k d).length := by
  rw [purC_length h]; kernel_rfl
theorem pur_one (k : List UInt8) (d : Int) : ∀ v ∈ purC k d, v.oneCell' = true := by
  intro v hv
  rw [purC] at hv
  simp only [List.mem_append, List.mem_map, List.mem_cons, List.not_mem_nil, or_false] at hv
  rcases hv with ⟨x, _, rfl⟩ | rfl <;> rfl
def purZ : List Value := purC (List.replicate 32 0) 0
theorem pur_built {k : List UInt8} (h : k.length = 32) (d : Int) : Try.prog.built 60 [(0, .agg (k.map u8v).toArray), (1, .int .i64 d)] = some (purC k d).toArray := by
  rw [built_of 60 [32, 1] [aeZ 32, [.int .i64 0]] (by kernel_rfl) #[(0, 32), (32, 1)] (fun parts => by kernel_rfl) (fun i h => by
    match i, h with
    | 0, _ => rfl
    | 1, _ => rfl
    | i + 2, h => exact absurd h (by simp)) _ (fun p hp => by
    simp only [List.mem_cons, List.not_mem_nil, or_false] at hp
    rcases hp with rfl | rfl
    · simp [Value.cells, h]
    · rfl)]
  simp [purC, Value.cells]
theorem pur_inj {k l : List UInt8} {d e : Int} (hk : k.length = 32) (hl : l.length = 32) : purC k d = purC l e ↔ (k = l ∧ d = e) := by
  refine ⟨fun h => ?_, fun h => by rw [h.1, h.2]⟩
  have h3 := List.append_inj h (by rw [List.length_map, List.length_map, hk, hl])
  have h4 := u8v_inj.1 h3.1
  have h5 := h3.2
  simp only [List.cons.injEq, Value.int.injEq, true_and, and_true] at h5
  exact ⟨h4, h5⟩
theorem pur_lits (k : List UInt8) (d : Int) (h : k.length = 32) (hd : inI64 d) : LitsAt Try.prog 5 60 (purC k d) := by
  refine lits_struct Try.underlying60 (purC k d) ?_ (by simp) ?_
  · rw [purC_length h]; kernel_rfl
  · intro f hf
    simp only [List.mem_cons, List.not_mem_nil, or_false] at hf
    rcases hf with rfl | rfl
    · have e : ((purC k d).drop 0).take (Try.prog.cellsOf 25) = k.map u8v := by
        rw [show Try.prog.cellsOf 25 = 32 by kernel_rfl, purC, List.drop_zero, List.take_left' (by rw [List.length_map, h])]
      exact e ▸ key_lits 2 k h
    · have e : ((purC k d).drop 32).take (Try.prog.cellsOf 3) = [.int .i64 d] := by
        rw [show Try.prog.cellsOf 3 = 1 by kernel_rfl, purC, List.drop_left' (by rw [List.length_map, h])]
        rfl
      unfold inI64 at hd
      exact e ▸ lits_int Try.underlying3 _ ⟨by simp [IntKind.min, IntKind.signed, IntKind.bits]; omega, by simp [IntKind.max, IntKind.signed, IntKind.bits]; omega⟩
theorem pur_eqd (k l : List UInt8) (d e : Int) (hk : k.length = 32) (hl : l.length = 32) (hd : inI64 d) (he : inI64 e) (w : World) : (Op.equalIn 10000 60 (.agg (purC k d).toArray) (.agg (purC l e).toArray)).run Try.prog w = .ok (decide (k = l) && decide (d = e)) w :=
  eq_obj 8 5 60 (by omega) (by kernel_rfl) (by kernel_rfl) (purC k d) (purC l e) (pur_lits k d hk hd) (pur_lits l e hl he) _ Try.underlying60 rfl (by rw [purC_length hk]; kernel_rfl) (by rw [purC_length hl]; kernel_rfl) _ (by rw [Bool.and_eq_true, decide_eq_true_iff, decide_eq_true_iff, pur_inj hk hl]) w
theorem pur_noguard : Try.prog.eqGuardType Try.prog.depth 60 = false := by kernel_rfl
set_option maxRecDepth 100000 in
set_option maxHeartbeats 8000000 in
theorem whPurpose_any (t : TimerM) (ht : t.ok) (w : World) : Calls Try.prog 34 #[.agg t.cells.toArray] w fun e w' => e = .returned (.agg (purC t.peer t.kind).toArray) ∧ Below w.heap.size w w' := by
  have hpb := pur_built ht.2.1 t.kind
  obtain ⟨ct, hct⟩ : ∃ z, t.cells.toArray = z := ⟨_, rfl⟩
  obtain ⟨ck, hck⟩ : ∃ z, (t.peer.map u8v).toArray = z := ⟨_, rfl⟩
  obtain ⟨cp, hcp⟩ : ∃ z, (purC t.peer t.kind).toArray = z := ⟨_, rfl⟩
  rw [hck, hcp] at hpb
  rw [hct]
  have hm := ((Mem.nil w).alloc rfl 58 ct t.cells hct.symm).alloc (g := w.heap.size + 1) (by simp) 60 #[.int .u8 0, .int .u8 0, .int .u8 0, .int .u8 0, .int .u8 0, .int .u8 0, .int .u8 0, .int .u8 0, .int .u8 0, .int .u8 0, .int .u8 0, .int .u8 0, .int .u8 0, .int .u8 0, .int .u8 0, .int .u8 0, .int .u8 0, .int .u8 0, .int .u8 0, .int .u8 0, .int .u8 0, .int .u8 0, .int .u8 0, .int .u8 0, .int .u8 0, .int .u8 0, .int .u8 0, .int .u8 0, .int .u8 0, .int .u8 0, .int .u8 0, .int .u8 0, .int .i64 0] purZ rfl
  have HM := Lib.hid (show Mem w [blkE (w.heap.size + 1) 60 purZ, blkE w.heap.size 58 t.cells] ((w.alloc (.cells ct 58)).alloc (.cells #[.int .u8 0, .int .u8 0, .int .u8 0, .int .u8 0, .int .u8 0, .int .u8 0, .int .u8 0, .int .u8 0, .int .u8 0, .int .u8 0, .int .u8 0, .int .u8 0, .int .u8 0, .int .u8 0, .int .u8 0, .int .u8 0, .int .u8 0, .int .u8 0, .int .u8 0, .int .u8 0, .int .u8 0, .int .u8 0, .int .u8 0, .int .u8 0, .int .u8 0, .int .u8 0, .int .u8 0, .int .u8 0, .int .u8 0, .int .u8 0, .int .u8 0, .int .u8 0, .int .i64 0] 60)) from hm)
  have HOT := Lib.hid ht
  have HPB := Lib.hid hpb
  have HCK := Lib.hid hck
  have HCP := Lib.hid hcp
  clear hct hck hm ht hpb
  go_enter Try.func34, Try.ntmps34
  go_upto_region 1 with fail
  generalize (w.alloc (.cells ct 58)).alloc (.cells #[.int .u8 0, .int .u8 0, .int .u8 0, .int .u8 0, .int .u8 0, .int .u8 0, .int .u8 0, .int .u8 0, .int .u8 0, .int .u8 0, .int .u8 0, .int .u8 0, .int .u8 0, .int .u8 0, .int .u8 0, .int .u8 0, .int .u8 0, .int .u8 0, .int .u8 0, .int .u8 0, .int .u8 0, .int .u8 0, .int .u8 0, .int .u8 0, .int .u8 0, .int .u8 0, .int .u8 0, .int .u8 0, .int .u8 0, .int .u8 0, .int .u8 0, .int .u8 0, .int .i64 0] 60) = w1 at HM ⊢
  have fk := kind_at (HM.out.blk 1 rfl).all HOT.out
  have HKL := Lib.hid (key_cellsOf t.peer HOT.out.2.1)
  obtain ⟨kd, hkd⟩ : ∃ z, t.kind = z := ⟨_, rfl⟩
  rw [hkd] at fk HPB hcp
  have HKD := Lib.hid hkd
  clear hkd hcp
  go_wp2_with (first | (refine wpList_load_obj rfl 25 (.tmp 4) rfl w.heap.size 1 rfl (t.peer.map u8v) (peer_at (HM.out.blk 1 rfl).all) _ Try.underlying25 rfl HKL.out ?_; rw [HCK.out]) | (refine wpList_build_as rfl 60 [(0, .tmp 5), (1, .tmp 8)] rfl cp ?_ ?_; exact HPB.out) | (refine wpList_store_obj rfl 60 (.tmp 2) (.tmp 9) rfl (w.heap.size + 1) 0 (purC t.peer t.kind) rfl (by show Value.agg cp = _; rw [HCP.out]) 60 purZ (HM.out.blk 0 rfl) (pur_cellsOf HOT.out.2.1 _) (by rw [purC_length HOT.out.2.1]; decide) (pur_one _ _) ?_; intro w9 hb9 hg9))
  rw [setL_all _ _ (by rw [purC_length HOT.out.2.1]; rfl)] at hb9
  exact bodyPost_ret (results_obj rfl _ _ (w.heap.size + 1) 60 (purC t.peer t.kind) _ rfl hb9 Try.underlying60 rfl (pur_cellsOf HOT.out.2.1 _)) rfl ⟨rfl, HM.out.bel.grown hg9 HM.out.bel.size (fun k hk => by injection hk with hk; omega)⟩
set_option maxRecDepth 100000 in
set_option maxHeartbeats 8000000 in
theorem whPermitted_any (t : TimerM) (ht : t.ok) (w : World) : Calls Try.prog 33 #[.agg t.cells.toArray] w fun e w' => e = .returned (.bool (permT t)) ∧ Below w.heap.size w w' := by
  obtain ⟨ct, hct⟩ : ∃ z, t.cells.toArray = z := ⟨_, rfl⟩
  rw [hct]
  have HM := Lib.hid (show Mem w [blkE w.heap.size 58 t.cells] (w.alloc (.cells ct 58)) from (Mem.nil w).alloc rfl 58 ct t.cells hct.symm)
  have HOT := Lib.hid ht
  clear hct ht
  go_enter Try.func33, Try.ntmps33
  go_upto_region 1 with fail
  generalize w.alloc (.cells ct 58) = w1 at HM ⊢
  have fk := kind_at (HM.out.blk 0 rfl).all HOT.out
  have ft := tm_at (HM.out.blk 0 rfl).all
  obtain ⟨kd, hkd⟩ : ∃ z, t.kind = z := ⟨_, rfl⟩
  obtain ⟨tq, htq⟩ : ∃ z, t.tm = z := ⟨_, rfl⟩
  have HR := Lib.hid (show permT t = (decide (1 ≤ kd) && decide (kd ≤ 5) && decide (0 ≤ tq) && decide (tq ≤ 4398046511104)) from by rw [permT, hkd, htq])
  rw [hkd] at fk
  rw [htq] at ft
  clear hkd htq
  obtain ⟨y1, hy1⟩ : ∃ y, decide (1 ≤ kd) = y := ⟨_, rfl⟩
  obtain ⟨y2, hy2⟩ : ∃ y, decide (kd ≤ 5) = y := ⟨_, rfl⟩
  obtain ⟨y3, hy3⟩ : ∃ y, decide (0 ≤ tq) = y := ⟨_, rfl⟩
  obtain ⟨y4, hy4⟩ : ∃ y, decide (tq ≤ 4398046511104) = y := ⟨_, rfl⟩
  rw [hy1, hy2, hy3, hy4] at HR
  cases y1 with
  | false =>
    go_wp2
    go_ret
    exact ⟨by rw [HR.out]; rfl, HM.out.bel⟩
  | true =>
    cases y2 with
    | false =>
      go_wp2
      go_ret
      exact ⟨by rw [HR.out]; rfl, HM.out.bel⟩
    | true =>
      cases y3 with
      | false =>
        go_wp2
        go_ret
        exact ⟨by rw [HR.out]; rfl, HM.out.bel⟩
      | true =>
        go_wp2
        go_ret
        exact ⟨by rw [HR.out]; first | rfl | (rw [← hy4]; rfl) | simp [hy4], HM.out.bel⟩
end Go.Proofs.Ytffeecaidkeepaa
namespace Go.Proofs.Ytffeecaidkeepaa
open Go.RowKit

set_option maxRecDepth 100000 in
set_option maxHeartbeats 16000000 in
theorem tmIdx_any (A : Option Addr) (n c : Nat) (os : List (List Value)) (hn : n ≤ 1000000) (F : Nat) (lb : Array Value) (hE : ∀ (args : Array Value) (W : World), (callFunc F args).run Try.prog W = .ok (.enter F args) W) (p : List Value → Bool) (B : Nat) (w : World) (hB : B ≤ w.heap.size) (hr : RdRow w w.heap.size A 34 n os) (hf : PredB Try.prog F lb p B w os) :
    Calls Try.prog 39 #[.slice A n c, .func (.func F) #[] lb] w fun e w' => e = .returned (.int .i64 (idxM p os)) ∧ Below w.heap.size w w' := by
  have HR := Lib.hid hr
  have HF := Lib.hid hf
  have HB := Lib.hid hB
  clear hr hf hB
  go_enter Try.func39, Try.ntmps39
  go_wp2_with fail
  go_loopw [8] (fun i wr => ∃ j : Nat, j ≤ n ∧ i = .int .i64 (j : Int) ∧ Below w.heap.size w wr ∧ ∀ (q : Nat) x, q < j → os[q]? = some x → p x = false) (fun i _ => n - (intOf i).toNat)
  case atStart => exact ⟨0, Nat.zero_le _, rfl, Below.refl _ _, fun q _ h => absurd h (Nat.not_lt_zero _)⟩
  case round =>
    obtain ⟨j, hj, rfl, hW, hno⟩ := hrel
    have HW := Lib.hid hW
    have HNO := Lib.hid hno
    clear hW hno
    by_cases hjn : j < n
    · have d1 : decide ((j : Int) < (n : Int)) = true := by simp; omega
      obtain ⟨b, off, rfl⟩ := HR.out.addr (by omega)
      obtain ⟨o, ho⟩ : ∃ o, os[j]? = some o := ⟨os[j]'(by rw [HR.out.1]; exact hjn), List.getElem?_eq_getElem _⟩
      have hat := HR.out.at j o ho
      have HLA := Lib.hid (show At wr b (off + j * 34) o from fun q v hv => (World.cell?_of_block (HW.out.block b hat.1)).trans (hat.2 q v hv))
      have HU := Lib.hid (tm_size o (HR.out.2.1 o (List.mem_of_getElem? ho)))
      have hcall := HF.out o (List.mem_of_getElem? ho) wr (HW.out.mono HB.out)
      obtain ⟨oc, hoc⟩ : ∃ z, o.toArray = z := ⟨_, rfl⟩
      rw [hoc] at hcall
      obtain ⟨y, hy⟩ : ∃ y, p o = y := ⟨_, rfl⟩
      rw [hy] at hcall
      have HOC := Lib.hid hoc
      have HC := Lib.hid hcall
      have HJO := Lib.hid (And.intro ho hy)
      clear hat ho hcall hoc hy
      go_wp2_with (first | (refine wpList_load_obj rfl 27 (.tmp 14) rfl b _ rfl o HLA.out _ Try.underlying27 rfl HU.out ?_; rw [HOC.out]))
      refine HC.out.mono ?_
      rintro e w2 ⟨rfl, hb⟩
      have HW2 := Lib.hid (HW.out.trans (hb.mono HW.out.size))
      clear hb HW HC HLA
      cases y with
      | true =>
        go_wp2
        go_ret
        exact ⟨by rw [idxM_some HJO.out.1 HJO.out.2 HNO.out]; rfl, HW2.out⟩
      | false =>
        go_wp2_with fail
        go_roundw
        case rel => exact ⟨j + 1, by omega, by go_num, HW2.out, fun q x hq hx => by
          rcases Nat.lt_or_ge q j with h | h
          · exact HNO.out q x h hx
          · obtain rfl : q = j := by omega
            have e := HJO.out.1.symm.trans hx
            injection e with e
            rw [← e]
            exact HJO.out.2⟩
        case measure => simp [intOf]; omega
    · obtain rfl : j = n := by omega
      have d1 : decide ((j : Int) < (j : Int)) = false := by simp
      have HF2 := Lib.hid HW.out
      have HX := Lib.hid (idxM_none (all_false HR.out.1 HNO.out))
      clear HW HNO
      go_wp2
      go_ret
      exact ⟨by rw [HX.out]; rfl, HF2.out⟩
end Go.Proofs.Ytffeecaidkeepaa
namespace Go.Proofs.Ytffeecaidkeepaa
open Go.RowKit

set_option maxRecDepth 100000 in
set_option maxHeartbeats 8000000 in
theorem serves_any (k : List UInt8) (d : Int) (w : World) :
    Calls Try.prog 30 #[.agg (k.map u8v).toArray, .int .i64 d] w fun e w' => e = .returned (.func (.func 40) #[] #[.pointer (some ⟨w.heap.size, 0, none⟩), .pointer (some ⟨w.heap.size + 1, 0, none⟩)]) ∧ Blk w' w.heap.size 25 (k.map u8v) ∧ Blk w' (w.heap.size + 1) 3 [.int .i64 d] ∧ Below w.heap.size w w' := by
  obtain ⟨kk, hkk⟩ : ∃ z, (k.map u8v).toArray = z := ⟨_, rfl⟩
  rw [hkk]
  have hm := ((Lows.nil w).alloc 25 kk (k.map u8v) hkk.symm).alloc 3 #[.int .i64 d] [.int .i64 d] rfl
  have HM := Lib.hid (show Lows w [blkL (w.heap.size + 1) 3 [.int .i64 d], blkL w.heap.size 25 (k.map u8v)] ((w.alloc (.cells kk 25)).alloc (.cells #[.int .i64 d] 3)) from by simpa using hm)
  clear hm hkk
  go_enter Try.func30, Try.ntmps30
  go_upto_region 1 with fail
  generalize (w.alloc (.cells kk 25)).alloc (.cells #[.int .i64 d] 3) = w1 at HM ⊢
  go_wp2
  go_ret
  exact ⟨rfl, HM.out.blk 1 rfl, HM.out.blk 0 rfl, HM.out.bel⟩
set_option maxRecDepth 100000 in
set_option maxHeartbeats 8000000 in
theorem servesPred_any (k : List UInt8) (d : Int) (hk : k.length = 32) (hd : inI64 d) (s : TimerM) (hs : s.ok) (G G2 : Nat) (w : World) (hb : Blk w G 25 (k.map u8v)) (hb2 : Blk w G2 3 [.int .i64 d]) :
    Calls Try.prog 40 #[.agg s.cells.toArray, .pointer (some ⟨G, 0, none⟩), .pointer (some ⟨G2, 0, none⟩)] w fun e w' => e = .returned (.bool (forT k d s)) ∧ Below w.heap.size w w' := by
  have hbt := timer_built s hs
  have hpu := whPurpose_any s hs
  have heq := pur_eqd s.peer k s.kind d hs.2.1 hk hs.2.2 hd
  have hpk := pur_built hk d
  obtain ⟨sc, hsc⟩ : ∃ z, s.cells.toArray = z := ⟨_, rfl⟩
  obtain ⟨kk, hkk⟩ : ∃ z, (k.map u8v).toArray = z := ⟨_, rfl⟩
  obtain ⟨ps, hps⟩ : ∃ z, (purC s.peer s.kind).toArray = z := ⟨_, rfl⟩
  obtain ⟨pk, hpk2⟩ : ∃ z, (purC k d).toArray = z := ⟨_, rfl⟩
  obtain ⟨y, hy⟩ : ∃ y, forT k d s = y := ⟨_, rfl⟩
  rw [show (decide (s.peer = k) && decide (s.kind = d)) = y from hy] at heq
  rw [hsc] at hbt hpu
  rw [hps] at hpu heq
  rw [hpk2] at heq hpk
  rw [hkk] at hpk
  rw [hsc, hy]
  have hm := ((((Lows.nil w).cons (blkL G 25 (k.map u8v)) hb).cons (blkL G2 3 [.int .i64 d]) hb2).alloc 27 sc s.cells hsc.symm)
  have HM := Lib.hid hm
  have HBT := Lib.hid hbt
  have HPU := Lib.hid hpu
  have HEQ := Lib.hid heq
  have HPK := Lib.hid hpk
  have HSC := Lib.hid hsc
  have HKK := Lib.hid hkk
  have HOK := Lib.hid hs
  have HK := Lib.hid hk
  clear hm hbt hpu heq hpk hsc hkk hps hpk2 hy hs hb hb2 hk
  go_enter Try.func40, Try.ntmps40
  go_upto_region 1 with fail
  generalize w.alloc (.cells sc 27) = w1 at HM ⊢
  obtain ⟨GT, hGT⟩ : ∃ z, w.heap.size = z := ⟨_, rfl⟩
  rw [hGT] at HM ⊢
  clear hGT
  refine wp_region_held_drew (S := fun W' => Lows w [blkL GT 27 s.cells, blkL G2 3 [.int .i64 d], blkL G 25 (k.map u8v)] W') (by kernel_rfl) (HM.out.drew) (fun hHeld => ?_)
  replace HM := Lib.hid HM.out.drew
  generalize w1.drew = wd1 at HM hHeld ⊢
  refine take_first (v := .agg sc) 0 rfl (by kernel_rfl) (by kernel_rfl) (by kernel_rfl) (fun _ _ _ h => h) (by rw [← HSC.out]; exact yields_load_obj (by rfl) 27 (.tmp 3) rfl GT 0 rfl s.cells (fun w' hb => (Lows.blk hb 0 rfl).all) _ Try.underlying27 rfl (timer_cellsOf s HOK.out)) (by assumption) ?_
  (try simp only [Act.put, List.setIfInBounds_toArray, List.set_cons_zero, List.set_cons_succ])
  refine take_first (v := .agg sc) 1 rfl (by kernel_rfl) (by kernel_rfl) (by kernel_rfl) (fun _ _ _ h => h) (yields_build_obj (by rfl) 58 [(0, .tmp 5)] rfl sc HBT.out) (by assumption) ?_
  (try simp only [Act.put, List.setIfInBounds_toArray, List.set_cons_zero, List.set_cons_succ])
  refine take_first (v := .agg kk) 3 rfl (by kernel_rfl) (by kernel_rfl) (by kernel_rfl) (fun _ _ _ h => h) (by rw [← HKK.out]; exact yields_load_obj (by rfl) 25 (.tmp 1) rfl G 0 rfl (k.map u8v) (fun w' hb => (Lows.blk hb 2 rfl).all) _ Try.underlying25 rfl (key_cellsOf k HK.out)) (by assumption) ?_
  (try simp only [Act.put, List.setIfInBounds_toArray, List.set_cons_zero, List.set_cons_succ])
  refine take_first (v := ?_) 4 rfl (by kernel_rfl) (by kernel_rfl) (by kernel_rfl) (fun _ _ _ h => h) (Or.inl ⟨by rfl, ?_⟩) (by assumption) ?_
  rotate_left
  · (intro w hSw; (try dsimp only at hSw); have fb := (Lows.blk hSw 1 rfl).all 0 _ rfl; go_simp; try with_reducible rfl)
  (try simp only [Act.put, List.setIfInBounds_toArray, List.set_cons_zero, List.set_cons_succ])
  refine take_first (v := .agg pk) 5 rfl (by kernel_rfl) (by kernel_rfl) (by kernel_rfl) (fun _ _ _ h => h) (yields_build_obj (by rfl) 60 [(0, .tmp 8), (1, .tmp 9)] rfl pk HPK.out) (by assumption) ?_
  (try simp only [Act.put, List.setIfInBounds_toArray, List.set_cons_zero, List.set_cons_succ])
  refine step_one 2 rfl (by kernel_rfl) (fun K hK => ?_)
  clear hHeld
  go_simp
  refine (HPU.out _).mono ?_
  rintro e wy2 ⟨rfl, hb⟩
  replace HM := Lib.hid (show Lows w [blkL GT 27 s.cells, blkL G2 3 [.int .i64 d], blkL G 25 (k.map u8v)] wy2 from HM.out.below hb)
  clear hb
  go_wp2_with fail
  refine hK.out _ _ (HM.out) (fun hHeld => ?_)
  clear hK K
  (try simp only [Act.put, List.setIfInBounds_toArray, List.set_cons_zero, List.set_cons_succ])
  refine take_first (v := .bool y) 6 rfl (by kernel_rfl) (by kernel_rfl) (by kernel_rfl) (fun _ _ _ h => h) (yields_cmp_agg false (by rfl) 60 60 7 10 rfl ps pk y rfl rfl pur_noguard (fun w' => HEQ.out w')) (by assumption) ?_
  (try simp only [Act.put, List.setIfInBounds_toArray, List.set_cons_zero, List.set_cons_succ])
  refine take_first (v := ?_) 7 rfl (by kernel_rfl) (by kernel_rfl) (by kernel_rfl) (fun _ _ _ h => h) (Or.inl ⟨by rfl, ?_⟩) (by assumption) ?_
  rotate_left
  · (intro w hSw; (try dsimp only at hSw); go_simp; try with_reducible rfl)
  (try simp only [Act.put, List.setIfInBounds_toArray, List.set_cons_zero, List.set_cons_succ])
  refine wpAnyH_done (by kernel_rfl) ?_ _
  clear hHeld
  have HF := Lib.hid HM.out.bel
  clear HM
  go_wp2
  go_ret
  exact ⟨rfl, HF.out⟩
set_option maxRecDepth 100000 in
set_option maxHeartbeats 8000000 in
theorem peerPred_any (k : List UInt8) (hk : k.length = 32) (s : TimerM) (hs : s.ok) (G : Nat) (w : World) (hb : Blk w G 25 (k.map u8v)) :
    Calls Try.prog 31 #[.agg s.cells.toArray, .pointer (some ⟨G, 0, none⟩)] w fun e w' => e = .returned (.bool (decide (s.peer = k))) ∧ Below w.heap.size w w' := by
  have heq := key_eq s.peer k hs.2.1 hk
  obtain ⟨sc, hsc⟩ : ∃ z, s.cells.toArray = z := ⟨_, rfl⟩
  obtain ⟨kk, hkk⟩ : ∃ z, (k.map u8v).toArray = z := ⟨_, rfl⟩
  obtain ⟨sk, hsk⟩ : ∃ z, (s.peer.map u8v).toArray = z := ⟨_, rfl⟩
  obtain ⟨y, hy⟩ : ∃ y, decide (s.peer = k) = y := ⟨_, rfl⟩
  rw [hsk, hkk, hy] at heq
  rw [hsc, hy]
  have hm := (((Lows.nil w).cons (blkL G 25 (k.map u8v)) hb).alloc 27 sc s.cells hsc.symm)
  have HM := Lib.hid hm
  have HEQ := Lib.hid heq
  have HSK := Lib.hid hsk
  have HKK := Lib.hid hkk
  have HOK := Lib.hid hs
  have HK := Lib.hid hk
  clear hm heq hsc hkk hsk hy hs hb hk
  go_enter Try.func31, Try.ntmps31
  go_upto_region 1 with fail
  generalize w.alloc (.cells sc 27) = w1 at HM ⊢
  go_wp2_with (first | (refine wpList_load_obj rfl 25 (.tmp 4) rfl w.heap.size 1 rfl (s.peer.map u8v) (peer_at (HM.out.blk 0 rfl).all) _ Try.underlying25 rfl (key_cellsOf _ HOK.out.2.1) ?_; rw [HSK.out]) | (refine wpList_load_obj rfl 25 (.tmp 1) rfl G 0 rfl (k.map u8v) ((HM.out.blk 1 rfl).all) _ Try.underlying25 rfl (key_cellsOf _ HK.out) ?_; rw [HKK.out]) | (refine wpList_eql_agg (by rfl) 25 25 5 6 rfl sk kk y rfl rfl key_noguard (HEQ.out _) ?_))
  go_ret
  exact ⟨rfl, HM.out.bel⟩
/-- the predicates on cells -/
noncomputable def cellsP (q : TimerM → Bool) (o : List Value) : Bool := @decide (∃ t : TimerM, t.ok ∧ t.cells = o ∧ q t = true) (Classical.propDecidable _)
theorem cellsP_is (q : TimerM → Bool) {t : TimerM} (h : t.ok) : cellsP q t.cells = q t := by
  unfold cellsP
  rw [Bool.eq_iff_iff, @decide_eq_true_iff _ (Classical.propDecidable _)]
  constructor
  · rintro ⟨s, hs, he, hq⟩
    rw [← (timer_inj hs h).1 he]
    exact hq
  · intro hq; exact ⟨t, h, rfl, hq⟩
theorem tms_filter (q : TimerM → Bool) {l : List TimerM} (h : ∀ s ∈ l, s.ok) : (tmsV l).filter (fun o => !cellsP q o) = tmsV (l.filter fun t => !q t) := by
  rw [tmsV, tmsV, List.filter_map]
  congr 1
  exact List.filter_congr fun s hs => by rw [Function.comp_apply, cellsP_is q (h s hs)]
theorem tms_idx (q : TimerM → Bool) {l : List TimerM} (h : ∀ s ∈ l, s.ok) : decide (idxM (cellsP q) (tmsV l) ≥ 0) = l.any q := by
  rcases idxM_cases (cellsP q) (tmsV l) with hn | ⟨j, o, ho, hp, hno⟩
  · rw [idxM_none hn]
    have : l.any q = false := by
      rw [List.any_eq_false]
      intro s hs
      have := hn s.cells (List.mem_map_of_mem hs)
      rw [cellsP_is q (h s hs)] at this
      rw [this]; decide
    rw [this]
    rfl
  · rw [idxM_some ho hp hno]
    obtain ⟨s, hs, hm, rfl⟩ := tms_mem h (List.mem_of_getElem? ho)
    rw [cellsP_is q hs] at hp
    rw [List.any_eq_true.2 ⟨s, hm, hp⟩]
    simp
end Go.Proofs.Ytffeecaidkeepaa
namespace Go.Proofs.Ytffeecaidkeepaa
open Go.RowKit

theorem tm_eql_nil (A : Option Addr) (n c : Nat) (w : World) : (binOp .eql 23 (.slice A n c) (.slice none 0 0)).run Try.prog w = .ok (.bool A.isNone) w := by
  have h := run_equal_slice_nil (P := Try.prog) w 23 27 A n c Try.underlying23
  simp [binOp, h, Result.andThen]
set_option maxRecDepth 100000 in
set_option maxHeartbeats 16000000 in
theorem tmClone_any (A : Option Addr) (n c : Nat) (os : List (List Value)) (hn : n ≤ 1000) (h1 : ∀ o ∈ os, ∀ v ∈ o, v.oneCell' = true) (w : World) (hr : RdRow w w.heap.size A 34 n os) :
    Calls Try.prog 29 #[.slice A n c] w fun e w' => ∃ A' c', e = .returned (.slice A' n c') ∧ w'.ownsRow w.heap.size 27 34 (.slice A' n c') n os.flatten ∧ Below w.heap.size w w' := by
  have HR := Lib.hid hr
  have H1 := Lib.hid (one_flat h1)
  obtain ⟨ik, hik, hiz, his, hib⟩ := timerInfo
  have HKI := Lib.hid (And.intro hik (And.intro hiz (And.intro his hib)))
  clear hik hiz his hib
  clear h1
  cases A with
  | none =>
    have hn0 : n = 0 := by
      rcases Nat.eq_zero_or_pos n with h | h
      · exact h
      · obtain ⟨b, off, e⟩ := hr.addr h
        cases e
    subst hn0
    clear hr
    have hen := tm_eql_nil none 0 c
    simp only [Option.isNone_none] at hen
    go_enter Try.func29, Try.ntmps29
    go_wp2
    go_ret
    have hl0 : os = [] := List.eq_nil_of_length_eq_zero HR.out.1
    subst hl0
    exact ⟨none, 0, rfl, World.ownsRow_nil _ _ _ _, Below.refl _ _⟩
  | some ad =>
    have HB := Lib.hid (show Mem w [blkE w.heap.size 27 []] (w.alloc (.cells #[] 27)) from (Mem.nil w).alloc rfl 27 #[] [] rfl)
    have hown0 := World.ownsRow_lit (base := w.heap.size) (e := 27) (size := 34) w #[] 0 (Nat.le_refl _) (by simp) rfl
    have HO := Lib.hid hown0
    clear hr hown0
    have hen := tm_eql_nil (some ad) n c
    simp only [Option.isNone_some] at hen
    go_enter Try.func29, Try.ntmps29
    go_wp2_with (refine wpList_append_rows _ rfl (.tmp 5) (.tmp 6) 23 rfl w.heap.size 27 ik _ 34 48 Try.underlying23 HKI.out.1 HKI.out.2.1 HKI.out.2.2.1 HKI.out.2.2.2 (by rfl) (by omega) (.slice (some ⟨w.heap.size, 0, none⟩) 0 0) 0 [] rfl HO.out _ (some ad) n c os rfl ((HR.out.below HB.out.bel).mono HB.out.size) H1.out (by unfold maxLen; omega) (by omega) HB.out.size ?_; intro v1 w3 hown1 hg1 _)
    rw [Nat.zero_add, List.nil_append] at hown1
    obtain ⟨A5, c5, rfl, _⟩ := own_sliceK hown1
    have HF := Lib.hid (HB.out.bel.grown hg1 HB.out.bel.size (fun k hk => own_from HO.out k hk))
    go_ret
    exact ⟨A5, c5, rfl, hown1, HF.out⟩
end Go.Proofs.Ytffeecaidkeepaa
namespace Go.Proofs.Ytffeecaidkeepaa
open Go.RowKit

theorem tm_kept_snoc (p : List Value → Bool) (l : List (List Value)) (o : List Value) : (l ++ [o]).filter (fun x => !p x) = l.filter (fun x => !p x) ++ (if p o = true then [] else [o]) := by
  rw [List.filter_append]
  cases h : p o <;> simp [h]
theorem tm_kept_all {p : List Value → Bool} {l : List (List Value)} (h : ∀ o ∈ l, p o = false) : l.filter (fun x => !p x) = l := by
  rw [List.filter_eq_self]
  intro o ho
  rw [h o ho]
  rfl
end Go.Proofs.Ytffeecaidkeepaa
namespace Go.Proofs.Ytffeecaidkeepaa
open Go.RowKit

/-- what is asked of a predicate that is handed on, in every world for which R holds -/
def PredR (P : Program) (F : Nat) (lb : Array Value) (p : List Value → Bool) (R : World → Prop) (os : List (List Value)) : Prop :=
  ∀ o ∈ os, ∀ W, R W → Calls P F (#[.agg o.toArray] ++ lb) W fun e W' => e = .returned (.bool (p o)) ∧ Below W.heap.size W W'
end Go.Proofs.Ytffeecaidkeepaa
namespace Go.Proofs.Ytffeecaidkeepaa
open Go.RowKit

theorem run_copy_objs {P : Program} (w : World) (dT sT ty elem : TypeId) (k g off dLen dCap : Nat) (a : Addr) (sLen sCap : Nat) (cur : List Value) (t : TypeId) (cs : List Value)
    (hu : P.underlying dT = some (.slice elem)) (hs : (P.info? elem).map (·.size) = some k) (hg : Blk w g t cur) (hn : cs.length = Nat.min sLen dLen * k)
    (hsrc : ∀ j v, cs[j]? = some v → w.cell? (a.add j) = some v) (hfit : off + cs.length ≤ cur.length) (h1 : ∀ v ∈ cs, v.oneCell' = true) :
    ∃ w', (Builtin.copy_ #[dT, sT] ty #[.slice (some ⟨g, off, none⟩) dLen dCap, .slice (some a) sLen sCap]).run P w = .ok (goInt (Nat.min sLen dLen)) w' ∧ Blk w' g t (setL cur off cs) ∧ w.grownBy w' (some g) := by
  have hl := run_loadCells_list (P := P) w a cs hsrc
  have hst := run_storeCells_at P g off t cs 0 cur.toArray w hg (by simpa using hfit) h1
  rw [Nat.add_zero] at hst
  refine ⟨w.setRow g (cur.toArray.toList.take off ++ cs ++ cur.toArray.toList.drop (off + cs.length)).toArray, ?_, ?_, ⟨rfl, rfl, rfl, by simp, fun q _ hq => setRow_other w g q _ (fun e => hq (by simp [e]))⟩⟩
  · cases hq : P.info? elem with
    | none => simp [hq] at hs
    | some i =>
      have hi : i.size = k := by simpa [hq] using hs
      simp [Builtin.copy_, run_underlying hu, Builtin.lenOf, Builtin.firstCells, sizeOf, typeInfo, hq, hi, ← hn, hl, hst]
  · exact setRow_heap w g cur.toArray _ t _ hg
theorem wpList_copy_objs {P : Program} (w : World) {ops : Array Oper} {rest : List Oper} {o : Oper} {a : Act} {Q : Exit → Act → World → Prop} (hgd : o.guard = none) (d s : Operand) (dT sT : TypeId)
    (ho : o.op = .call { callee := .builtin .copy, args := #[d, s], argTypes := #[dT, sT] }) (elem : TypeId) (hu : P.underlying dT = some (.slice elem)) (k : Nat) (hsz : (P.info? elem).map (·.size) = some k)
    (g off dLen dCap : Nat) (ad : Addr) (sLen sCap : Nat) (hd : a.eval d = .slice (some ⟨g, off, none⟩) dLen dCap) (hs : a.eval s = .slice (some ad) sLen sCap)
    (cur : List Value) (t : TypeId) (hg : Blk w g t cur) (cs : List Value) (hn : cs.length = Nat.min sLen dLen * k)
    (hsrc : ∀ j v, cs[j]? = some v → w.cell? (ad.add j) = some v) (hfit : off + cs.length ≤ cur.length) (h1 : ∀ v ∈ cs, v.oneCell' = true)
    (h : ∀ w', Blk w' g t (setL cur off cs) → w.grownBy w' (some g) → wpList P ops Q rest (a.put o.dst (goInt (Nat.min sLen dLen))) w') : wpList P ops Q (o :: rest) a w := by
  refine wpList_plain hgd fun K hK => ?_
  obtain ⟨w', hrun, h2, h3⟩ := run_copy_objs (P := P) w dT sT o.type elem k g off dLen dCap ad sLen sCap cur t cs hu hsz hg hn hsrc hfit h1
  unfold Oper.wp execOp
  simp only [ho, resolve, invoke, builtin, Sem.run_bind, Sem.run_pure, Result.andThen_ok, List.map_toArray, List.map_cons, List.map_nil, hs, hd, hrun]
  exact hK _ _ (h w' h2 h3)
theorem step_copy_objs {P : Program} (w : World) {ops : Array Oper} {o : Oper} {a : Act} {K : Act → World → Prop} {Q : Exit → Act → World → Prop} {E : Prop} (hgd : o.guard = none) (d s : Operand) (dT sT : TypeId)
    (ho : o.op = .call { callee := .builtin .copy, args := #[d, s], argTypes := #[dT, sT] }) (elem : TypeId) (hu : P.underlying dT = some (.slice elem)) (k : Nat) (hsz : (P.info? elem).map (·.size) = some k)
    (g off dLen dCap : Nat) (ad : Addr) (sLen sCap : Nat) (hd : a.eval d = .slice (some ⟨g, off, none⟩) dLen dCap) (hs : a.eval s = .slice (some ad) sLen sCap)
    (cur : List Value) (t : TypeId) (hg : Blk w g t cur) (cs : List Value) (hn : cs.length = Nat.min sLen dLen * k)
    (hsrc : ∀ j v, cs[j]? = some v → w.cell? (ad.add j) = some v) (hfit : off + cs.length ≤ cur.length) (h1 : ∀ v ∈ cs, v.oneCell' = true)
    (h : ∀ w', Blk w' g t (setL cur off cs) → w.grownBy w' (some g) → K (a.put o.dst (goInt (Nat.min sLen dLen))) w') :
    if Region.wanted o (yielded ops a.tmps) = true then Oper.wp P o a w K Q else E := by
  have hw : Region.wanted o (yielded ops a.tmps) = true := by simp [Region.wanted, hgd]
  rw [if_pos hw]
  obtain ⟨w', hrun, h2, h3⟩ := run_copy_objs (P := P) w dT sT o.type elem k g off dLen dCap ad sLen sCap cur t cs hu hsz hg hn hsrc hfit h1
  unfold Oper.wp execOp
  simp only [ho, resolve, invoke, builtin, Sem.run_bind, Sem.run_pure, Result.andThen_ok, List.map_toArray, List.map_cons, List.map_nil, hs, hd, hrun]
  exact h w' h2 h3
/-- the beginning of a row of objects and made ones behind it, where there is no room: a new row -/
theorem run_append_made {P : Program} (w : World) (t tn ty e : TypeId) (i : TypeInfo) (z : Value) (kq kn : IntKind) (size bytes : Nat) (ht : P.underlying t = some (.slice e)) (htn : P.underlying tn = some (.int kn)) (hi : P.info? e = some i) (hz : i.zero = some z) (hsize : i.size = size) (hby : i.bytes = bytes) (hzs : z.cells.size = size) (hsz : 0 < size)
    (B : Nat) (ad : Addr) (n c : Nat) (os : List (List Value)) (hr : RdRow w B (some ad) size n os) (k : Nat) (h0 : 0 < k) (hg : c < n + k) (h63 : n + k ≤ maxLen) (hbytes : (n + k) * bytes ≤ 140737488355328) :
    ∃ w' cap cur, (Builtin.append_ #[t, tn] ty #[.slice (some ad) n c, .int kq (k : Int)]).run P w = .ok (.slice (some ⟨w.heap.size, 0, none⟩) (n + k) cap) w' ∧ Blk w' w.heap.size e cur ∧ cur.length = cap * size ∧ cur.take (n * size) = os.flatten ∧ n + k ≤ cap ∧ cap ≤ maxLen ∧ Below w.heap.size w w' := by
  have holds : ∀ j u, os.flatten[j]? = some u → w.drew.cell? (ad.add j) = some u := hr.src
  have hold := run_firstCells_some (P := P) w.drew i.size n ad n c os.flatten (by rw [hsize]; exact hr.len) holds
  have h1 : k * bytes ≤ (n + k) * bytes := Nat.mul_le_mul_right bytes (by omega)
  have hr2 := Lib.run_append_grow_zeros (P := P) w t tn ty e i z kq kn ht htn hi hz (some ad) n c os.flatten hold k h0 (by omega) hg (by unfold maxLen at h63; omega) (by rw [hby]; omega) (growslice_fits (by omega) (by rw [hby]; exact hbytes))
  have hge := grownCap_ge w (n + k) c e
  have hcm := grownCap_le_maxLen w (n + k) c e h63
  obtain ⟨cap, hcap⟩ : ∃ z, grownCap w (n + k) c e = z := ⟨_, rfl⟩
  rw [hcap] at hr2 hge hcm
  refine ⟨_, cap, (os.flatten.toArray ++ Builtin.zeroCells z.cells k ++ Builtin.zeroCells z.cells (cap - (n + k))).toList, hr2, ?_, ?_, ?_, hge, hcm, (Below.refl _ _).drew.alloc (Nat.le_refl _) _⟩
  · unfold Blk
    rw [Array.toArray_toList]
    exact heap_alloc_new w.drew _
  · rw [Array.length_toList, Array.size_append, Array.size_append, List.size_toArray, size_zeroCells, size_zeroCells, hzs, hr.len, ← Nat.add_mul, ← Nat.add_mul]
    congr 1
    omega
  · rw [Array.toList_append, Array.toList_append, List.append_assoc, List.take_left' (by rw [hr.len])]
theorem Blk.shape {w : World} {g : Nat} {t : TypeId} {cs : List Value} (h : Blk w g t cs) : w.shape? g = some (t, cs.length) := by
  unfold Blk at h
  simp [World.shape?, h]
theorem run_overlaps_blks {P : Program} {w : World} {g h : Nat} {t u : TypeId} {cs ds : List Value} (hg : Blk w g t cs) (hh : Blk w h u ds) (hne : g ≠ h) (hd : ds.length ≠ 0) (tS tR e : TypeId) (ht : P.underlying tS = some (.slice e)) (size : Nat) (hz : ∀ w, (Go.sizeOf e).run P w = .ok size w) (o p la ca lb cb : Nat) :
    (Extern.SlicesOverlaps.overlaps #[tS, tS] #[tR] #[.slice (some ⟨g, o, none⟩) la ca, .slice (some ⟨h, p, none⟩) lb cb]).run P w = .ok (.bool false) w :=
  Lib.run_overlaps_apart w tS tR e ht size hz ⟨g, o, none⟩ ⟨h, p, none⟩ la ca lb cb hne t u cs.length ds.length hg.shape hh.shape hd (hg.frozen o) (hg.frozen cs.length)
/-- what an insertion leaves: first the later ones are moved, then the new one is written -/
theorem ins_shift {cur T D o : List Value} {i k : Nat} (hT : T.length = i * k) (hc : cur.take (i * k) = T) (ho : o.length = k) (hl : i * k + k + D.length ≤ cur.length) : (setL (setL cur ((i + 1) * k) D) (i * k) o).take (i * k + k + D.length) = T ++ o ++ D ∧ (setL (setL cur ((i + 1) * k) D) (i * k) o).length = cur.length := by
  have h1 : (i + 1) * k = i * k + k := Nat.succ_mul i k
  have h2 : (setL cur ((i + 1) * k) D).take (i * k) = T := by
    rw [setL, List.append_assoc, List.take_append_of_le_length (by rw [List.length_take]; omega), List.take_take, Nat.min_eq_left (by omega), hc]
  have h3 : (setL cur ((i + 1) * k) D).drop (i * k + k) = D ++ cur.drop ((i + 1) * k + D.length) := by
    rw [setL, List.append_assoc, List.drop_left' (by rw [List.length_take]; omega)]
  constructor
  · rw [setL, ho, h2, h3, List.append_assoc, ← List.append_assoc o, ← List.append_assoc T, ← List.append_assoc T, List.take_left' (by simp [hT, ho]; omega)]
  · rw [setL, ho, h2, h3]
    simp only [List.length_append, List.length_drop, hT, ho]
    omega
/-- the same in a new row: first the new one is written, then the later ones behind it -/
theorem ins_new {cur T D o : List Value} {i k : Nat} (hT : T.length = i * k) (hc : cur.take (i * k) = T) (ho : o.length = k) (hl : i * k + k + D.length ≤ cur.length) : (setL (setL cur (i * k) o) ((i + 1) * k) D).take (i * k + k + D.length) = T ++ o ++ D ∧ (setL (setL cur (i * k) o) ((i + 1) * k) D).length = cur.length := by
  have h1 : (i + 1) * k = i * k + k := Nat.succ_mul i k
  have h2 : (setL cur (i * k) o).take ((i + 1) * k) = T ++ o := by
    rw [setL, hc, List.take_left' (by simp [hT, ho, h1])]
  have h3 : (setL cur (i * k) o).length = cur.length := by
    simp only [setL, hc, List.length_append, List.length_drop, hT, ho]
    omega
  constructor
  · rw [setL, h2, List.take_left' (by simp [hT, ho]; omega)]
  · rw [setL, h2]
    simp only [List.length_append, List.length_drop, h3, hT, ho]
    omega
theorem own_of_blk {w : World} {base k m c g : Nat} {e : TypeId} {cs xs : List Value} (hb : Blk w g e cs) (hbase : base ≤ g) (hm : m ≤ c) (hc : c ≤ maxLen) (hl : cs.length = c * k) (ht : cs.take (m * k) = xs) : w.ownsRow base e k (.slice (some ⟨g, 0, none⟩) m c) m xs := by
  have h1 := Nat.mul_le_mul_right k hm
  refine ⟨by rw [← ht, List.length_take]; omega, .inr ⟨g, c, cs.toArray, rfl, hbase, hb, hm, hc, by simpa using hl, by simpa using ht⟩⟩
end Go.Proofs.Ytffeecaidkeepaa
namespace Go.Proofs.Ytffeecaidkeepaa
open Go.RowKit

set_option maxRecDepth 100000 in
set_option maxHeartbeats 16000000 in
theorem tmDelO_any (A : Option Addr) (n c : Nat) (os : List (List Value)) (hn : n ≤ 1000) (hl : os.length = n) (hk : ∀ o ∈ os, o.length = 34) (h1 : ∀ o ∈ os, ∀ v ∈ o, v.oneCell' = true) (F : Nat) (lb : Array Value) (hE : ∀ (args : Array Value) (W : World), (callFunc F args).run Try.prog W = .ok (.enter F args) W) (p : List Value → Bool) (R : World → Prop) (base : Nat) (w : World) (hw : R w) (hkp : ∀ W W', R W → Below W.heap.size W W' → R W') (hrw : ∀ (g : Nat) (W W' : World), A = some ⟨g, 0, none⟩ → R W → g < W.heap.size → W.grownBy W' (some g) → R W') (hbs : base ≤ w.heap.size) (hown : w.ownsRow base 27 34 (.slice A n c) n os.flatten) (hf : PredR Try.prog F lb p R os) :
    Calls Try.prog 28 #[.slice A n c, .func (.func F) #[] lb] w fun e w' => ∃ A' c' m, m = (os.filter fun o => !p o).length ∧ e = .returned (.slice A' m c') ∧ w'.ownsRow base 27 34 (.slice A' m c') m (os.filter fun o => !p o).flatten ∧ Below base w w' := by
  have hr := RdRow.of_own hl hk hown
  have hidx := tmIdx_any A n c os (by omega) F lb hE p w.heap.size w (Nat.le_refl _) hr (fun o ho W hW => hf o ho W (hkp _ _ hw hW))
  obtain ⟨A5, c5, hv5, hc1, hc2, hlo⟩ := own_sliceK hown
  injection hv5 with hA5 _ hc5
  subst hA5 hc5
  rcases idxM_cases p os with hno | ⟨i0, o0, ho0, hp0, hn0⟩
  · rw [idxM_none hno] at hidx
    have HI := Lib.hid hidx
    have HF := Lib.hid (And.intro hr (And.intro (And.intro hc1 hc2) hlo))
    have HX := Lib.hid (tm_kept_all hno)
    have HOWN := Lib.hid hown
    have HL := Lib.hid hl
    have HBS := Lib.hid hbs
    clear hidx hr hc1 hc2 hlo hown hf hno hbs hw hkp hrw
    go_enter Try.func28, Try.ntmps28
    go_wp2_with fail
    refine HI.out.mono ?_
    rintro e w2 ⟨rfl, hb⟩
    have HW := Lib.hid hb
    clear hb
    go_wp2
    go_ret
    exact ⟨A, c, n, by rw [HX.out]; exact HL.out.symm, rfl, by rw [HX.out]; exact own_below HOWN.out HW.out, HW.out.mono HBS.out⟩
  · rw [idxM_some ho0 hp0 hn0] at hidx
    have hi0 : i0 < n := by rw [← hl]; exact (List.getElem?_eq_some_iff.1 ho0).1
    rcases hown.2 with ⟨_, h0⟩ | ⟨g, cap, cur, hv, hbg, hg, hnc, hcm, hs, hcr⟩
    · omega
    injection hv with hA _ hcc
    subst hA hcc
    have hblk : Blk w g 27 (os.flatten ++ cur.toList.drop (n * 34)) := by
      unfold Blk
      rw [← hcr, List.take_append_drop, Array.toArray_toList]
      exact hg
    obtain ⟨rest, hrest⟩ : ∃ z, cur.toList.drop (n * 34) = z := ⟨_, rfl⟩
    have HREST := Lib.hid (show n * 34 + rest.length = c * 34 from by rw [← hrest, List.length_drop, Array.length_toList, hs]; have := Nat.mul_le_mul_right 34 hnc; omega)
    rw [hrest] at hblk
    have hkeep : (os.take (i0 + 1)).filter (fun x => !p x) = os.take i0 := by
      rw [List.take_add_one, ho0, Option.toList_some, tm_kept_snoc, if_pos hp0, List.append_nil]
      exact tm_kept_all (fun o ho => by
        obtain ⟨q, hq, rfl⟩ := List.getElem_of_mem ho
        rw [List.length_take] at hq
        exact hn0 q _ (by omega) (by rw [List.getElem_take]; exact List.getElem?_eq_getElem (by omega)))
    have HI := Lib.hid hidx
    have HKEEP := Lib.hid hkeep
    have HBLK := Lib.hid hblk
    have HBG := Lib.hid (show base ≤ g from hbg)
    have HC := Lib.hid (And.intro hnc hcm)
    have HK := Lib.hid hk
    have H1 := Lib.hid h1
    have HL := Lib.hid hl
    have HF := Lib.hid hf
    have HKP := Lib.hid hkp
    have HRW := Lib.hid (fun W W' => hrw g W W' rfl)
    have HR0 := Lib.hid hw
    have d0 : ((i0 : Int) == -1) = false := by rw [beq_eq_false_iff_ne]; omega
    clear hidx hr hc1 hc2 hlo hown hf hkeep hblk hbg hg hs hcr hrest hk h1 hl hnc hcm hn0 hp0 ho0 hbs hw hkp hrw
    go_enter Try.func28, Try.ntmps28
    go_wp2_with fail
    refine HI.out.mono ?_
    rintro e w2 ⟨rfl, hb⟩
    have HW := Lib.hid (And.intro (hb.mono (Nat.le_of_lt HBLK.out.lt)) (show Blk w2 g 27 (os.flatten ++ rest) from HBLK.out.below hb HBLK.out.lt))
    have HR2 := Lib.hid (HKP.out _ _ HR0.out hb)
    clear hb HI HR0
    go_wp2_with fail
    go_loopw [6, 5] (fun vj vi wr => ∃ (j m : Nat) (cs : List (List Value)), i0 < j ∧ j ≤ n ∧ vj = .int .i64 (j : Int) ∧ vi = .int .i64 (m : Int) ∧ m < j ∧ cs.length = n ∧ (∀ o ∈ cs, o.length = 34) ∧ cs.take m = (os.take j).filter (fun x => !p x) ∧ cs.drop j = os.drop j ∧ Blk wr g 27 (cs.flatten ++ rest) ∧ Below g w wr ∧ R wr) (fun vj _ _ => n - (intOf vj).toNat)
    case atStart => exact ⟨i0 + 1, i0, os, by omega, by omega, by go_num, rfl, by omega, HL.out, HK.out, HKEEP.out.symm, rfl, HW.out.2, HW.out.1, HR2.out⟩
    case round =>
      clear HW d0 HBLK HR2
      obtain ⟨j, m, cs, hij, hj, rfl, rfl, hmj, hcl, hck, htk, hdr, hbk, hbl, hRr⟩ := hrel
      have HRR := Lib.hid hRr
      have HO := Lib.hid (And.intro hcl (And.intro hck (And.intro htk (And.intro hdr (And.intro hbk hbl)))))
      clear hcl hck htk hdr hbk hbl hRr
      by_cases hjn : j < n
      · have d1 : decide ((j : Int) < (n : Int)) = true := by simp; omega
        obtain ⟨o, ho⟩ : ∃ o, os[j]? = some o := ⟨os[j]'(by rw [HL.out]; exact hjn), List.getElem?_eq_getElem _⟩
        have hoc : cs[j]? = some o := by
          have h := congrArg (fun l => l[0]?) HO.out.2.2.2.1
          simp only [List.getElem?_drop, Nat.add_zero] at h
          rw [h]
          exact ho
        have HKO := Lib.hid (HK.out o (List.mem_of_getElem? ho))
        have H1O := Lib.hid (H1.out o (List.mem_of_getElem? ho))
        have HLA := Lib.hid (blk_at HO.out.2.2.2.2.1 HO.out.2.1 hoc)
        have HU := Lib.hid (tm_size o HKO.out)
        have HSN := Lib.hid (show (os.take (j + 1)).filter (fun x => !p x) = (os.take j).filter (fun x => !p x) ++ (if p o = true then [] else [o]) from by rw [List.take_add_one, ho, Option.toList_some, tm_kept_snoc])
        have HML := Lib.hid (show m ≤ cs.length from by rw [HO.out.1]; omega)
        have hcall := HF.out o (List.mem_of_getElem? ho)
        obtain ⟨oc, hocc⟩ : ∃ z, o.toArray = z := ⟨_, rfl⟩
        rw [hocc] at hcall
        obtain ⟨y, hy⟩ : ∃ y, p o = y := ⟨_, rfl⟩
        rw [hy] at hcall HSN
        have HOC := Lib.hid hocc
        have HCL := Lib.hid hcall
        clear hocc hcall hy ho hoc
        have HZ := Lib.hid (Blk.new wr 27 timerZ)
        go_upto_region 8 with (first | (refine wpList_load_obj rfl 27 (.tmp 24) rfl g _ rfl o HLA.out _ Try.underlying27 rfl HU.out ?_; rw [HOC.out]) | (refine wpList_store_obj rfl 27 (.tmp 7) (.tmp 25) rfl wr.heap.size 0 o rfl (by show Value.agg oc = _; rw [HOC.out]) 27 timerZ HZ.out HU.out (by rw [HKO.out]; decide) H1O.out ?_; intro w4 hb4 hg4))
        rw [setL_all _ o (by rw [HKO.out]; decide)] at hb4
        have HBF := Lib.hid (below_fresh hg4)
        have HP := Lib.hid hb4
        have HR4 := Lib.hid (HKP.out _ _ HRR.out HBF.out)
        have HO4 := Lib.hid (show Blk w4 g 27 (cs.flatten ++ rest) ∧ Below g w w4 from ⟨HO.out.2.2.2.2.1.below HBF.out HO.out.2.2.2.2.1.lt, HO.out.2.2.2.2.2.trans (HBF.out.mono (Nat.le_of_lt HO.out.2.2.2.2.1.lt))⟩)
        have HCC := Lib.hid (And.intro HO.out.1 (And.intro HO.out.2.1 (And.intro HO.out.2.2.1 HO.out.2.2.2.1)))
        clear hb4 hg4 HO HBF HZ d1 HLA HRR
        generalize wr.heap.size = P1 at HP ⊢
        go_wp2_with (refine wpList_load_obj rfl 27 (.tmp 7) rfl P1 0 rfl o HP.out.all _ Try.underlying27 rfl HU.out ?_; rw [HOC.out])
        refine (HCL.out _ HR4.out).mono ?_
        rintro e w5 ⟨rfl, hb⟩
        have HR5 := Lib.hid (HKP.out _ _ HR4.out hb)
        have HP5 := Lib.hid (show Blk w5 P1 27 o from HP.out.below hb HP.out.lt)
        have HO5 := Lib.hid (show Blk w5 g 27 (cs.flatten ++ rest) ∧ Below g w w5 from ⟨HO4.out.1.below hb HO4.out.1.lt, HO4.out.2.trans (hb.mono (Nat.le_of_lt HO4.out.1.lt))⟩)
        clear hb HP HO4 HR4
        cases y with
        | true =>
          go_wp2_with fail
          go_roundw
          case rel => exact ⟨j + 1, m, cs, by omega, by omega, by go_num, rfl, by omega, HCC.out.1, HCC.out.2.1, by rw [HSN.out]; simpa using HCC.out.2.2.1, by rw [← List.drop_drop, HCC.out.2.2.2, List.drop_drop], HO5.out.1, HO5.out.2, HR5.out⟩
          case measure => simp [intOf]; omega
        | false =>
          have hmn : m < n := by omega
          have e1 : decide ((m : Int) < (n : Int)) = true := by simp; omega
          go_wp2_with (first | (refine wpList_load_obj rfl 27 (.tmp 7) rfl P1 0 rfl o HP5.out.all _ Try.underlying27 rfl HU.out ?_; rw [HOC.out]) | (refine wpList_store_obj rfl 27 (.tmp 33) (.tmp 32) rfl g (m * 34) o rfl (by show Value.agg oc = _; rw [HOC.out]) 27 (cs.flatten ++ rest) HO5.out.1 HU.out (by rw [HKO.out, List.length_append, flat_length HCC.out.2.1, HCC.out.1]; have := Nat.mul_le_mul_right 34 (show m + 1 ≤ n from hmn); rw [Nat.succ_mul] at this; omega) H1O.out ?_; intro w6 hb6 hg6))
          rw [flat_set HCC.out.2.1 HKO.out (by rw [HCC.out.1]; exact hmn)] at hb6
          go_roundw
          case rel => exact ⟨j + 1, m + 1, cs.set m o, by omega, by omega, by go_num, by go_num, by omega, by rw [List.length_set]; exact HCC.out.1, set_mem HCC.out.2.1 HKO.out, by rw [HSN.out, ← HCC.out.2.2.1, List.take_add_one, List.take_set_of_le (Nat.le_refl _), List.getElem?_set_self (by rw [HCC.out.1]; exact hmn)]; rfl, by rw [List.drop_set_of_lt (by omega), ← List.drop_drop, HCC.out.2.2.2, List.drop_drop], hb6, HO5.out.2.grown hg6 (Nat.le_of_lt HO5.out.1.lt) (fun k hk => by injection hk with hk; omega), HRW.out _ _ HR5.out HO5.out.1.lt hg6⟩
          case measure => simp [intOf]; omega
      · obtain rfl : n = j := by omega
        have d1 : decide ((n : Int) < (n : Int)) = false := by simp
        have htk : cs.take m = os.filter (fun x => !p x) := by rw [HO.out.2.2.1, List.take_of_length_le (by rw [HL.out]; exact Nat.le_refl _)]
        have hml : (os.filter fun x => !p x).length = m := by rw [← htk, List.length_take, HO.out.1]; omega
        have hmk := Nat.mul_le_mul_right 34 (Nat.le_of_lt hmj)
        have hlen : (cs.flatten ++ rest).length = n * 34 + rest.length := by rw [List.length_append, flat_length HO.out.2.1, HO.out.1]
        have hzl : (Value.agg timerZ.toArray).cells.size = 34 := rfl
        obtain ⟨z, hz⟩ : ∃ z, n - m = z := ⟨_, rfl⟩
        have hzk : z * 34 = n * 34 - m * 34 := by rw [← hz, Nat.sub_mul]
        have HFIT := Lib.hid (show m * 34 + z * (Value.agg timerZ.toArray).cells.size ≤ (cs.flatten ++ rest).length from by rw [hzl, hlen, hzk]; omega)
        have HZP := Lib.hid (show 0 < z from by omega)
        have HTK := Lib.hid (And.intro htk hml)
        have HSL := Lib.hid (show ∀ Z, setL (cs.flatten ++ rest) (m * 34) Z = (cs.take m).flatten ++ (Z ++ (cs.flatten ++ rest).drop (m * 34 + Z.length)) from fun Z => by
          rw [setL, List.take_append_of_le_length (by rw [flat_length HO.out.2.1, HO.out.1]; omega), ← flat_take m HO.out.2.1, List.append_assoc])
        have hsl := tm_l (some ⟨g, 0, none⟩) n c m (by omega)
        rw [addrK_some (show m < c by have := HC.out; omega), Nat.zero_add, hz] at hsl
        have hsh := tm_h (some ⟨g, 0, none⟩) (n := n) c m (by omega) HC.out.1
        rw [addrK_zero_some] at hsh
        have HGB := Lib.hid HO.out.2.2.2.2
        have HCK := Lib.hid (fun o (h : o ∈ cs.take m) => HO.out.2.1 o (List.mem_of_mem_take h))
        obtain ⟨blkc, hbc⟩ : ∃ z, cs.flatten ++ rest = z := ⟨_, rfl⟩
        have HTL := Lib.hid (show (cs.take m).flatten.length = m * 34 from by rw [flat_length (fun o ho => HO.out.2.1 o (List.mem_of_mem_take ho)), List.length_take, HO.out.1, Nat.min_eq_left (by omega)])
        have HBL := Lib.hid (show blkc.length = c * 34 from by rw [← hbc, hlen]; exact HREST.out)
        rw [hbc] at HGB HFIT HSL
        have hmc := HC.out
        clear HO htk hml hmk hlen hzk hzl hbc hz
        obtain ⟨cm, hcm⟩ : ∃ x, c - m = x := ⟨_, rfl⟩
        rw [hcm] at hsl
        clear hcm
        go_wp2_with (refine wpList_clear_objs _ rfl (.tmp 38) 23 27 rfl Try.underlying23 (.agg timerZ.toArray) tm_zero (by decide) g (m * 34) z cm rfl 27 blkc HGB.out.1 HFIT.out HZP.out ?_; intro w7 hb7 hg7)
        go_ret
        rw [HSL.out] at hb7
        refine ⟨some ⟨g, 0, none⟩, c, m, HTK.out.2.symm, rfl, ?_, (HGB.out.2.grown hg7 (Nat.le_of_lt HGB.out.1.lt) (fun k hk => by injection hk with hk; omega)).mono HBG.out⟩
        rw [← HTK.out.1]
        refine own_of_blk hb7 HBG.out (by omega) hmc.2 ?_ (List.take_left' (HTL.out))
        have h1 := HBL.out
        have h2 := HFIT.out
        have h3 := HTL.out
        rw [show (Builtin.zeroCells (Value.agg timerZ.toArray).cells z).toList.length = z * (Value.agg timerZ.toArray).cells.size by simp [Builtin.zeroCells]]
        simp only [List.length_append, List.length_drop]
        rw [show (Builtin.zeroCells (Value.agg timerZ.toArray).cells z).toList.length = z * (Value.agg timerZ.toArray).cells.size by simp [Builtin.zeroCells]]
        omega
end Go.Proofs.Ytffeecaidkeepaa
namespace Go.Proofs.Ytffeecaidkeepaa
open Go.RowKit

theorem own_weaken {w : World} {base base' k n : Nat} {e : TypeId} {v : Value} {xs : List Value} (h : w.ownsRow base' e k v n xs) (hb : base ≤ base') : w.ownsRow base e k v n xs :=
  ⟨h.1, by
    rcases h.2 with h1 | ⟨g, cap, cur, hv, hbg, hr⟩
    · exact .inl h1
    · exact .inr ⟨g, cap, cur, hv, Nat.le_trans hb hbg, hr⟩⟩
theorem whOut_own {w w' : World} {base m : Nat} {v : Value} {l : List TimerM} (hbs : w.heap.size ≤ base) (hm : m = l.length) (hok : ∀ s ∈ l, s.ok) (h : w'.ownsRow base 27 34 v m (tmsV l).flatten) (hb : Below w.heap.size w w') : WhOut w w' v l := by
  subst hm
  obtain ⟨A, c, rfl, h1, h2, h3⟩ := own_sliceK h
  exact ⟨A, c, rfl, h1, h2, TmRd.of_own rfl hok h, fun ad ha => Nat.le_trans hbs (h3 ad ha), hb⟩
theorem lows_below {w W W' : World} {g0 : Nat} {k : List Value} (h : Lows w [blkL w.heap.size 25 k] W) (hb : Below g0 W W') (hg : w.heap.size < g0) : Lows w [blkL w.heap.size 25 k] W' :=
  ⟨fun f hf => by
    cases List.mem_singleton.1 hf
    have h1 : Blk W w.heap.size 25 k := h.blk 0 rfl
    exact (hb.block _ hg).trans h1, h.bel.trans (hb.mono (Nat.le_of_lt hg))⟩
theorem tmAt {w W : World} {A : Option Addr} {n : Nat} {l : List TimerM} (h : TmRd w w.heap.size A n l) (hb : Below w.heap.size w W) : TmRd W W.heap.size A n l := (h.below hb).mono hb.size
set_option maxRecDepth 100000 in
set_option maxHeartbeats 8000000 in
theorem whCancelO (A : Option Addr) (n c : Nat) (l : List TimerM) (k : List UInt8) (d : Int) (w : World) (hk : k.length = 32) (hd : inI64 d) (harg : WhArg w A n c l) :
    Calls Try.prog 11 #[.slice A n c, .agg (k.map u8v).toArray, .int .i64 d] w fun e w' => ∃ v, e = .returned v ∧ w'.ownsRow w.heap.size 27 34 v (cancelT l k d).length (tmsV (cancelT l k d)).flatten ∧ Below w.heap.size w w' := by
  have hn := harg.1
  have HOK := Lib.hid harg.2.2.2.2
  have HLN := Lib.hid harg.2.2.2.len
  have HK := Lib.hid hk
  have HD := Lib.hid hd
  have hsv := fun W => serves_any k d W
  obtain ⟨kk, hkk⟩ : ∃ z, (k.map u8v).toArray = z := ⟨_, rfl⟩
  rw [hkk]
  simp only [hkk] at hsv
  have HSV := Lib.hid hsv
  have HKK := Lib.hid hkk
  have hm := (Lows.nil w).alloc 25 kk (k.map u8v) hkk.symm
  have HM := Lib.hid (show Lows w [blkL w.heap.size 25 (k.map u8v)] (w.alloc (.cells kk 25)) from hm)
  have HA0 := Lib.hid harg.2.2.2
  clear harg hk hd hkk hsv hm
  go_enter Try.func11, Try.ntmps11
  go_upto_region 1 with fail
  generalize w.alloc (.cells kk 25) = w1 at HM ⊢
  refine wp_region_held_drew (S := fun W' => Lows w [blkL w.heap.size 25 (k.map u8v)] W') (by kernel_rfl) (HM.out.drew) (fun hHeld => ?_)
  replace HM := Lib.hid HM.out.drew
  generalize w1.drew = wd at HM hHeld ⊢
  refine take_first (v := ?_) 0 rfl (by kernel_rfl) (by kernel_rfl) (by kernel_rfl) (fun _ _ _ h => h) (Or.inl ⟨by rfl, ?_⟩) (by assumption) ?_
  rotate_left
  · (intro w hSw; (try dsimp only at hSw); go_simp; try with_reducible rfl)
  (try simp only [Act.put, List.setIfInBounds_toArray, List.set_cons_zero, List.set_cons_succ])
  refine take_first (v := ?_) 3 rfl (by kernel_rfl) (by kernel_rfl) (by kernel_rfl) (fun _ _ _ h => h) (Or.inl ⟨by rfl, ?_⟩) (by assumption) ?_
  rotate_left
  · (intro w hSw; (try dsimp only at hSw); go_simp; try with_reducible rfl)
  (try simp only [Act.put, List.setIfInBounds_toArray, List.set_cons_zero, List.set_cons_succ])
  refine take_first (v := .agg kk) 2 rfl (by kernel_rfl) (by kernel_rfl) (by kernel_rfl) (fun _ _ _ h => h) (by rw [← HKK.out]; exact yields_load_obj (by rfl) 25 (.tmp 4) rfl w.heap.size 0 rfl (k.map u8v) (fun w' hb => (Lows.blk hb 0 rfl).all) _ Try.underlying25 rfl (key_cellsOf k HK.out)) (by assumption) ?_
  (try simp only [Act.put, List.setIfInBounds_toArray, List.set_cons_zero, List.set_cons_succ])
  refine step_one 1 rfl (by kernel_rfl) (fun K hK => ?_)
  clear hHeld
  go_simp
  refine (tmClone_any A n c (tmsV l) (by omega) (tms_one l) wd (tmAt HA0.out HM.out.bel).1).mono ?_
  rintro e w2 ⟨A2, c2, rfl, hown, hb⟩
  have HO := Lib.hid hown
  have HG := Lib.hid (show w.heap.size < wd.heap.size from (HM.out.blk 0 rfl).lt)
  replace HM := Lib.hid (HM.out.below hb)
  have HG2 := Lib.hid (fun (g : Nat) (hA : A2 = some ⟨g, 0, none⟩) => (hown.lt g (by rw [hA]; rfl)).2)
  have HG0 := Lib.hid hb.size
  generalize wd.heap.size = g0 at HO HG HG0
  clear hb hown
  go_wp2_with fail
  refine hK.out _ _ (HM.out) (fun hHeld => ?_)
  clear hK K
  (try simp only [Act.put, List.setIfInBounds_toArray, List.set_cons_zero, List.set_cons_succ])
  refine step_one 4 rfl (by kernel_rfl) (fun K hK => ?_)
  clear hHeld
  go_simp
  refine (HSV.out w2).mono ?_
  rintro e w3 ⟨rfl, hb1, hb2, hb⟩
  have HO3 := Lib.hid (own_below HO.out hb)
  have HB1 := Lib.hid (And.intro hb1 hb2)
  have HG3 := Lib.hid (Nat.le_trans HG0.out hb.size)
  replace HM := Lib.hid (HM.out.below hb)
  generalize w2.heap.size = gs at HB1 HG2 HG0 ⊢
  clear hb hb1 hb2 HO
  go_wp2_with fail
  refine hK.out _ _ (HM.out) (fun hHeld => ?_)
  clear hK K
  (try simp only [Act.put, List.setIfInBounds_toArray, List.set_cons_zero, List.set_cons_succ])
  refine step_one 5 rfl (by kernel_rfl) (fun K hK => ?_)
  clear hHeld
  go_simp
  refine (tmDelO_any A2 n c2 (tmsV l) (by omega) (by rw [tmsV_len, HLN.out]) (tms_34 HOK.out) (tms_one l) 40 #[.pointer (some ⟨gs, 0, none⟩), .pointer (some ⟨gs + 1, 0, none⟩)] (enters_of Try.func40 (by kernel_rfl) rfl) (cellsP (forT k d)) (fun W => Blk W gs 25 (k.map u8v) ∧ Blk W (gs + 1) 3 [.int .i64 d]) g0 w3 HB1.out (fun W W' h hW => ⟨h.1.below hW h.1.lt, h.2.below hW h.2.lt⟩) (fun g W W' hA h hg hgr => ⟨(hgr.block _ h.1.lt (fun e => by injection e with e; have := HG2.out g hA; omega)).trans h.1, (hgr.block _ h.2.lt (fun e => by injection e with e; have := HG2.out g hA; omega)).trans h.2⟩) HG3.out HO3.out (by
    intro o ho W hW
    obtain ⟨s, hs, _, rfl⟩ := tms_mem HOK.out ho
    rw [cellsP_is _ hs]
    exact servesPred_any k d HK.out HD.out s hs _ _ W hW.1 hW.2)).mono ?_
  rintro e w4 ⟨A3, c3, m, hm, rfl, hown, hb⟩
  rw [tms_filter _ HOK.out] at hm hown
  have HF := Lib.hid (And.intro hm (And.intro hown (HM.out.bel.trans (hb.mono (Nat.le_of_lt HG.out)))))
  have hx := lows_below HM.out hb HG.out
  clear hm hown hb HM
  go_wp2_with fail
  refine hK.out _ _ (hx) (fun hHeld => ?_)
  clear hK K
  (try simp only [Act.put, List.setIfInBounds_toArray, List.set_cons_zero, List.set_cons_succ])
  refine take_first (v := ?_) 6 rfl (by kernel_rfl) (by kernel_rfl) (by kernel_rfl) (fun _ _ _ h => h) (Or.inl ⟨by rfl, ?_⟩) (by assumption) ?_
  rotate_left
  · (intro w hSw; (try dsimp only at hSw); go_simp; try with_reducible rfl)
  (try simp only [Act.put, List.setIfInBounds_toArray, List.set_cons_zero, List.set_cons_succ])
  refine wpAnyH_done (by kernel_rfl) ?_ _
  clear hHeld hx
  go_wp2
  go_ret
  have hm : m = (cancelT l k d).length := by rw [HF.out.1, tmsV_len]; rfl
  subst hm
  exact ⟨_, rfl, own_weaken HF.out.2.1 (Nat.le_of_lt HG.out), HF.out.2.2⟩
theorem whCancelC : WhCancelC 11 := fun A n c l k d w hk hd harg => (whCancelO A n c l k d w hk hd harg).mono fun _ _ ⟨v, he, ho, hb⟩ => ⟨v, he, whOut_own (Nat.le_refl _) rfl (cancelT_ok harg.2.2.2.2 k d) ho hb⟩
set_option maxRecDepth 100000 in
set_option maxHeartbeats 8000000 in
theorem whCancelPC : WhCancelPC 13 := by
  intro A n c l k w hk harg
  have hn := harg.1
  have HOK := Lib.hid harg.2.2.2.2
  have HLN := Lib.hid harg.2.2.2.len
  have HK := Lib.hid hk
  obtain ⟨kk, hkk⟩ : ∃ z, (k.map u8v).toArray = z := ⟨_, rfl⟩
  rw [hkk]
  have hm := (Lows.nil w).alloc 25 kk (k.map u8v) hkk.symm
  have HM := Lib.hid (show Lows w [blkL w.heap.size 25 (k.map u8v)] (w.alloc (.cells kk 25)) from hm)
  have HA0 := Lib.hid harg.2.2.2
  clear harg hk hkk hm
  go_enter Try.func13, Try.ntmps13
  go_upto_region 1 with fail
  generalize w.alloc (.cells kk 25) = w1 at HM ⊢
  go_wp2_with fail
  refine (tmClone_any A n c (tmsV l) (by omega) (tms_one l) w1 (tmAt HA0.out HM.out.bel).1).mono ?_
  rintro e w2 ⟨A2, c2, rfl, hown, hb⟩
  have HG := Lib.hid (show w.heap.size < w1.heap.size from (HM.out.blk 0 rfl).lt)
  have HD := Lib.hid (tmDelO_any A2 n c2 (tmsV l) (by omega) (by rw [tmsV_len, HLN.out]) (tms_34 HOK.out) (tms_one l) 31 #[.pointer (some ⟨w.heap.size, 0, none⟩)] (enters_of Try.func31 (by kernel_rfl) rfl) (cellsP fun t => decide (t.peer = k)) (fun W => Blk W w.heap.size 25 (k.map u8v)) w1.heap.size w2 ((HM.out.below hb).blk 0 rfl) (fun W W' h hW => h.below hW h.lt) (fun g W W' hA h hg hgr => (hgr.block _ h.lt (fun e => by injection e with e; have h1 := (hown.lt g (by rw [hA]; rfl)).1; have h2 := HG.out; omega)).trans h) hb.size hown (by
    intro o ho W hW
    obtain ⟨s, hs, _, rfl⟩ := tms_mem HOK.out ho
    rw [cellsP_is _ hs]
    exact peerPred_any k HK.out s hs _ W hW))
  replace HM := Lib.hid (HM.out.below hb)
  generalize w1.heap.size = g0 at HD HG
  clear hown hb
  go_wp2_with fail
  refine HD.out.mono ?_
  rintro e w4 ⟨A3, c3, m, hm, rfl, hown, hb⟩
  rw [tms_filter _ HOK.out] at hm hown
  have HF := Lib.hid (And.intro hm (And.intro hown (HM.out.bel.trans (hb.mono (Nat.le_of_lt HG.out)))))
  clear hm hown hb HM HD
  go_wp2
  go_ret
  have hf := HF.out
  exact ⟨_, rfl, whOut_own (Nat.le_of_lt HG.out) (by rw [hf.1, tmsV_len]; rfl) (cancelP_ok HOK.out k) hf.2.1 hf.2.2⟩
set_option maxRecDepth 100000 in
set_option maxHeartbeats 8000000 in
theorem tmHas_any (A : Option Addr) (n c : Nat) (os : List (List Value)) (hn : n ≤ 1000000) (F : Nat) (lb : Array Value) (hE : ∀ (args : Array Value) (W : World), (callFunc F args).run Try.prog W = .ok (.enter F args) W) (p : List Value → Bool) (B : Nat) (w : World) (hB : B ≤ w.heap.size) (hr : RdRow w w.heap.size A 34 n os) (hf : PredB Try.prog F lb p B w os) :
    Calls Try.prog 32 #[.slice A n c, .func (.func F) #[] lb] w fun e w' => e = .returned (.bool (decide (idxM p os ≥ 0))) ∧ Below w.heap.size w w' := by
  have HI := Lib.hid (tmIdx_any A n c os hn F lb hE p B w hB hr hf)
  obtain ⟨x, hx⟩ : ∃ z, idxM p os = z := ⟨_, rfl⟩
  rw [hx] at HI ⊢
  clear hr hf hE hx
  go_enter Try.func32, Try.ntmps32
  go_wp2_with fail
  refine HI.out.mono ?_
  rintro e w2 ⟨rfl, hb⟩
  have HF := Lib.hid hb
  clear hb HI
  go_wp2
  go_ret
  exact ⟨rfl, HF.out⟩
set_option maxRecDepth 100000 in
set_option maxHeartbeats 8000000 in
theorem whHasC : WhHasC 15 := by
  intro A n c l k d w hk hd harg
  have hn := harg.1
  have HOK := Lib.hid harg.2.2.2.2
  have HK := Lib.hid hk
  have HD := Lib.hid hd
  have hsv := fun W => serves_any k d W
  obtain ⟨kk, hkk⟩ : ∃ z, (k.map u8v).toArray = z := ⟨_, rfl⟩
  rw [hkk]
  simp only [hkk] at hsv
  have HSV := Lib.hid hsv
  have HKK := Lib.hid hkk
  have hm := (Lows.nil w).alloc 25 kk (k.map u8v) hkk.symm
  have HM := Lib.hid (show Lows w [blkL w.heap.size 25 (k.map u8v)] (w.alloc (.cells kk 25)) from hm)
  have HR := Lib.hid (show decide (idxM (cellsP (forT k d)) (tmsV l) ≥ 0) = hasT l k d from tms_idx _ HOK.out)
  have HA0 := Lib.hid harg.2.2.2
  clear harg hk hd hkk hsv hm
  go_enter Try.func15, Try.ntmps15
  go_upto_region 1 with fail
  generalize w.alloc (.cells kk 25) = w1 at HM ⊢
  go_wp2_with (refine wpList_load_obj rfl 25 (.tmp 4) rfl w.heap.size 0 rfl (k.map u8v) ((HM.out.blk 0 rfl).all) _ Try.underlying25 rfl (key_cellsOf _ HK.out) ?_; rw [HKK.out])
  refine (HSV.out w1).mono ?_
  rintro e w2 ⟨rfl, hb1, hb2, hb⟩
  have hh := tmHas_any A n c (tmsV l) (by omega) 40 #[.pointer (some ⟨w1.heap.size, 0, none⟩), .pointer (some ⟨w1.heap.size + 1, 0, none⟩)] (enters_of Try.func40 (by kernel_rfl) rfl) (cellsP (forT k d)) w2.heap.size w2 (Nat.le_refl _) (tmAt HA0.out (HM.out.below hb).bel).1 (by
    intro o ho W hW
    obtain ⟨s, hs, _, rfl⟩ := tms_mem HOK.out ho
    rw [cellsP_is _ hs]
    exact servesPred_any k d HK.out HD.out s hs _ _ W (hb1.below hW hb1.lt) (hb2.below hW hb2.lt))
  rw [HR.out] at hh
  have HH := Lib.hid hh
  replace HM := Lib.hid (HM.out.below hb)
  clear hb1 hb2 hb hh
  go_wp2_with fail
  refine HH.out.mono ?_
  rintro e w3 ⟨rfl, hb⟩
  have HF := Lib.hid (HM.out.below hb).bel
  clear hb HM HH
  go_wp2
  go_ret
  exact ⟨rfl, HF.out⟩
end Go.Proofs.Ytffeecaidkeepaa
