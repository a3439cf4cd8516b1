/-
  The predicates that the program's index hands on. The builtin max of two numbers. What free gives. The contract of slices.Grow of the nil slice of structs. The contract of slices.Concat of slices of structs. A slot between two pieces of a table: what Concat gives. What is asked of Take holds of the landed one. IndexLimits returns true for every input, by what the landed functions give. No statement is proved here.
-/
import Derived.Shelf.Abstract
import Derived.RegionTactic
import Derived.Deep.DeepCutAuto
import Derived.Deep.LoopGhost
import Derived.Test.YtboeeopgghldnaaIndexLimitsB1
namespace Go.Proofs.Ytboeeopgghldnaa
open Go.RowKit

set_option maxRecDepth 100000 in
set_option maxHeartbeats 8000000 in
theorem named_any (i : Nat) (w : World) :
    Calls Try.prog 26 #[.int .u32 (i : Int)] w fun e w' => e = .returned (.func (.func 31) #[] #[.pointer (some ⟨w.heap.size, 0, none⟩)]) ∧ Blk w' w.heap.size 24 [.int .u32 (i : Int)] ∧ Below w.heap.size w w' := by
  have HM := Lib.hid ((Lows.nil w).alloc 24 #[.int .u32 (i : Int)] [.int .u32 (i : Int)] rfl)
  go_enter Try.func26, Try.ntmps26
  go_wp2
  go_ret
  exact ⟨rfl, HM.out.blk 0 rfl, HM.out.bel⟩
set_option maxRecDepth 100000 in
set_option maxHeartbeats 8000000 in
theorem namedPred_any (i : Nat) (s : SlotM) (G : Nat) (W : World) (hb : Blk W G 24 [.int .u32 (i : Int)]) :
    Calls Try.prog 31 #[.agg s.cells.toArray, .pointer (some ⟨G, 0, none⟩)] W fun e W' => e = .returned (.bool (s.idx == i)) ∧ Below W.heap.size W W' := by
  obtain ⟨sc, hsc⟩ : ∃ z, s.cells.toArray = z := ⟨_, rfl⟩
  obtain ⟨y, hy⟩ : ∃ y, (s.idx == i) = y := ⟨_, rfl⟩
  have heq : ((s.idx : Int) == (i : Int)) = y := by rw [← hy, Bool.eq_iff_iff, beq_iff_eq, beq_iff_eq]; omega
  rw [hsc, hy]
  have hm := (((Lows.nil W).cons (blkL G 24 [.int .u32 (i : Int)]) hb).alloc 34 sc s.cells hsc.symm)
  have HM := Lib.hid hm
  clear hm hb hsc hy
  go_enter Try.func31, Try.ntmps31
  go_upto_region 1 with fail
  generalize W.alloc (.cells sc 34) = w1 at HM ⊢
  generalize W.heap.size = P1 at HM ⊢
  have fx := idx_at (HM.out.blk 0 rfl).all
  have fy := (HM.out.blk 1 rfl).all 0 _ rfl
  go_wp2
  go_ret
  exact ⟨rfl, HM.out.bel⟩
set_option maxRecDepth 100000 in
set_option maxHeartbeats 8000000 in
theorem takePred_any (q s : SlotM) (G : Nat) (W : World) (hb : Blk W G 34 q.cells) :
    Calls Try.prog 24 #[.agg s.cells.toArray, .pointer (some ⟨G, 0, none⟩)] W fun e W' => e = .returned (.bool (decide (q.idx < s.idx))) ∧ Below W.heap.size W W' := by
  obtain ⟨sc, hsc⟩ : ∃ z, s.cells.toArray = z := ⟨_, rfl⟩
  obtain ⟨y, hy⟩ : ∃ y, decide (q.idx < s.idx) = y := ⟨_, rfl⟩
  have heq : decide ((s.idx : Int) > (q.idx : Int)) = y := by rw [← hy, Bool.eq_iff_iff, decide_eq_true_iff, decide_eq_true_iff]; omega
  have heq2 : decide ((q.idx : Int) < (s.idx : Int)) = y := heq
  rw [hsc, hy]
  have hm := (((Lows.nil W).cons (blkL G 34 q.cells) hb).alloc 34 sc s.cells hsc.symm)
  have HM := Lib.hid hm
  have HY := Lib.hid hy
  clear hm hb hsc hy
  go_enter Try.func24, Try.ntmps24
  go_upto_region 1 with fail
  generalize W.alloc (.cells sc 34) = w1 at HM ⊢
  generalize W.heap.size = P1 at HM ⊢
  have fx := idx_at (HM.out.blk 0 rfl).all
  have fy := idx_at (HM.out.blk 1 rfl).all
  go_wp2
  go_ret
  exact ⟨by first | rfl | (rw [← HY.out]; rfl) | (simp [HY.out]), HM.out.bel⟩
/-- the predicates on cells -/
noncomputable def idxP (i : Nat) (o : List Value) : Bool := @decide (o[0]? = some (.int .u32 (i : Int))) (Classical.propDecidable _)
noncomputable def gtP (i : Nat) (o : List Value) : Bool := @decide (∃ m : Nat, o[0]? = some (.int .u32 (m : Int)) ∧ i < m) (Classical.propDecidable _)
theorem idxP_is (i : Nat) (s : SlotM) : idxP i s.cells = (s.idx == i) := by
  unfold idxP
  rw [Bool.eq_iff_iff, @decide_eq_true_iff _ (Classical.propDecidable _), beq_iff_eq, slot_idx]
  constructor
  · intro h
    injection h with h
    injection h with _ h
    omega
  · intro h; rw [h]
theorem gtP_is (i : Nat) (s : SlotM) : gtP i s.cells = decide (i < s.idx) := by
  unfold gtP
  rw [Bool.eq_iff_iff, @decide_eq_true_iff _ (Classical.propDecidable _), decide_eq_true_iff, slot_idx]
  constructor
  · rintro ⟨m, h, hm⟩
    injection h with h
    injection h with _ h
    omega
  · intro h; exact ⟨s.idx, rfl, h⟩
theorem sls_mem {l : List SlotM} (h : ∀ s ∈ l, s.ok) {o : List Value} (ho : o ∈ slsV l) : ∃ s : SlotM, s.ok ∧ s.cells = o := by
  obtain ⟨s, hs, rfl⟩ := List.mem_map.1 ho
  exact ⟨s, h s hs, rfl⟩
theorem sls_len (l : List SlotM) : (slsV l).length = l.length := by rw [slsV, List.length_map]
theorem sls_find (l : List SlotM) (p : List Value → Bool) (q : SlotM → Bool) (hpq : ∀ s : SlotM, p s.cells = q s) : (slsV l).findIdx? p = l.findIdx? q := by
  rw [slsV, List.findIdx?_map]
  congr 1
  funext s
  exact hpq s
/-- the place of the first slot with an index -/
def firstI (l : List SlotM) (i : Nat) : Nat := (l.findIdx? fun s => s.idx == i).getD l.length
theorem firstM_idx (l : List SlotM) (i : Nat) : firstM (idxP i) (slsV l) = firstI l i := by
  unfold firstM firstI
  rw [sls_find l _ _ (idxP_is i), sls_len]
theorem firstI_le (l : List SlotM) (i : Nat) : firstI l i ≤ l.length := by
  unfold firstI
  cases h : l.findIdx? fun s => s.idx == i with
  | none => exact Nat.le_refl _
  | some j => exact Nat.le_of_lt (List.findIdx?_eq_some_iff_getElem.1 h).1
theorem firstI_cases (l : List SlotM) (i : Nat) : (firstI l i = l.length ∧ findS l i = (slot0, false)) ∨ ∃ s, firstI l i < l.length ∧ l[firstI l i]? = some s ∧ findS l i = (s, true) := by
  unfold firstI
  cases h : l.findIdx? fun s => s.idx == i with
  | none =>
    refine .inl ⟨rfl, findS_none fun q s hs => ?_⟩
    have := List.findIdx?_eq_none_iff.1 h s (List.mem_of_getElem? hs)
    simpa using this
  | some j =>
    obtain ⟨hi, hp, hn⟩ := List.findIdx?_eq_some_iff_getElem.1 h
    exact .inr ⟨l[j], hi, List.getElem?_eq_getElem hi, findS_some (List.getElem?_eq_getElem hi) hp fun q s hq hs => by
      obtain ⟨hqi, rfl⟩ := List.getElem?_eq_some_iff.1 hs
      simpa using hn q hq⟩
theorem firstI_taken (l : List SlotM) (i : Nat) : decide (firstI l i < l.length) = takenM l i := by
  rw [← findS_taken]
  rcases firstI_cases l i with ⟨h, hf⟩ | ⟨s, h, _, hf⟩
  · rw [h, hf]; simp
  · rw [hf]; simpa using h
theorem above_findIdx {n : Nat} : ∀ {l : List SlotM}, takenM l n = false → (l.findIdx? fun s => decide (n < s.idx)).getD l.length = aboveM n l
  | [], _ => rfl
  | a :: l, h => by
    rw [takenM, List.any_cons, Bool.or_eq_false_iff] at h
    have hne : a.idx ≠ n := by simpa using h.1
    have ih := above_findIdx (l := l) h.2
    unfold aboveM
    rw [List.takeWhile_cons, List.findIdx?_cons]
    by_cases hlt : a.idx < n
    · have hd : decide (n < a.idx) = false := by simp; omega
      have hd2 : decide (a.idx < n) = true := by simpa using hlt
      simp only [hd, hd2, if_true, Bool.false_eq_true, if_false, List.length_cons]
      rw [show (l.takeWhile fun s => decide (s.idx < n)).length = aboveM n l from rfl, ← ih]
      cases l.findIdx? fun s => decide (n < s.idx) <;> rfl
    · have hd : decide (n < a.idx) = true := by simp; omega
      have hd2 : decide (a.idx < n) = false := by simpa using hlt
      simp only [hd, hd2, if_true, Bool.false_eq_true, if_false]
      rfl
theorem firstM_gt {l : List SlotM} {n : Nat} (h : takenM l n = false) : firstM (gtP n) (slsV l) = aboveM n l := by
  unfold firstM
  rw [sls_find l _ _ (gtP_is n), sls_len, above_findIdx h]
/-- the predicates are as they are asked for -/
theorem named_pred (i : Nat) {l : List SlotM} (hok : ∀ s ∈ l, s.ok) (G B : Nat) (w : World) (hG : G < B) (hb : Blk w G 24 [.int .u32 (i : Int)]) :
    PredB Try.prog 31 #[.pointer (some ⟨G, 0, none⟩)] (idxP i) B w (slsV l) := by
  intro o ho W hW
  obtain ⟨s, _, rfl⟩ := sls_mem hok ho
  rw [idxP_is]
  exact namedPred_any i s G W (hb.below hW hG)
theorem take_pred (q : SlotM) {l : List SlotM} (hok : ∀ s ∈ l, s.ok) (G B : Nat) (w : World) (hG : G < B) (hb : Blk w G 34 q.cells) :
    PredB Try.prog 24 #[.pointer (some ⟨G, 0, none⟩)] (gtP q.idx) B w (slsV l) := by
  intro o ho W hW
  obtain ⟨s, _, rfl⟩ := sls_mem hok ho
  rw [gtP_is]
  exact takePred_any q s G W (hb.below hW hG)
theorem firstNamed_any (A : Option Addr) (n c : Nat) (l : List SlotM) (hn : n ≤ 100) (i G : Nat) (w : World) (hr : SlRd w w.heap.size A n l) (hG : G < w.heap.size) (hb : Blk w G 24 [.int .u32 (i : Int)]) :
    Calls Try.prog 23 #[.slice A n c, .func (.func 31) #[] #[.pointer (some ⟨G, 0, none⟩)]] w fun e w' => e = .returned (.int .i64 (firstI l i : Int)) ∧ Below w.heap.size w w' := by
  have h := ixFirst_any A n c (slsV l) (by omega) (sls_one l) 31 #[.pointer (some ⟨G, 0, none⟩)] (enters_of Try.func31 (by kernel_rfl) rfl) (idxP i) w.heap.size w (Nat.le_refl _) hr.1 (named_pred i hr.2 G w.heap.size w hG hb)
  rw [firstM_idx] at h
  exact h
theorem firstTake_any (A : Option Addr) (n c : Nat) (l : List SlotM) (hn : n ≤ 100) (q : SlotM) (hfr : takenM l q.idx = false) (G : Nat) (w : World) (hr : SlRd w w.heap.size A n l) (hG : G < w.heap.size) (hb : Blk w G 34 q.cells) :
    Calls Try.prog 23 #[.slice A n c, .func (.func 24) #[] #[.pointer (some ⟨G, 0, none⟩)]] w fun e w' => e = .returned (.int .i64 (aboveM q.idx l : Int)) ∧ Below w.heap.size w w' := by
  have h := ixFirst_any A n c (slsV l) (by omega) (sls_one l) 24 #[.pointer (some ⟨G, 0, none⟩)] (enters_of Try.func24 (by kernel_rfl) rfl) (gtP q.idx) w.heap.size w (Nat.le_refl _) hr.1 (take_pred q hr.2 G w.heap.size w hG hb)
  rw [firstM_gt hfr] at h
  exact h
end Go.Proofs.Ytboeeopgghldnaa
namespace Go.Proofs.Ytboeeopgghldnaa
open Go.RowKit

theorem wpList_max_k {P : Program} {w : World} {ops : Array Oper} {rest : List Oper} {o : Oper} {a : Act} {Q : Exit → Act → World → Prop} (hgd : o.guard = none) (x y : Operand) (ts : Array TypeId) (ho : o.op = .call { callee := .builtin .max, args := #[x, y], argTypes := ts })
    (k : IntKind) (u v m : Int) (hx : a.eval x = .int k u) (hy : a.eval y = .int k v) (hm : max u v = m) (h : wpList P ops Q rest (a.put o.dst (.int k m)) w) : wpList P ops Q (o :: rest) a w :=
  wpList_plain hgd fun K hK => by
    have hr : (Builtin.max_ ts o.type #[.int k u, .int k v]).run P w = .ok (.int k m) w := by
      subst hm
      by_cases huv : v ≤ u
      · rw [Int.max_eq_left huv]
        simp [Builtin.max_, Builtin.max2]
        try omega
      · rw [Int.max_eq_right (by omega)]
        simp [Builtin.max_, Builtin.max2]
        try omega
    unfold Oper.wp execOp
    simp only [ho, resolve, invoke, builtin, Sem.run_bind, Sem.run_pure, Result.andThen_ok, List.map_toArray, List.map_cons, List.map_nil, hx, hy, hr]
    exact hK _ _ h
end Go.Proofs.Ytboeeopgghldnaa
namespace Go.Proofs.Ytboeeopgghldnaa
open Go.RowKit

set_option maxRecDepth 100000 in
set_option maxHeartbeats 8000000 in
theorem free_any (A : Option Addr) (n c : Nat) (l : List SlotM) (wish : Nat) (w : World) (hn : n < 32) (hwish : wish < 4294967296) (hr : SlRd w w.heap.size A n l) :
    Calls Try.prog 22 #[.slice A n c, .int .u32 (wish : Int)] w fun e w' => e = .returned (.int .u32 (freeM l (beginI wish) : Int)) ∧ Below w.heap.size w w' := by
  have HLN := Lib.hid hr.len
  have HM := Lib.hid (show Lows w [slL A n l] w from (Lows.nil w).cons (slL A n l) hr)
  clear hr
  obtain ⟨n0, hn0⟩ : ∃ z, beginI wish = z := ⟨_, rfl⟩
  have hn0b : 1 ≤ n0 ∧ n0 < 4294967296 := by rw [← hn0]; unfold beginI; omega
  have hmax : max (wish : Int) 1 = (n0 : Int) := by rw [← hn0]; unfold beginI; omega
  have HN0 := Lib.hid (nthI_zero hn0b.1 hn0b.2)
  rw [hn0]
  clear hn0
  go_enter Try.func22, Try.ntmps22
  go_wp2_with (refine wpList_max_k rfl (.tmp 6) (.const (.int .u32 1)) #[24, 24] rfl .u32 (wish : Int) 1 (n0 : Int) rfl rfl hmax ?_)
  clear hmax
  go_loopg [5] 33 (fun gk v wr => ∃ i, i < 33 ∧ 33 - i ≤ gk ∧ v = .int .u32 (nthI n0 i : Int) ∧ (∀ q, q < i → takenM l (nthI n0 q) = true) ∧ Lows w [slL A n l] wr)
  case atStart => exact ⟨0, by omega, by omega, by rw [HN0.out], fun q h => absurd h (Nat.not_lt_zero _), HM.out⟩
  case round =>
    clear HM
    obtain ⟨i, hi, hgk, rfl, hall, hM⟩ := hrel
    have HM := Lib.hid hM
    have HALL := Lib.hid hall
    have hrng := nthI_range n0 i
    have HSU := Lib.hid (nthI_succ n0 i)
    obtain ⟨m, hm⟩ : ∃ z, nthI n0 i = z := ⟨_, rfl⟩
    rw [hm] at hrng HSU ⊢
    have HME := Lib.hid hm
    have hm2 : m < 4294967296 := hrng.2
    have htk := firstI_taken l m
    have hfl := firstI_le l m
    have hfn := fun W (g : Nat) (h1 : SlRd W W.heap.size A n l) (h2 : Blk W g 24 [.int .u32 (m : Int)]) => firstNamed_any A n c l (by omega) m g W h1 h2.lt h2
    obtain ⟨f, hf⟩ : ∃ z, firstI l m = z := ⟨_, rfl⟩
    obtain ⟨tk, htk2⟩ : ∃ z, takenM l m = z := ⟨_, rfl⟩
    rw [hf, HLN.out, htk2] at htk
    rw [hf] at hfn
    have d2 : decide ((f : Int) < (n : Int)) = tk := by rw [← htk, Bool.eq_iff_iff, decide_eq_true_iff, decide_eq_true_iff]; omega
    have HFN := Lib.hid hfn
    have HT := Lib.hid htk2
    have HD2 := Lib.hid d2
    have HD3 := Lib.hid htk
    clear hM hall hm htk hf htk2 hfn hfl d2
    go_wp2_with fail
    refine (named_any m wr).mono ?_
    rintro e w2 ⟨rfl, hb1, hb⟩
    replace HM := Lib.hid (show Lows w [blkL wr.heap.size 24 [.int .u32 (m : Int)], slL A n l] w2 from (HM.out.below hb).cons (blkL wr.heap.size 24 [.int .u32 (m : Int)]) hb1)
    clear hb hb1
    generalize wr.heap.size = G1 at HM ⊢
    go_wp2_with fail
    refine (HFN.out w2 G1 (HM.out.get (f := slL A n l) 1 rfl) (HM.out.blk 0 rfl)).mono ?_
    rintro e w3 ⟨rfl, hb⟩
    replace HM := Lib.hid (show Lows w [slL A n l] w3 from (HM.out.below hb).tail 0)
    clear hb HFN
    have d2 := HD2.out
    have d3 := HD3.out
    clear HD2 HD3
    cases tk with
    | true =>
      have htaken : ∀ q, q < i + 1 → takenM l (nthI n0 q) = true := fun q hq => by
        rcases Nat.lt_or_ge q i with h | h
        · exact HALL.out q h
        · obtain rfl : q = i := by omega
          rw [HME.out]
          exact HT.out
      have hi2 : i + 1 < 33 := by have := all_taken (show i + 1 < 90 by omega) htaken; rw [HLN.out] at this; omega
      have HTA := Lib.hid htaken
      obtain ⟨mw, hmw⟩ : ∃ z, (m + 1) % 4294967296 = z := ⟨_, rfl⟩
      have hw1 : IntKind.u32.wrap ((m : Int) + 1) = (mw : Int) := by rw [IntKind.wrap_u32]; omega
      have hw2 : ((m : Int) + 1) % 4294967296 = (mw : Int) := by omega
      have hmax : max (mw : Int) 1 = (nthI n0 (i + 1) : Int) := by rw [HSU.out]; unfold succI; split <;> omega
      clear htaken hmw HT HALL
      go_wp2_with (refine wpList_max_k rfl (.tmp 16) (.const (.int .u32 1)) #[24, 24] rfl .u32 (mw : Int) 1 (nthI n0 (i + 1) : Int) rfl rfl hmax ?_)
      go_roundg (33 - (i + 1))
      case measure => omega
      case rel => exact ⟨i + 1, hi2, Nat.le_refl _, rfl, HTA.out, HM.out⟩
    | false =>
      have HFR := Lib.hid (show freeM l n0 = m from by rw [← HME.out]; exact free_is hi (by rw [HME.out]; exact HT.out) HALL.out)
      have HF := Lib.hid HM.out.bel
      clear HALL HME HSU HT HM
      go_wp2
      go_ret
      exact ⟨by rw [HFR.out]; rfl, HF.out⟩
end Go.Proofs.Ytboeeopgghldnaa
namespace Go.Proofs.Ytboeeopgghldnaa
open Go.RowKit

set_option maxRecDepth 100000 in
set_option maxHeartbeats 16000000 in
theorem slGrow_any (n : Nat) (hn : n ≤ 1000) (w : World) :
    Calls Try.prog 30 #[.slice none 0 0, .int .i64 (n : Int)] w fun e w' => ∃ v, e = .returned v ∧ w'.ownsRow w.heap.size 34 34 v 0 [] ∧ Below w.heap.size w w' := by
  obtain ⟨ik, hik, hiz, his, hib⟩ := slotInfo
  have HKI := Lib.hid (And.intro hik (And.intro hiz (And.intro his hib)))
  clear hik hiz his hib
  have q1 : IntKind.i64.wrap (n : Int) = (n : Int) := IntWalk.i64_in _ (by omega)
  rcases Nat.eq_zero_or_pos n with h0 | h0
  · subst h0
    go_enter Try.func30, Try.ntmps30
    go_wp2
    go_ret
    exact ⟨_, rfl, World.ownsRow_nil _ _ _ _, Below.refl _ _⟩
  · have d1 : decide ((n : Int) > 0) = true := by simp; omega
    have d2 : decide ((n : Int) < 0) = false := by simp
    have happ := Lib.run_append_nil_zeros (P := Try.prog) w 23 3 23 34 ik (.agg slotZ.toArray) .i64 .i64 Try.underlying23 Try.underlying3 HKI.out.1 HKI.out.2.1 n h0 (by rw [HKI.out.2.2.1]; omega) (by omega) (by rw [HKI.out.2.2.2]; omega)
    have hge := grownCap_ge w n 0 34
    have hcm := grownCap_le_maxLen w n 0 34 (by unfold maxLen; omega)
    obtain ⟨cp, hcp⟩ : ∃ z, grownCap w n 0 34 = z := ⟨_, rfl⟩
    rw [hcp] at happ hge hcm
    obtain ⟨cur, hcur⟩ : ∃ z, Builtin.zeroCells (Value.agg slotZ.toArray).cells n ++ Builtin.zeroCells (Value.agg slotZ.toArray).cells (cp - n) = z := ⟨_, rfl⟩
    have HS := Lib.hid (show cur.size = cp * 34 by
      rw [← hcur, Array.size_append, size_zeroCells, size_zeroCells, show (Value.agg slotZ.toArray).cells.size = 34 by rfl, ← Nat.add_mul]
      congr 1
      omega)
    rw [hcur] at happ
    have HA := Lib.hid happ
    have HC := Lib.hid hcm
    have hsl := sl_h (some ⟨w.heap.size, 0, none⟩) (n := n) cp 0 (Nat.zero_le _) hge
    rw [addrK_zero_some, show ((0 : Nat) : Int) = 0 from rfl] at hsl
    clear happ hge hcm hcp hcur
    go_enter Try.func30, Try.ntmps30
    go_wp2_with (at_builtin; refine Lib.wpList_append_run _ rfl _ _ _ _ rfl _ _ rfl rfl _ _ HA.out ?_)
    go_ret
    exact ⟨_, rfl, World.ownsRow_made w.drew cur cp (Nat.le_refl _) HC.out HS.out, (Below.refl _ _).drew.alloc (Nat.le_refl _) _⟩
end Go.Proofs.Ytboeeopgghldnaa
namespace Go.Proofs.Ytboeeopgghldnaa
open Go.RowKit

/-- slices of objects: where each lies, its length and capacity, and what it holds -/
abbrev SlPart := (Option Addr × Nat × Nat) × List (List Value)
def slPartV (x : SlPart) : Value := .slice x.1.1 x.1.2.1 x.1.2.2
def slLenP (ps : List SlPart) : Nat := (ps.map fun x => x.1.2.1).sum
theorem slLenP_snoc {ps : List SlPart} {j : Nat} {x : SlPart} (h : ps[j]? = some x) : slLenP (ps.take (j + 1)) = slLenP (ps.take j) + x.1.2.1 := by
  rw [slLenP, take_snoc h, List.map_append, List.sum_append]
  simp [slLenP]
theorem slLenP_take (ps : List SlPart) (j : Nat) : slLenP (ps.take j) ≤ slLenP ps := by
  have h := congrArg slLenP (List.take_append_drop j ps)
  rw [slLenP, List.map_append, List.sum_append] at h
  unfold slLenP at *
  omega
theorem slFlat_snoc {ps : List SlPart} {j : Nat} {x : SlPart} (h : ps[j]? = some x) : ((ps.take (j + 1)).flatMap (·.2)).flatten = ((ps.take j).flatMap (·.2)).flatten ++ x.2.flatten := by
  rw [take_snoc h, List.flatMap_append, List.flatten_append]
  simp
set_option maxRecDepth 100000 in
set_option maxHeartbeats 16000000 in
theorem slConcat_any (b off q c : Nat) (ps : List SlPart) (hq : ps.length = q) (hq1 : q ≤ 1000) (hsum : slLenP ps ≤ 1000) (w : World) (hlt : b < w.heap.size) (hat : At w b off (ps.map slPartV)) (hps : ∀ x ∈ ps, RdRow w w.heap.size x.1.1 34 x.1.2.1 x.2 ∧ ∀ o ∈ x.2, ∀ v ∈ o, v.oneCell' = true) :
    Calls Try.prog 25 #[.slice (some ⟨b, off, none⟩) q c] w fun e w' => ∃ A' c', e = .returned (.slice A' (slLenP ps) c') ∧ w'.ownsRow w.heap.size 34 34 (.slice A' (slLenP ps) c') (slLenP ps) (ps.flatMap (·.2)).flatten ∧ Below w.heap.size w w' := by
  have HAT := Lib.hid (show ∀ W, Below w.heap.size w W → At W b off (ps.map slPartV) from fun W hW j v hv => (World.cell?_of_block (hW.block b hlt)).trans (hat j v hv))
  have HPS := Lib.hid hps
  have HQ := Lib.hid (And.intro hq hq1)
  have HSM := Lib.hid (show ∀ j, slLenP (ps.take j) ≤ 1000 from fun j => Nat.le_trans (slLenP_take ps j) hsum)
  obtain ⟨ik, hik, hiz, his, hib⟩ := slotInfo
  have HKI := Lib.hid (And.intro hik (And.intro hiz (And.intro his hib)))
  clear hik hiz his hib
  obtain ⟨tot, htot⟩ : ∃ z, slLenP ps = z := ⟨_, rfl⟩
  rw [htot] at hsum
  have HGR := Lib.hid (slGrow_any tot hsum)
  have HTOT := Lib.hid htot
  rw [htot]
  clear hat hps hq htot
  go_enter Try.func25, Try.ntmps25
  go_wp2_with fail
  go_loopw [11, 3] (fun vj vs wr => ∃ j s : Nat, j ≤ q ∧ vj = .int .i64 (j : Int) ∧ vs = .int .i64 (s : Int) ∧ slLenP (ps.take j) = s ∧ Below w.heap.size w wr) (fun vj _ _ => q - (intOf vj).toNat)
  case atStart => exact ⟨0, 0, Nat.zero_le _, rfl, rfl, rfl, Below.refl _ _⟩
  case round =>
    obtain ⟨j, s, hj, rfl, rfl, hs, hbl⟩ := hrel
    have HBL := Lib.hid hbl
    have HS := Lib.hid hs
    clear hbl hs
    by_cases hjq : j < q
    · have d1 : decide ((j : Int) < (q : Int)) = true := by simp; omega
      obtain ⟨x, hx⟩ : ∃ x, ps[j]? = some x := ⟨ps[j]'(by rw [HQ.out.1]; exact hjq), List.getElem?_eq_getElem _⟩
      have hc := HAT.out wr HBL.out j (slPartV x) (by rw [List.getElem?_map, hx]; rfl)
      have hsn := slLenP_snoc hx
      rw [HS.out] at hsn
      obtain ⟨⟨Ax, nx, cx⟩, ox⟩ := x
      have hc' : wr.cell? ⟨b, off + j, none⟩ = some (.slice Ax nx cx) := hc
      have hb1 := HSM.out (j + 1)
      rw [hsn] at hb1
      have HSN := Lib.hid hsn
      clear hc hsn hx
      have hb2 : s + nx ≤ 1000 := hb1
      have d2 : decide ((s : Int) + (nx : Int) < 0) = false := by simp; omega
      clear hb1
      go_wp2_with fail
      go_roundw
      case rel => exact ⟨j + 1, s + nx, by omega, by go_num, by go_num, HSN.out, by assumption⟩
      case measure => simp [intOf]; omega
    · obtain rfl : q = j := by omega
      have d1 : decide ((q : Int) < (q : Int)) = false := by simp
      have hst : tot = s := by rw [← HTOT.out, ← HS.out, List.take_of_length_le (by rw [HQ.out.1]; exact Nat.le_refl _)]
      subst hst
      clear HS
      go_wp2_with fail
      refine (HGR.out _).mono ?_
      rintro e w2 ⟨v2, rfl, hown, hb⟩
      have HO := Lib.hid (And.intro (own_base hown HBL.out.size) (HBL.out.trans (hb.mono HBL.out.size)))
      clear hown hb HBL HGR
      go_wp2_with fail
      go_loopw [27, 6] (fun vj vo wr => ∃ j s : Nat, j ≤ q ∧ vj = .int .i64 (j : Int) ∧ slLenP (ps.take j) = s ∧ wr.ownsRow w.heap.size 34 34 vo s ((ps.take j).flatMap (·.2)).flatten ∧ Below w.heap.size w wr) (fun vj _ _ => q - (intOf vj).toNat)
      case atStart => exact ⟨0, 0, Nat.zero_le _, rfl, rfl, HO.out.1, HO.out.2⟩
      case round =>
        clear HO
        obtain ⟨j, s, hj, rfl, hs, hown, hbl⟩ := hrel
        have HO := Lib.hid (And.intro hown hbl)
        have HS := Lib.hid hs
        clear hown hbl hs
        by_cases hjq : j < q
        · have d1 : decide ((j : Int) < (q : Int)) = true := by simp; omega
          obtain ⟨x, hx⟩ : ∃ x, ps[j]? = some x := ⟨ps[j]'(by rw [HQ.out.1]; exact hjq), List.getElem?_eq_getElem _⟩
          have hc := HAT.out _ HO.out.2 j (slPartV x) (by rw [List.getElem?_map, hx]; rfl)
          have hsn := slLenP_snoc hx
          rw [HS.out] at hsn
          have HFS := Lib.hid (slFlat_snoc hx)
          have hpx := HPS.out x (List.mem_of_getElem? hx)
          obtain ⟨⟨Ax, nx, cx⟩, ox⟩ := x
          have hc' := hc
          simp only [slPartV] at hc'
          have hb1 := HSM.out (j + 1)
          rw [hsn] at hb1
          have HSN := Lib.hid (And.intro hsn hb1)
          have HPX := Lib.hid (And.intro ((hpx.1.below HO.out.2).mono HO.out.2.size) (one_flat hpx.2))
          clear hc hsn hx hb1 hpx
          go_wp2_with (refine wpList_append_rows _ rfl (.tmp 31) (.tmp 32) 23 rfl w.heap.size 34 ik _ 34 40 Try.underlying23 HKI.out.1 HKI.out.2.1 HKI.out.2.2.1 HKI.out.2.2.2 (by rfl) (by omega) u6 s _ rfl HO.out.1 _ Ax nx cx ox rfl HPX.out.1 HPX.out.2 (by unfold maxLen; have := HSN.out.2; simp only at this; omega) (by have := HSN.out.2; simp only at this; omega) HO.out.2.size ?_; intro v6 w6 ho6 hg6 _)
          go_roundw
          case rel => exact ⟨j + 1, s + nx, by omega, by go_num, HSN.out.1, by rw [HFS.out]; exact ho6, HO.out.2.grown hg6 HO.out.2.size (own_from HO.out.1)⟩
          case measure => simp [intOf]; omega
        · obtain rfl : q = j := by omega
          have d1 : decide ((q : Int) < (q : Int)) = false := by simp
          have htk : ps.take q = ps := List.take_of_length_le (by rw [HQ.out.1]; exact Nat.le_refl _)
          have hst : s = tot := by rw [← HTOT.out, ← HS.out, htk]
          subst hst
          rw [htk] at HO
          obtain ⟨A9, c9, rfl, -, -, -⟩ := own_sliceK HO.out.1
          have HF := Lib.hid HO.out
          clear HO HS htk
          go_wp2
          go_ret
          exact ⟨A9, c9, rfl, HF.out.1, HF.out.2⟩
end Go.Proofs.Ytboeeopgghldnaa
namespace Go.Proofs.Ytboeeopgghldnaa
open Go.RowKit

def catS (A : Option Addr) (n c j g1 : Nat) : List Value := [.slice (addrK A 0 c 34) j c, .slice (some ⟨g1, 0, none⟩) 1 1, .slice (addrK A j c 34) (n - j) (c - j)]
theorem catS_any (A : Option Addr) (n c j : Nat) (l : List SlotM) (r : SlotM) (hn : n ≤ 100) (hnc : n ≤ c) (hj : j ≤ n) (hok : r.ok) (g1 g2 : Nat) (t2 : TypeId) (W : World) (hr : SlRd W W.heap.size A n l) (h1 : Blk W g1 34 r.cells) (h2 : Blk W g2 t2 (catS A n c j g1)) :
    Calls Try.prog 25 #[.slice (some ⟨g2, 0, none⟩) 3 3] W fun e w' => ∃ A' c', e = .returned (.slice A' (j + (1 + (n - j))) c') ∧ SlRd w' w'.heap.size A' (j + (1 + (n - j))) (l.take j ++ r :: l.drop j) ∧ (j + (1 + (n - j)) ≤ c' ∧ c' ≤ maxLen) ∧ Below W.heap.size W w' := by
  have hl := hr.len
  have hlen : slLenP [((addrK A 0 c 34, j, c), slsV (l.take j)), ((some ⟨g1, 0, none⟩, 1, 1), [r.cells]), ((addrK A j c 34, n - j, c - j), slsV (l.drop j))] = j + (1 + (n - j)) := rfl
  have h := slConcat_any g2 0 3 3 [((addrK A 0 c 34, j, c), slsV (l.take j)), ((some ⟨g1, 0, none⟩, 1, 1), [r.cells]), ((addrK A j c 34, n - j, c - j), slsV (l.drop j))] rfl (by omega) (by rw [hlen]; omega) W h2.lt h2.all (by
    intro x hx
    simp only [List.mem_cons, List.not_mem_nil, or_false] at hx
    rcases hx with rfl | rfl | rfl
    · exact ⟨by rw [← slsV_take]; exact hr.1.ahead j c hj, sls_one _⟩
    · refine ⟨⟨rfl, fun o ho => ?_, fun _ => ⟨g1, 0, rfl, h1.lt, fun q v hq => ?_⟩⟩, fun o ho => ?_⟩
      · rw [List.mem_singleton] at ho; subst ho; exact SlotM.cells_length hok
      · rw [Nat.zero_add, h1.cell]; simpa using hq
      · rw [List.mem_singleton] at ho; subst ho; exact slot_one r
    · exact ⟨by rw [← slsV_drop]; exact hr.1.behind j c hj hnc, sls_one _⟩)
  rw [hlen] at h
  refine h.mono ?_
  rintro e w' ⟨A', c', rfl, ho, hb⟩
  obtain ⟨A9, c9, hv, hc1, hc2, -⟩ := own_sliceK ho
  injection hv with _ _ hc
  subst hc
  refine ⟨A', c', rfl, SlRd.of_own ?_ ?_ (show w'.ownsRow W.heap.size 34 34 (.slice A' (j + (1 + (n - j))) c') (j + (1 + (n - j))) (slsV (l.take j ++ r :: l.drop j)).flatten from ?_), ⟨hc1, hc2⟩, hb⟩
  · rw [List.length_append, List.length_cons, List.length_take, List.length_drop, hl]; omega
  · intro q hq
    rcases List.mem_append.1 hq with hq | hq
    · exact hr.2 q (List.mem_of_mem_take hq)
    · rcases List.mem_cons.1 hq with rfl | hq
      · exact hok
      · exact hr.2 q (List.mem_of_mem_drop hq)
  · have e : ([((addrK A 0 c 34, j, c), slsV (l.take j)), ((some ⟨g1, 0, none⟩, 1, 1), [r.cells]), ((addrK A j c 34, n - j, c - j), slsV (l.drop j))] : List SlPart).flatMap (·.2) = slsV (l.take j ++ r :: l.drop j) := by simp [slsV]
    rw [← e]
    exact ho
end Go.Proofs.Ytboeeopgghldnaa
namespace Go.Proofs.Ytboeeopgghldnaa
open Go.RowKit

set_option maxRecDepth 100000 in
set_option maxHeartbeats 8000000 in
theorem ixTakeC : IxTakeC 7 := by
  intro A n c l wish k b w hwish hk harg
  obtain ⟨hn, hnc, hcm, hr⟩ := harg
  have HW := Lib.hid hwish
  have HNC := Lib.hid (And.intro hnc hcm)
  have HK := Lib.hid hk
  have HLN := Lib.hid hr.len
  have HOKS := Lib.hid hr.2
  obtain ⟨ik, hik, hiz, his, hib⟩ := slotInfo
  have HKI := Lib.hid (And.intro hik (And.intro hiz (And.intro his hib)))
  obtain ⟨ck, hck⟩ : ∃ z, (k.map u8v).toArray = z := ⟨_, rfl⟩
  rw [hck]
  have HM := Lib.hid (show Lows w [blkL w.heap.size 26 (k.map u8v), slL A n l] (w.alloc (.cells ck 26)) from ((Lows.nil w).cons (slL A n l) hr).alloc 26 ck (k.map u8v) hck.symm)
  have HCK := Lib.hid hck
  clear hik hiz his hib hwish hk hr hnc hcm hck
  go_enter Try.func7, Try.ntmps7
  go_upto_region 1 with fail
  generalize w.alloc (.cells ck 26) = w1 at HM ⊢
  by_cases h32 : 32 ≤ n
  · have d1 : decide ((n : Int) ≥ 32) = true := by simp; omega
    have HRES := Lib.hid (show takeM l wish k b = ([], 0, 12) from by rw [takeM, if_pos (by rw [HLN.out]; exact h32)])
    have HF := Lib.hid HM.out.bel
    clear HM
    go_wp2
    go_ret3
    rw [HRES.out]
    exact ⟨_, rfl, none, 0, rfl, Nat.le_refl _, by unfold maxLen; omega, SlRd.nil, HF.out⟩
  · have d1 : decide ((n : Int) ≥ 32) = false := by simp; omega
    obtain ⟨i0, _, hfi, hft, _⟩ := free_find (beginI wish) (l := l) (by rw [HLN.out]; omega)
    have hrng := nthI_range (beginI wish) i0
    rw [← hfi] at hft hrng
    have hres : takeM l wish k b = (l.take (aboveM (freeM l (beginI wish)) l) ++ ⟨freeM l (beginI wish), k, b⟩ :: l.drop (aboveM (freeM l (beginI wish)) l), freeM l (beginI wish), 0) := by
      rw [takeM, if_neg (by rw [HLN.out]; exact h32)]
    have hal := aboveM_le (freeM l (beginI wish)) l
    obtain ⟨m, hm⟩ : ∃ z, freeM l (beginI wish) = z := ⟨_, rfl⟩
    rw [hm] at hft hrng hres hal
    have HFR := Lib.hid hm
    have HFT := Lib.hid hft
    have HSO := Lib.hid (show (SlotM.mk m k b).ok from ⟨hrng.2, HK.out⟩)
    have hbt := slot_built ⟨m, k, b⟩ ⟨hrng.2, HK.out⟩
    obtain ⟨sn, hsn⟩ : ∃ z, (SlotM.mk m k b).cells.toArray = z := ⟨_, rfl⟩
    simp only [HCK.out, hsn] at hbt
    have HBT := Lib.hid hbt
    have HSN := Lib.hid hsn
    obtain ⟨j, hjj⟩ : ∃ z, aboveM m l = z := ⟨_, rfl⟩
    rw [hjj, HLN.out] at hal
    rw [hjj] at hres
    have HJJ := Lib.hid hjj
    have HJ := Lib.hid hal
    have HRES := Lib.hid hres
    have HLEN := Lib.hid (show (l.take j ++ SlotM.mk m k b :: l.drop j).length = j + (1 + (n - j)) from by
      rw [List.length_append, List.length_cons, List.length_take, List.length_drop, HLN.out]; omega)
    clear hfi hft hrng hres hm hbt hsn hjj hal
    go_upto_region 3 with fail
    clear d1
    generalize hwq : w1 = wq at HM ⊢
    clear hwq
    have HSL := Lib.hid (HM.out.get (f := slL A n l) 1 rfl)
    have HKA := Lib.hid (show ∀ W, Below wq.heap.size wq W → At W w.heap.size 0 (k.map u8v) from fun W hW => ((HM.out.below hW).blk 0 rfl).all)
    go_cut [11] (fun v11 wx => ∃ g8, v11 = .pointer (some ⟨g8, 0, none⟩) ∧ Blk wx g8 34 (SlotM.mk m k b).cells ∧ Below wq.heap.size wq wx)
    case first =>
      have HMQ := HM
      clear HM
      have HM := Lib.hid (Mem.nil wq)
      refine wp_region_held_drew (S := fun W' => Mem wq [] W') (by kernel_rfl) ((HM.out).drew) (fun hHeld => ?_)
      replace HM := Lib.hid HM.out.drew
      generalize wq.drew = wd1 at HM hHeld ⊢
      refine take_first (v := ?_) 0 rfl (by kernel_rfl) (by kernel_rfl) (by kernel_rfl) (fun _ _ _ h => h) (Or.inl ⟨by rfl, ?_⟩) (by assumption) ?_
      rotate_left
      · (intro w hSw; (try dsimp only at hSw); go_simp; try with_reducible rfl)
      (try simp only [Act.put, List.setIfInBounds_toArray, List.set_cons_zero, List.set_cons_succ])
      refine take_first (v := ?_) 1 rfl (by kernel_rfl) (by kernel_rfl) (by kernel_rfl) (fun _ _ _ h => h) (Or.inl ⟨by rfl, ?_⟩) (by assumption) ?_
      rotate_left
      · (intro w hSw; (try dsimp only at hSw); go_simp; try with_reducible rfl)
      (try simp only [Act.put, List.setIfInBounds_toArray, List.set_cons_zero, List.set_cons_succ])
      refine take_first (v := .agg ck) 3 rfl (by kernel_rfl) (by kernel_rfl) (by kernel_rfl) (fun _ _ _ h => h) (by rw [← HCK.out]; exact yields_load_obj (by rfl) 26 (.tmp 6) rfl w.heap.size 0 rfl (k.map u8v) (fun W hW => HKA.out W hW.bel) _ Try.underlying26 rfl (key_cellsOf k HK.out)) (by assumption) ?_
      (try simp only [Act.put, List.setIfInBounds_toArray, List.set_cons_zero, List.set_cons_succ])
      refine take_first (v := ?_) 4 rfl (by kernel_rfl) (by kernel_rfl) (by kernel_rfl) (fun _ _ _ h => h) (Or.inl ⟨by rfl, ?_⟩) (by assumption) ?_
      rotate_left
      · (intro w hSw; (try dsimp only at hSw); go_simp; try with_reducible rfl)
      (try simp only [Act.put, List.setIfInBounds_toArray, List.set_cons_zero, List.set_cons_succ])
      refine step_two 2 6 rfl rfl (by kernel_rfl) (fun K hK => ?_) (fun K hK => ?_)
      · clear hHeld
        go_simp
        refine (free_any A n c l wish _ (by omega) HW.out ((HSL.out.below HM.out.bel).mono HM.out.size)).mono ?_
        rintro e wy2 ⟨rfl, hb⟩
        replace HM := Lib.hid (show Mem wq [] wy2 from HM.out.below hb)
        rw [HFR.out]
        clear hb
        go_wp2_with fail
        refine hK.out _ _ (HM.out) (fun hHeld => ?_)
        clear hK K
        (try simp only [Act.put, List.setIfInBounds_toArray, List.set_cons_zero, List.set_cons_succ])
        refine step_two 5 6 rfl rfl (by kernel_rfl) (fun K hK => ?_) (fun K hK => ?_)
        · clear hHeld
          refine step_build_as rfl 34 [(0, .tmp 18), (1, .tmp 19), (2, .tmp 20)] rfl sn ?_ ?_
          exact HBT.out
          refine hK.out _ _ (HM.out) (fun hHeld => ?_)
          clear hK K
          (try simp only [Act.put, List.setIfInBounds_toArray, List.set_cons_zero, List.set_cons_succ])
          refine step_one 6 rfl (by kernel_rfl) (fun K hK => ?_)
          clear hHeld
          go_simp
          replace HM := Lib.hid (show Mem wq [blkE wy2.heap.size 34 (slotZ)] (wy2.alloc (.cells #[.int .u32 0, .int .u8 0, .int .u8 0, .int .u8 0, .int .u8 0, .int .u8 0, .int .u8 0, .int .u8 0, .int .u8 0, .int .u8 0, .int .u8 0, .int .u8 0, .int .u8 0, .int .u8 0, .int .u8 0, .int .u8 0, .int .u8 0, .int .u8 0, .int .u8 0, .int .u8 0, .int .u8 0, .int .u8 0, .int .u8 0, .int .u8 0, .int .u8 0, .int .u8 0, .int .u8 0, .int .u8 0, .int .u8 0, .int .u8 0, .int .u8 0, .int .u8 0, .int .u8 0, .bool false] 34)) from HM.out.alloc rfl 34 #[.int .u32 0, .int .u8 0, .int .u8 0, .int .u8 0, .int .u8 0, .int .u8 0, .int .u8 0, .int .u8 0, .int .u8 0, .int .u8 0, .int .u8 0, .int .u8 0, .int .u8 0, .int .u8 0, .int .u8 0, .int .u8 0, .int .u8 0, .int .u8 0, .int .u8 0, .int .u8 0, .int .u8 0, .int .u8 0, .int .u8 0, .int .u8 0, .int .u8 0, .int .u8 0, .int .u8 0, .int .u8 0, .int .u8 0, .int .u8 0, .int .u8 0, .int .u8 0, .int .u8 0, .bool false] (slotZ) rfl)
          generalize wy2.alloc (.cells #[.int .u32 0, .int .u8 0, .int .u8 0, .int .u8 0, .int .u8 0, .int .u8 0, .int .u8 0, .int .u8 0, .int .u8 0, .int .u8 0, .int .u8 0, .int .u8 0, .int .u8 0, .int .u8 0, .int .u8 0, .int .u8 0, .int .u8 0, .int .u8 0, .int .u8 0, .int .u8 0, .int .u8 0, .int .u8 0, .int .u8 0, .int .u8 0, .int .u8 0, .int .u8 0, .int .u8 0, .int .u8 0, .int .u8 0, .int .u8 0, .int .u8 0, .int .u8 0, .int .u8 0, .bool false] 34) = wy3 at HM ⊢
          generalize wy2.heap.size = g8 at HM ⊢
          refine hK.out _ _ ((HM.out.erase 0)) (fun hHeld => ?_)
          clear hK K
          (try simp only [Act.put, List.setIfInBounds_toArray, List.set_cons_zero, List.set_cons_succ])
          refine step_one 7 rfl (by kernel_rfl) (fun K hK => ?_)
          clear hHeld
          refine step_store_obj rfl 34 (.tmp 11) (.tmp 21) rfl g8 0 (SlotM.mk m k b).cells rfl (by show Value.agg sn = _; rw [HSN.out]) 34 slotZ (HM.out.blk 0 rfl) (slot_cellsOf _ HSO.out) (by rw [SlotM.cells_length HSO.out, slotZ_length]; omega) (slot_one _) ?_
          intro wy4 hb hg
          rw [setL_all _ _ (by rw [SlotM.cells_length HSO.out, slotZ_length])] at hb
          replace HM := Lib.hid (show Mem wq [blkE g8 34 (SlotM.mk m k b).cells] wy4 from HM.out.put 0 rfl _ hg hb)
          clear hb hg
          refine hK.out _ _ ((HM.out.erase 0)) (fun hHeld => ?_)
          clear hK K
          (try simp only [Act.put])
          refine wpAnyH_done (by kernel_rfl) ?_ _
          clear hHeld
          go_wp2_with fail
          go_meet
          exact ⟨g8, rfl, HM.out.blk 0 rfl, HM.out.bel⟩
        · clear hHeld
          go_simp
          replace HM := Lib.hid (show Mem wq [blkE wy2.heap.size 34 (slotZ)] (wy2.alloc (.cells #[.int .u32 0, .int .u8 0, .int .u8 0, .int .u8 0, .int .u8 0, .int .u8 0, .int .u8 0, .int .u8 0, .int .u8 0, .int .u8 0, .int .u8 0, .int .u8 0, .int .u8 0, .int .u8 0, .int .u8 0, .int .u8 0, .int .u8 0, .int .u8 0, .int .u8 0, .int .u8 0, .int .u8 0, .int .u8 0, .int .u8 0, .int .u8 0, .int .u8 0, .int .u8 0, .int .u8 0, .int .u8 0, .int .u8 0, .int .u8 0, .int .u8 0, .int .u8 0, .int .u8 0, .bool false] 34)) from HM.out.alloc rfl 34 #[.int .u32 0, .int .u8 0, .int .u8 0, .int .u8 0, .int .u8 0, .int .u8 0, .int .u8 0, .int .u8 0, .int .u8 0, .int .u8 0, .int .u8 0, .int .u8 0, .int .u8 0, .int .u8 0, .int .u8 0, .int .u8 0, .int .u8 0, .int .u8 0, .int .u8 0, .int .u8 0, .int .u8 0, .int .u8 0, .int .u8 0, .int .u8 0, .int .u8 0, .int .u8 0, .int .u8 0, .int .u8 0, .int .u8 0, .int .u8 0, .int .u8 0, .int .u8 0, .int .u8 0, .bool false] (slotZ) rfl)
          generalize wy2.alloc (.cells #[.int .u32 0, .int .u8 0, .int .u8 0, .int .u8 0, .int .u8 0, .int .u8 0, .int .u8 0, .int .u8 0, .int .u8 0, .int .u8 0, .int .u8 0, .int .u8 0, .int .u8 0, .int .u8 0, .int .u8 0, .int .u8 0, .int .u8 0, .int .u8 0, .int .u8 0, .int .u8 0, .int .u8 0, .int .u8 0, .int .u8 0, .int .u8 0, .int .u8 0, .int .u8 0, .int .u8 0, .int .u8 0, .int .u8 0, .int .u8 0, .int .u8 0, .int .u8 0, .int .u8 0, .bool false] 34) = wy3 at HM ⊢
          generalize wy2.heap.size = g8 at HM ⊢
          refine hK.out _ _ ((HM.out.erase 0)) (fun hHeld => ?_)
          clear hK K
          (try simp only [Act.put, List.setIfInBounds_toArray, List.set_cons_zero, List.set_cons_succ])
          refine step_one 5 rfl (by kernel_rfl) (fun K hK => ?_)
          clear hHeld
          refine step_build_as rfl 34 [(0, .tmp 18), (1, .tmp 19), (2, .tmp 20)] rfl sn ?_ ?_
          exact HBT.out
          refine hK.out _ _ ((HM.out.erase 0)) (fun hHeld => ?_)
          clear hK K
          (try simp only [Act.put, List.setIfInBounds_toArray, List.set_cons_zero, List.set_cons_succ])
          refine step_one 7 rfl (by kernel_rfl) (fun K hK => ?_)
          clear hHeld
          refine step_store_obj rfl 34 (.tmp 11) (.tmp 21) rfl g8 0 (SlotM.mk m k b).cells rfl (by show Value.agg sn = _; rw [HSN.out]) 34 slotZ (HM.out.blk 0 rfl) (slot_cellsOf _ HSO.out) (by rw [SlotM.cells_length HSO.out, slotZ_length]; omega) (slot_one _) ?_
          intro wy4 hb hg
          rw [setL_all _ _ (by rw [SlotM.cells_length HSO.out, slotZ_length])] at hb
          replace HM := Lib.hid (show Mem wq [blkE g8 34 (SlotM.mk m k b).cells] wy4 from HM.out.put 0 rfl _ hg hb)
          clear hb hg
          refine hK.out _ _ ((HM.out.erase 0)) (fun hHeld => ?_)
          clear hK K
          (try simp only [Act.put])
          refine wpAnyH_done (by kernel_rfl) ?_ _
          clear hHeld
          go_wp2_with fail
          go_meet
          exact ⟨g8, rfl, HM.out.blk 0 rfl, HM.out.bel⟩
      · clear hHeld
        go_simp
        replace HM := Lib.hid (show Mem wq [blkE wd1.heap.size 34 (slotZ)] (wd1.alloc (.cells #[.int .u32 0, .int .u8 0, .int .u8 0, .int .u8 0, .int .u8 0, .int .u8 0, .int .u8 0, .int .u8 0, .int .u8 0, .int .u8 0, .int .u8 0, .int .u8 0, .int .u8 0, .int .u8 0, .int .u8 0, .int .u8 0, .int .u8 0, .int .u8 0, .int .u8 0, .int .u8 0, .int .u8 0, .int .u8 0, .int .u8 0, .int .u8 0, .int .u8 0, .int .u8 0, .int .u8 0, .int .u8 0, .int .u8 0, .int .u8 0, .int .u8 0, .int .u8 0, .int .u8 0, .bool false] 34)) from HM.out.alloc rfl 34 #[.int .u32 0, .int .u8 0, .int .u8 0, .int .u8 0, .int .u8 0, .int .u8 0, .int .u8 0, .int .u8 0, .int .u8 0, .int .u8 0, .int .u8 0, .int .u8 0, .int .u8 0, .int .u8 0, .int .u8 0, .int .u8 0, .int .u8 0, .int .u8 0, .int .u8 0, .int .u8 0, .int .u8 0, .int .u8 0, .int .u8 0, .int .u8 0, .int .u8 0, .int .u8 0, .int .u8 0, .int .u8 0, .int .u8 0, .int .u8 0, .int .u8 0, .int .u8 0, .int .u8 0, .bool false] (slotZ) rfl)
        generalize wd1.alloc (.cells #[.int .u32 0, .int .u8 0, .int .u8 0, .int .u8 0, .int .u8 0, .int .u8 0, .int .u8 0, .int .u8 0, .int .u8 0, .int .u8 0, .int .u8 0, .int .u8 0, .int .u8 0, .int .u8 0, .int .u8 0, .int .u8 0, .int .u8 0, .int .u8 0, .int .u8 0, .int .u8 0, .int .u8 0, .int .u8 0, .int .u8 0, .int .u8 0, .int .u8 0, .int .u8 0, .int .u8 0, .int .u8 0, .int .u8 0, .int .u8 0, .int .u8 0, .int .u8 0, .int .u8 0, .bool false] 34) = wy2 at HM ⊢
        generalize wd1.heap.size = g8 at HM ⊢
        refine hK.out _ _ ((HM.out.erase 0)) (fun hHeld => ?_)
        clear hK K
        (try simp only [Act.put, List.setIfInBounds_toArray, List.set_cons_zero, List.set_cons_succ])
        refine step_one 2 rfl (by kernel_rfl) (fun K hK => ?_)
        clear hHeld
        go_simp
        refine (free_any A n c l wish _ (by omega) HW.out ((HSL.out.below HM.out.bel).mono HM.out.size)).mono ?_
        rintro e wy3 ⟨rfl, hb⟩
        replace HM := Lib.hid (show Mem wq [blkE g8 34 (slotZ)] wy3 from HM.out.below hb)
        rw [HFR.out]
        clear hb
        go_wp2_with fail
        refine hK.out _ _ ((HM.out.erase 0)) (fun hHeld => ?_)
        clear hK K
        (try simp only [Act.put, List.setIfInBounds_toArray, List.set_cons_zero, List.set_cons_succ])
        refine step_one 5 rfl (by kernel_rfl) (fun K hK => ?_)
        clear hHeld
        refine step_build_as rfl 34 [(0, .tmp 18), (1, .tmp 19), (2, .tmp 20)] rfl sn ?_ ?_
        exact HBT.out
        refine hK.out _ _ ((HM.out.erase 0)) (fun hHeld => ?_)
        clear hK K
        (try simp only [Act.put, List.setIfInBounds_toArray, List.set_cons_zero, List.set_cons_succ])
        refine step_one 7 rfl (by kernel_rfl) (fun K hK => ?_)
        clear hHeld
        refine step_store_obj rfl 34 (.tmp 11) (.tmp 21) rfl g8 0 (SlotM.mk m k b).cells rfl (by show Value.agg sn = _; rw [HSN.out]) 34 slotZ (HM.out.blk 0 rfl) (slot_cellsOf _ HSO.out) (by rw [SlotM.cells_length HSO.out, slotZ_length]; omega) (slot_one _) ?_
        intro wy4 hb hg
        rw [setL_all _ _ (by rw [SlotM.cells_length HSO.out, slotZ_length])] at hb
        replace HM := Lib.hid (show Mem wq [blkE g8 34 (SlotM.mk m k b).cells] wy4 from HM.out.put 0 rfl _ hg hb)
        clear hb hg
        refine hK.out _ _ ((HM.out.erase 0)) (fun hHeld => ?_)
        clear hK K
        (try simp only [Act.put])
        refine wpAnyH_done (by kernel_rfl) ?_ _
        clear hHeld
        go_wp2_with fail
        go_meet
        exact ⟨g8, rfl, HM.out.blk 0 rfl, HM.out.bel⟩
    case rest =>
      clear HSL HKA
      obtain ⟨g8, rfl, hb8, hbl⟩ := hcut
      replace HM := Lib.hid (show Lows w [blkL g8 34 (SlotM.mk m k b).cells, blkL w.heap.size 26 (k.map u8v), slL A n l] wc from (HM.out.below hbl).cons (blkL g8 34 (SlotM.mk m k b).cells) hb8)
      clear hb8 hbl
      go_wp2_with fail
      have hft := firstTake_any A n c l hn (SlotM.mk m k b) HFT.out g8 wc (HM.out.get (f := slL A n l) 2 rfl) (HM.out.blk 0 rfl).lt (HM.out.blk 0 rfl)
      rw [show aboveM (SlotM.mk m k b).idx l = j from HJJ.out] at hft
      refine hft.mono ?_
      rintro e w5 ⟨rfl, hb⟩
      replace HM := Lib.hid (HM.out.below hb)
      clear hb hft
      go_upto_region 5 with fail
      refine wp_region_held_drew (S := fun W' => Lows w [blkL g8 34 (SlotM.mk m k b).cells, blkL w.heap.size 26 (k.map u8v), slL A n l] W') (by kernel_rfl) (HM.out.drew) (fun hHeld => ?_)
      replace HM := Lib.hid HM.out.drew
      generalize w5.drew = wd1 at HM hHeld ⊢
      refine take_first (v := ?_) 0 rfl (by kernel_rfl) (by kernel_rfl) (by kernel_rfl) (fun _ _ _ h => h) (Or.inl ⟨by rfl, ?_⟩) (by assumption) ?_
      rotate_left
      · (intro w hSw; (try dsimp only at hSw); go_simp; try with_reducible rfl)
      (try simp only [Act.put, List.setIfInBounds_toArray, List.set_cons_zero, List.set_cons_succ])
      refine take_first (v := ?_) 1 rfl (by kernel_rfl) (by kernel_rfl) (by kernel_rfl) (fun _ _ _ h => h) (Or.inl ⟨by rfl, ?_⟩) (by assumption) ?_
      rotate_left
      · (intro w hSw; (try dsimp only at hSw); go_simp; try with_reducible rfl)
      (try simp only [Act.put, List.setIfInBounds_toArray, List.set_cons_zero, List.set_cons_succ])
      refine take_first (v := ?_) 2 rfl (by kernel_rfl) (by kernel_rfl) (by kernel_rfl) (fun _ _ _ h => h) (Or.inl ⟨by rfl, ?_⟩) (by assumption) ?_
      rotate_left
      · (intro w hSw; (try dsimp only at hSw); have s := sl_h A (n := n) c j HJ.out HNC.out.1 w; go_simp; try with_reducible rfl)
      (try simp only [Act.put, List.setIfInBounds_toArray, List.set_cons_zero, List.set_cons_succ])
      refine take_first (v := .agg sn) 3 rfl (by kernel_rfl) (by kernel_rfl) (by kernel_rfl) (fun _ _ _ h => h) (by rw [← HSN.out]; exact yields_load_obj (by rfl) 34 (.tmp 11) rfl g8 0 rfl (SlotM.mk m k b).cells (fun w' hb => (Lows.blk hb 0 rfl).all) _ Try.underlying34 rfl (slot_cellsOf _ HSO.out)) (by assumption) ?_
      (try simp only [Act.put, List.setIfInBounds_toArray, List.set_cons_zero, List.set_cons_succ])
      refine take_first (v := ?_) 5 rfl (by kernel_rfl) (by kernel_rfl) (by kernel_rfl) (fun _ _ _ h => h) (Or.inl ⟨by rfl, ?_⟩) (by assumption) ?_
      rotate_left
      · (intro w hSw; (try dsimp only at hSw); go_simp; try with_reducible rfl)
      (try simp only [Act.put, List.setIfInBounds_toArray, List.set_cons_zero, List.set_cons_succ])
      refine take_first (v := ?_) 6 rfl (by kernel_rfl) (by kernel_rfl) (by kernel_rfl) (fun _ _ _ h => h) (Or.inl ⟨by rfl, ?_⟩) (by assumption) ?_
      rotate_left
      · (intro w hSw; (try dsimp only at hSw); go_simp; try with_reducible rfl)
      (try simp only [Act.put, List.setIfInBounds_toArray, List.set_cons_zero, List.set_cons_succ])
      refine take_first (v := ?_) 7 rfl (by kernel_rfl) (by kernel_rfl) (by kernel_rfl) (fun _ _ _ h => h) (Or.inl ⟨by rfl, ?_⟩) (by assumption) ?_
      rotate_left
      · (intro w hSw; (try dsimp only at hSw); have s := sl_l A n c j HJ.out w; go_simp; try with_reducible rfl)
      (try simp only [Act.put, List.setIfInBounds_toArray, List.set_cons_zero, List.set_cons_succ])
      refine take_first (v := ?_) 10 rfl (by kernel_rfl) (by kernel_rfl) (by kernel_rfl) (fun _ _ _ h => h) (Or.inl ⟨by rfl, ?_⟩) (by assumption) ?_
      rotate_left
      · (intro w hSw; (try dsimp only at hSw); go_simp; try with_reducible rfl)
      (try simp only [Act.put, List.setIfInBounds_toArray, List.set_cons_zero, List.set_cons_succ])
      refine take_first (v := ?_) 11 rfl (by kernel_rfl) (by kernel_rfl) (by kernel_rfl) (fun _ _ _ h => h) (Or.inl ⟨by rfl, ?_⟩) (by assumption) ?_
      rotate_left
      · (intro w hSw; (try dsimp only at hSw); have fb := idx_at (Lows.blk hSw 0 rfl).all; go_simp; try with_reducible rfl)
      (try simp only [Act.put, List.setIfInBounds_toArray, List.set_cons_zero, List.set_cons_succ])
      refine step_one 4 rfl (by kernel_rfl) (fun K hK => ?_)
      clear hHeld
      refine step_buildOne rfl 23 34 (.tmp 28) rfl sn rfl 34 Try.underlying23 ik HKI.out.1 HKI.out.2.2.1 _ HKI.out.2.1 (by omega) (by omega) (by rw [← HSN.out, List.size_toArray, SlotM.cells_length HSO.out]) ?_
      have hm9 := HM.out.alloc 34 sn (SlotM.mk m k b).cells HSN.out.symm
      generalize wd1.alloc (.cells sn 34) = wy2 at hm9 ⊢
      generalize wd1.heap.size = g1 at hm9 ⊢
      replace HM := Lib.hid (show Lows w [blkL g1 34 (SlotM.mk m k b).cells, blkL g8 34 (SlotM.mk m k b).cells, blkL w.heap.size 26 (k.map u8v), slL A n l] wy2 from hm9)
      clear hm9
      refine hK.out _ _ (HM.out.tail 0) (fun hHeld => ?_)
      clear hK K
      (try simp only [Act.put, List.setIfInBounds_toArray, List.set_cons_zero, List.set_cons_succ])
      refine wpAnyH_stronger (T := fun W' => Lows w [blkL g1 34 (SlotM.mk m k b).cells, blkL g8 34 (SlotM.mk m k b).cells, blkL w.heap.size 26 (k.map u8v), slL A n l] W') (fun _ h' => (h'.tail 0)) _ _ _ _ ?_
      replace hHeld := HM.out
      refine step_one 8 rfl (by kernel_rfl) (fun K hK => ?_)
      clear hHeld
      go_simp
      have hm9 := HM.out.alloc 23 #[.slice (addrK A 0 c 34) j c, .slice (some ⟨g1, 0, none⟩) 1 1, .slice (addrK A j c 34) (n - j) (c - j)] (catS A n c j g1) rfl
      generalize wy2.alloc (.cells #[.slice (addrK A 0 c 34) j c, .slice (some ⟨g1, 0, none⟩) 1 1, .slice (addrK A j c 34) (n - j) (c - j)] 23) = wy3 at hm9 ⊢
      generalize wy2.heap.size = g2 at hm9 ⊢
      replace HM := Lib.hid (show Lows w [blkL g2 23 (catS A n c j g1), blkL g1 34 (SlotM.mk m k b).cells, blkL g8 34 (SlotM.mk m k b).cells, blkL w.heap.size 26 (k.map u8v), slL A n l] wy3 from hm9)
      clear hm9
      refine hK.out _ _ (HM.out.tail 0) (fun hHeld => ?_)
      clear hK K
      (try simp only [Act.put, List.setIfInBounds_toArray, List.set_cons_zero, List.set_cons_succ])
      refine wpAnyH_stronger (T := fun W' => Lows w [blkL g2 23 (catS A n c j g1), blkL g1 34 (SlotM.mk m k b).cells, blkL g8 34 (SlotM.mk m k b).cells, blkL w.heap.size 26 (k.map u8v), slL A n l] W') (fun _ h' => (h'.tail 0)) _ _ _ _ ?_
      replace hHeld := HM.out
      refine step_one 9 rfl (by kernel_rfl) (fun K hK => ?_)
      clear hHeld
      go_simp
      refine (catS_any A n c j l (SlotM.mk m k b) hn HNC.out.1 HJ.out HSO.out g1 g2 23 _ (HM.out.get (f := slL A n l) 4 rfl) (HM.out.blk 1 rfl) (HM.out.blk 0 rfl)).mono ?_
      rintro e wy4 ⟨A7, c7, rfl, hr7, hc7, hb⟩
      replace HM := Lib.hid (show Lows w [slL A7 (j + (1 + (n - j))) (l.take j ++ SlotM.mk m k b :: l.drop j), blkL g2 23 (catS A n c j g1), blkL g1 34 (SlotM.mk m k b).cells, blkL g8 34 (SlotM.mk m k b).cells, blkL w.heap.size 26 (k.map u8v), slL A n l] wy4 from (HM.out.below hb).cons (slL A7 (j + (1 + (n - j))) (l.take j ++ SlotM.mk m k b :: l.drop j)) (hr7))
      clear hb
      have HC7 := Lib.hid hc7
      clear hc7 hr7
      go_wp2_with fail
      refine hK.out _ _ (HM.out.tail 0) (fun hHeld => ?_)
      clear hK K
      (try simp only [Act.put, List.setIfInBounds_toArray, List.set_cons_zero, List.set_cons_succ])
      refine wpAnyH_stronger (T := fun W' => Lows w [slL A7 (j + (1 + (n - j))) (l.take j ++ SlotM.mk m k b :: l.drop j), blkL g2 23 (catS A n c j g1), blkL g1 34 (SlotM.mk m k b).cells, blkL g8 34 (SlotM.mk m k b).cells, blkL w.heap.size 26 (k.map u8v), slL A n l] W') (fun _ h' => (h'.tail 0)) _ _ _ _ ?_
      replace hHeld := HM.out
      refine take_first (v := ?_) 12 rfl (by kernel_rfl) (by kernel_rfl) (by kernel_rfl) (fun _ _ _ h => h) (Or.inl ⟨by rfl, ?_⟩) (by assumption) ?_
      rotate_left
      · (intro w hSw; (try dsimp only at hSw); go_simp; try with_reducible rfl)
      (try simp only [Act.put, List.setIfInBounds_toArray, List.set_cons_zero, List.set_cons_succ])
      refine take_first (v := ?_) 13 rfl (by kernel_rfl) (by kernel_rfl) (by kernel_rfl) (fun _ _ _ h => h) (Or.inl ⟨by rfl, ?_⟩) (by assumption) ?_
      rotate_left
      · (intro w hSw; (try dsimp only at hSw); go_simp; try with_reducible rfl)
      (try simp only [Act.put, List.setIfInBounds_toArray, List.set_cons_zero, List.set_cons_succ])
      refine take_first (v := ?_) 14 rfl (by kernel_rfl) (by kernel_rfl) (by kernel_rfl) (fun _ _ _ h => h) (Or.inl ⟨by rfl, ?_⟩) (by assumption) ?_
      rotate_left
      · (intro w hSw; (try dsimp only at hSw); go_simp; try with_reducible rfl)
      (try simp only [Act.put, List.setIfInBounds_toArray, List.set_cons_zero, List.set_cons_succ])
      refine wpAnyH_done (by kernel_rfl) ?_ _
      clear hHeld
      have HF := Lib.hid (And.intro (HM.out.get (f := slL A7 (j + (1 + (n - j))) (l.take j ++ SlotM.mk m k b :: l.drop j)) 0 rfl) HM.out.bel)
      clear HM
      go_wp2_with fail
      go_ret3
      rw [HRES.out]
      exact ⟨_, rfl, A7, c7, by rw [HLEN.out]; rfl, by rw [HLEN.out]; exact HC7.out.1, HC7.out.2, by rw [HLEN.out]; exact HF.out.1, HF.out.2⟩
end Go.Proofs.Ytboeeopgghldnaa
namespace Go.Proofs.Ytboeeopgghldnaa
open Go.RowKit

theorem ix_limits_walk_all (w : World) (k : List UInt8) (hk : k.length = 32) :
    Calls Try.prog 5 #[.agg (k.map u8v).toArray] w fun e w' => e = .returned (.bool true) ∧ Below w.heap.size w w' :=
  ix_limits_walk ixTakeC w k hk
end Go.Proofs.Ytboeeopgghldnaa
