/-
  The example of the chapter on the index table: begun of the laws. Rows of keys: a slice built of one key, and the append of one key to a row of the call's own. Words for lists of structs that grow by append. The contract of the reference's FindSlot. The mathematics of Take: the first free number, the place of a slot. The builtin max of two numbers. Rows of objects: pieces of them, and the append of a row of objects to another one. No function of the program is named here. Words for lists of objects of one size that a slice holds: the first one for which a predicate holds, a place that is written, a predicate that is handed on. No function of the program is named here. The elements of type burrow/api.Slot: size, zero value, pieces of their slices. The contract of the reference's Take. Tables that are made of choices. No function of the program is named here. What a walk keeps of the memory that it has made, where the call changes one block of its caller's. The contracts of the choices that the statements are made of: Left, Next. A row that was made is a block; bytes that were read stay. The choices that the statements are made of, at a world. The choices that the statements are made of: Bool. Pieces of a slice of bytes whose address is not known: what x[i:j] and x[i:] give, and what they read as. The choices that the statements are made of: New. Rows of objects, where one block is written. The contract of the laws' made. No statement is proved here.
-/
import Derived.RegionTactic
import Derived.Deep.DeepCutAuto
import Derived.Maps.AppendAt
import Derived.Laws.AppendOwnNone
import Derived.Lib.AppendZerosOnto
import Derived.Deep.LoopGhost
import Derived.Outline
import Derived.Test.YtboeeopgghldnaaIndexTablesB1
namespace Go.Proofs.Ytboeeopgghldnaa
open Go.RowKit

def key0 : List UInt8 := List.replicate 32 0
def ib0 : List SlotM := [⟨5, key0, false⟩, ⟨6, key0, false⟩]
def ib1 : List SlotM := (takeM ib0 4294967295 key0 false).1
def ib2 : List SlotM := (takeM ib0 5 key0 false).1
def ib3 : List SlotM := (takeM ib1 4294967295 key0 false).1
theorem ib_a : takeM ib0 5 key0 false = (ib2, 7, 0) := by kernel_rfl
theorem ib_b : takeM ib0 4294967295 key0 false = (ib1, 4294967295, 0) := by kernel_rfl
theorem ib_c : takeM ib1 4294967295 key0 false = (ib3, 1, 0) := by kernel_rfl
theorem ib1_len : ib1.length = 3 := by kernel_rfl
theorem ib2_len : ib2.length = 3 := by kernel_rfl
theorem ib3_len : ib3.length = 4 := by kernel_rfl
theorem ib0_ok : ∀ s ∈ ib0, s.ok := by
  intro s hs
  simp only [ib0, List.mem_cons, List.not_mem_nil, or_false] at hs
  rcases hs with rfl | rfl <;> exact ⟨by decide, rfl⟩
set_option maxRecDepth 100000 in
set_option maxHeartbeats 8000000 in
theorem ix_begun_any (HT : IxTakeC 7) (w : World) : Calls Try.prog 18 #[] w fun e w' => e = .returned (.bool true) ∧ Below w.heap.size w w' := by
  have t1 := take_use HT ib_a ib2_len (n := 2) (by omega) (by omega) rfl
  have t2 := take_use HT ib_b ib1_len (n := 2) (by omega) (by omega) rfl
  have t3 := take_use HT ib_c ib3_len (n := 3) (by omega) (by omega) rfl
  have bk : Try.prog.built 26 [] = some (key0.map u8v).toArray := by kernel_rfl
  have b5 : Try.prog.built 34 [(0, .int .u32 5)] = some ((SlotM.mk 5 key0 false).cells).toArray := by kernel_rfl
  have b6 : Try.prog.built 34 [(0, .int .u32 6)] = some ((SlotM.mk 6 key0 false).cells).toArray := by kernel_rfl
  obtain ⟨k0, hk0⟩ : ∃ z, (key0.map u8v).toArray = z := ⟨_, rfl⟩
  obtain ⟨s5, hs5⟩ : ∃ z, ((SlotM.mk 5 key0 false).cells).toArray = z := ⟨_, rfl⟩
  obtain ⟨s6, hs6⟩ : ∃ z, ((SlotM.mk 6 key0 false).cells).toArray = z := ⟨_, rfl⟩
  rw [hk0] at t1 t2 t3 bk
  rw [hs5] at b5
  rw [hs6] at b6
  have HT1 := Lib.hid t1
  have HT2 := Lib.hid t2
  have HT3 := Lib.hid t3
  have HBK := Lib.hid bk
  have HB5 := Lib.hid b5
  have HB6 := Lib.hid b6
  have HE := Lib.hid (show ([(0, Value.agg s5), (1, Value.agg s6)] : List (Nat × Value)) = ((slsV ib0).zipIdx 0).map fun x => (x.2, Value.agg x.1.toArray) from by rw [← hs5, ← hs6]; rfl)
  obtain ⟨ik, hik, hiz, his, hib⟩ := slotInfo
  have HKI := Lib.hid (And.intro hik (And.intro hiz (And.intro his hib)))
  clear HT t1 t2 t3 bk b5 b6 hk0 hs5 hs6 hik hiz his hib
  go_enter Try.func18, Try.ntmps18
  go_upto_region 2 with (first | (refine wpList_build_as rfl 34 [(0, .const (.int .u32 5))] rfl s5 ?_ ?_; exact HB5.out) | (refine wpList_build_as rfl 34 [(0, .const (.int .u32 6))] rfl s6 ?_ ?_; exact HB6.out) | (refine wpList_buildRows rfl 23 34 2 [(0, .tmp 11), (1, .tmp 12)] rfl (slsV ib0) rfl HE.out 34 Try.underlying23 ik HKI.out.1 HKI.out.2.2.1 _ HKI.out.2.1 (by omega) (by omega) (by omega) (fun r hr => by obtain ⟨s, hs, rfl⟩ := List.mem_map.1 hr; exact SlotM.cells_length (ib0_ok s hs)) ?_))
  have hblk : Blk (w.alloc (.cells (slsV ib0).flatten.toArray 34)) w.heap.size 34 (slsV ib0).flatten := Blk.new w 34 _
  have hr0 : SlRd (w.alloc (.cells (slsV ib0).flatten.toArray 34)) (w.alloc (.cells (slsV ib0).flatten.toArray 34)).heap.size (some ⟨w.heap.size, 0, none⟩) 2 ib0 :=
    ⟨⟨rfl, fun r hr => by obtain ⟨s, hs, rfl⟩ := List.mem_map.1 hr; exact SlotM.cells_length (ib0_ok s hs), fun _ => ⟨w.heap.size, 0, rfl, hblk.lt, fun q v hq => by rw [Nat.zero_add, hblk.cell]; exact hq⟩⟩, ib0_ok⟩
  have HM := Lib.hid (((Lows.nil w).below ((Below.refl _ _).alloc (Nat.le_refl _) (.cells (slsV ib0).flatten.toArray 34))).cons (slL (some ⟨w.heap.size, 0, none⟩) 2 ib0) hr0)
  generalize w.alloc (.cells (slsV ib0).flatten.toArray 34) = w1 at HM ⊢
  have HC2 := Lib.hid (show CapIx 2 2 from ⟨by omega, by unfold maxLen; omega⟩)
  clear hblk hr0
  go_wp2_with (refine wpList_build_as rfl 26 [] rfl k0 ?_ ?_; exact HBK.out)
  refine (HT1.out _ 2 _ HC2.out (HM.out.get (f := slL _ 2 ib0) 0 rfl)).mono ?_
  rintro e w2 ⟨A1, c1, rfl, hc, hr, hb⟩
  replace HM := Lib.hid ((HM.out.below hb).cons (slL A1 3 ib2) hr)
  have Hc1 := Lib.hid hc
  clear hc hr hb
  go_wp2_with (refine wpList_build_as rfl 26 [] rfl k0 ?_ ?_; exact HBK.out)
  refine (HT2.out _ 2 _ HC2.out (HM.out.get (f := slL _ 2 ib0) 1 rfl)).mono ?_
  rintro e w3 ⟨A2, c2, rfl, hc, hr, hb⟩
  replace HM := Lib.hid ((HM.out.below hb).cons (slL A2 3 ib1) hr)
  have Hc2 := Lib.hid hc
  clear hc hr hb
  go_wp2_with (refine wpList_build_as rfl 26 [] rfl k0 ?_ ?_; exact HBK.out)
  refine (HT3.out _ c2 _ Hc2.out (HM.out.get (f := slL _ 3 ib1) 0 rfl)).mono ?_
  rintro e w4 ⟨A3, c3, rfl, hc, hr, hb⟩
  replace HM := Lib.hid ((HM.out.below hb).cons (slL A3 4 ib3) hr)
  have Hc3 := Lib.hid hc
  clear hc hr hb
  have HF := Lib.hid HM.out.bel
  clear HM
  go_wp2
  go_ret
  exact ⟨rfl, HF.out⟩
end Go.Proofs.Ytboeeopgghldnaa
namespace Go.Proofs.Ytboeeopgghldnaa
open Go.RowKit

theorem fill_one (n : Nat) (base a : Array Value) (hb : base.size = n) (ha : a.size = n) :
    Instr.fill (fun i => some (i * n, n)) base [(0, .agg a)] = some a := by
  have hA : (a.zipIdx.foldl (fun cs (x : Value × Nat) => cs.setIfInBounds (0 * n + x.2) x.1) base).toList = base.toList.take (0 * n) ++ a.toList ++ base.toList.drop (0 * n + a.size) := by
    have := foldl_set_list (0 * n) a.toList 0 base (by simp; omega)
    rw [← Array.foldl_toList]
    simpa using this
  refine (if_neg (two_tests (fun hne => hne ha) (fun hlt : 0 * n + a.size > base.size => by omega))).trans ?_
  refine congrArg some (Array.ext' (hA.trans ?_))
  have e0 : List.drop (0 * n + a.size) base.toList = [] := List.drop_eq_nil_of_le (by simp; omega)
  rw [e0]
  simp
theorem step_buildOne {P : Program} {w : World} {ops : Array Oper} {o : Oper} {act : Act} {K : Act → World → Prop} {Q : Exit → Act → World → Prop} {E : Prop} (hgd : o.guard = none) (ty e : TypeId) (x : Operand) (ho : o.op = .buildSlice ty 1 #[(0, x)])
    (a : Array Value) (hx : act.eval x = .agg a) (n : Nat) (hu : P.underlying ty = some (.slice e)) (i : TypeInfo) (hi : P.info? e = some i) (hs : i.size = n) (z : Value) (hz : i.zero = some z) (hn0 : 0 < n) (hn1 : n ≤ 1000) (ha : a.size = n)
    (h : K (act.put o.dst (.slice (some ⟨w.heap.size, 0, none⟩) 1 1)) (w.alloc (.cells a e))) : if Region.wanted o (yielded ops act.tmps) = true then Oper.wp P o act w K Q else E := by
  have hw : Region.wanted o (yielded ops act.tmps) = true := by simp [Region.wanted, hgd]
  rw [if_pos hw]
  unfold Oper.wp execOp
  have hf := fun z : Array Value => fill_one n ((Array.range n).map (z[· % z.size]!)) a (by simp) ha
  have h24 : ¬ n > 2 ^ 24 := by omega
  have h20 : ¬ n = 0 := by omega
  simp only [ho, Instr.buildSlice, Sem.run_bind, run_underlying hu, sizeOf, zeroValue, typeInfo, Result.andThen_ok]
  simp [hi, hs, hz, hf, h24, h20, newRow, hx]
  exact h
end Go.Proofs.Ytboeeopgghldnaa
namespace Go.Proofs.Ytboeeopgghldnaa
open Go.RowKit

theorem wpList_buildOne {P : Program} {w : World} {ops : Array Oper} {rest : List Oper} {o : Oper} {act : Act} {Q : Exit → Act → World → Prop} (hgd : o.guard = none) (ty e : TypeId) (x : Operand) (ho : o.op = .buildSlice ty 1 #[(0, x)])
    (a : Array Value) (hx : act.eval x = .agg a) (n : Nat) (hu : P.underlying ty = some (.slice e)) (i : TypeInfo) (hi : P.info? e = some i) (hs : i.size = n) (z : Value) (hz : i.zero = some z) (hn0 : 0 < n) (hn1 : n ≤ 1000) (ha : a.size = n)
    (h : wpList P ops Q rest (act.put o.dst (.slice (some ⟨w.heap.size, 0, none⟩) 1 1)) (w.alloc (.cells a e))) : wpList P ops Q (o :: rest) act w :=
  wpList_step fun _ hK => step_buildOne hgd ty e x ho a hx n hu i hi hs z hz hn0 hn1 ha (hK _ _ h)
theorem setL_all (old cs : List Value) (h : cs.length = old.length) : setL old 0 cs = cs := by
  rw [setL, List.take_zero, List.nil_append, Nat.zero_add, h, List.drop_length, List.append_nil]
theorem take_snoc {α : Type} {l : List α} {j : Nat} {r : α} (h : l[j]? = some r) : l.take (j + 1) = l.take j ++ [r] := by rw [List.take_add_one, h]; rfl
/-- an object in a block that was just laid and then written: all that was there ahead is as it was -/
theorem below_fresh {w w' : World} {o : Obj} (hg : (w.alloc o).grownBy w' (some w.heap.size)) : Below w.heap.size w w' :=
  ((Below.refl w.heap.size w).alloc (Nat.le_refl _) o).grown hg (by simp) (fun k hk => by injection hk with hk; omega)
end Go.Proofs.Ytboeeopgghldnaa
namespace Go.Proofs.Ytboeeopgghldnaa
open Go.RowKit

set_option maxRecDepth 100000 in
set_option maxHeartbeats 8000000 in
theorem refFind_any : IxFindC 10 := by
  intro A n c l i w hi harg
  have hn := harg.1
  have HA := Lib.hid harg.2.2.2
  have HM := Lib.hid (show Mem w [blkE w.heap.size 34 slotZ] (w.alloc (.cells #[.int .u32 0, .int .u8 0, .int .u8 0, .int .u8 0, .int .u8 0, .int .u8 0, .int .u8 0, .int .u8 0, .int .u8 0, .int .u8 0, .int .u8 0, .int .u8 0, .int .u8 0, .int .u8 0, .int .u8 0, .int .u8 0, .int .u8 0, .int .u8 0, .int .u8 0, .int .u8 0, .int .u8 0, .int .u8 0, .int .u8 0, .int .u8 0, .int .u8 0, .int .u8 0, .int .u8 0, .int .u8 0, .int .u8 0, .int .u8 0, .int .u8 0, .int .u8 0, .int .u8 0, .bool false] 34)) from (Mem.nil w).alloc rfl 34 #[.int .u32 0, .int .u8 0, .int .u8 0, .int .u8 0, .int .u8 0, .int .u8 0, .int .u8 0, .int .u8 0, .int .u8 0, .int .u8 0, .int .u8 0, .int .u8 0, .int .u8 0, .int .u8 0, .int .u8 0, .int .u8 0, .int .u8 0, .int .u8 0, .int .u8 0, .int .u8 0, .int .u8 0, .int .u8 0, .int .u8 0, .int .u8 0, .int .u8 0, .int .u8 0, .int .u8 0, .int .u8 0, .int .u8 0, .int .u8 0, .int .u8 0, .int .u8 0, .int .u8 0, .bool false] slotZ rfl)
  have HS0 := Lib.hid (show (Try.prog.info? 34).map (·.size) = some slotZ.length from by rw [slotZ_length]; kernel_rfl)
  clear harg
  go_enter Try.func10, Try.ntmps10
  go_upto_region 1 with fail
  generalize w.alloc (.cells #[.int .u32 0, .int .u8 0, .int .u8 0, .int .u8 0, .int .u8 0, .int .u8 0, .int .u8 0, .int .u8 0, .int .u8 0, .int .u8 0, .int .u8 0, .int .u8 0, .int .u8 0, .int .u8 0, .int .u8 0, .int .u8 0, .int .u8 0, .int .u8 0, .int .u8 0, .int .u8 0, .int .u8 0, .int .u8 0, .int .u8 0, .int .u8 0, .int .u8 0, .int .u8 0, .int .u8 0, .int .u8 0, .int .u8 0, .int .u8 0, .int .u8 0, .int .u8 0, .int .u8 0, .bool false] 34) = w1 at HM ⊢
  go_wp2_with fail
  go_loopw [10] (fun v wr => ∃ j : Nat, j ≤ n ∧ v = .int .i64 (j : Int) ∧ (∀ (q : Nat) s, q < j → l[q]? = some s → (s.idx == i) = false) ∧ Mem w [blkE w.heap.size 34 slotZ] wr) (fun v _ => n - (intOf v).toNat)
  case atStart => exact ⟨0, Nat.zero_le _, rfl, fun q _ h => absurd h (Nat.not_lt_zero _), HM.out⟩
  case round =>
    clear HM
    obtain ⟨j, hj, rfl, hno, hM⟩ := hrel
    have HM := Lib.hid hM
    have HNO := Lib.hid hno
    have HBL := Lib.hid hM.bel
    clear hM hno
    by_cases hjn : j < n
    · have d1 : decide ((j : Int) < (n : Int)) = true := by simp; omega
      obtain ⟨b, off, rfl⟩ := HA.out.1.addr (by omega)
      obtain ⟨s, hs⟩ : ∃ s, l[j]? = some s := ⟨l[j]'(by rw [HA.out.len]; exact hjn), List.getElem?_eq_getElem _⟩
      have HOK := Lib.hid (HA.out.ok hs)
      have hat := HA.out.at j s hs
      have HLA := Lib.hid (hat.2.mono HBL.out hat.1)
      have HJS := Lib.hid hs
      obtain ⟨sc, hsc⟩ : ∃ z, s.cells.toArray = z := ⟨_, rfl⟩
      have HSC := Lib.hid hsc
      clear hat hs hsc
      have HZ := Lib.hid (Blk.new wr 34 slotZ)
      go_upto_region 4 with (first | (refine wpList_load_obj rfl 34 (.tmp 12) rfl b _ rfl s.cells HLA.out _ Try.underlying34 rfl (slot_cellsOf s HOK.out) ?_; rw [HSC.out]) | (refine wpList_store_obj rfl 34 (.tmp 7) (.tmp 13) rfl wr.heap.size 0 s.cells rfl (by show Value.agg sc = _; rw [HSC.out]) 34 slotZ HZ.out (slot_cellsOf s HOK.out) (by rw [SlotM.cells_length HOK.out, slotZ_length]; omega) (slot_one s) ?_; intro w4 hb4 hg4))
      rw [setL_all slotZ s.cells (by rw [SlotM.cells_length HOK.out, slotZ_length])] at hb4
      have HM4 := Lib.hid (HM.out.below (below_fresh hg4))
      have HP := Lib.hid hb4
      clear hb4 hg4 HM HZ d1 HLA HBL
      generalize wr.heap.size = P1 at HP ⊢
      have fx := idx_at HP.out.all
      obtain ⟨y, hy⟩ : ∃ y, (s.idx == i) = y := ⟨_, rfl⟩
      have heq : ((s.idx : Int) == (i : Int)) = y := by rw [← hy, Bool.eq_iff_iff, beq_iff_eq, beq_iff_eq]; omega
      have HY := Lib.hid hy
      clear hy
      cases y with
      | true =>
        have HR := Lib.hid (findS_some HJS.out HY.out HNO.out)
        go_wp2_with (first | (refine wpList_load_obj rfl 34 (.tmp 7) rfl P1 0 rfl s.cells HP.out.all _ Try.underlying34 rfl (slot_cellsOf s HOK.out) ?_; rw [HSC.out]) | (refine wpList_store_obj rfl 34 (.tmp 4) (.tmp 18) rfl w.heap.size 0 s.cells rfl (by show Value.agg sc = _; rw [HSC.out]) 34 slotZ (HM4.out.blk 0 rfl) (slot_cellsOf s HOK.out) (by rw [SlotM.cells_length HOK.out, slotZ_length]; omega) (slot_one s) ?_; intro w9 hb9 hg9))
        rw [setL_all slotZ s.cells (by rw [SlotM.cells_length HOK.out, slotZ_length])] at hb9
        exact bodyPost_ret (results_obj_tmp rfl _ _ w.heap.size 34 s.cells _ rfl hb9 Try.underlying34 rfl (slot_cellsOf s HOK.out)) rfl ⟨by rw [HR.out]; rfl, (HM4.out.put 0 rfl _ hg9 hb9).bel⟩
      | false =>
        go_wp2_with fail
        go_roundw
        case rel => exact ⟨j + 1, by omega, by go_num, fun q x hq hx => by
          rcases Nat.lt_or_ge q j with h | h
          · exact HNO.out q x h hx
          · obtain rfl : q = j := by omega
            have e := HJS.out.symm.trans hx
            injection e with e
            rw [← e]
            exact HY.out, HM4.out⟩
        case measure => simp [intOf]; omega
    · obtain rfl : n = j := by omega
      have d1 : decide ((n : Int) < (n : Int)) = false := by simp
      have HR := Lib.hid (show findS l i = (slot0, false) from findS_none fun q s hs => HNO.out q s (by rw [← HA.out.len]; exact (List.getElem?_eq_some_iff.1 hs).1) hs)
      clear HNO HBL
      go_wp2_with (first | (refine wpList_build_as rfl 34 [] rfl #[.int .u32 0, .int .u8 0, .int .u8 0, .int .u8 0, .int .u8 0, .int .u8 0, .int .u8 0, .int .u8 0, .int .u8 0, .int .u8 0, .int .u8 0, .int .u8 0, .int .u8 0, .int .u8 0, .int .u8 0, .int .u8 0, .int .u8 0, .int .u8 0, .int .u8 0, .int .u8 0, .int .u8 0, .int .u8 0, .int .u8 0, .int .u8 0, .int .u8 0, .int .u8 0, .int .u8 0, .int .u8 0, .int .u8 0, .int .u8 0, .int .u8 0, .int .u8 0, .int .u8 0, .bool false] ?_ ?_; kernel_rfl) | (refine wpList_store_obj rfl 34 (.tmp 4) (.tmp 20) rfl w.heap.size 0 slotZ rfl (by rfl) 34 slotZ (HM.out.blk 0 rfl) HS0.out (by rw [slotZ_length]; omega) (slot_one slot0) ?_; intro w9 hb9 hg9))
      rw [setL_all slotZ slotZ rfl] at hb9
      exact bodyPost_ret (results_obj_tmp rfl _ _ w.heap.size 34 slotZ _ rfl hb9 Try.underlying34 rfl HS0.out) rfl ⟨by rw [HR.out]; rfl, (HM.out.put 0 rfl _ hg9 hb9).bel⟩
end Go.Proofs.Ytboeeopgghldnaa
namespace Go.Proofs.Ytboeeopgghldnaa
open Go.RowKit

theorem free_is {l : List SlotM} {n i : Nat} (hi : i < 33) (h : takenM l (nthI n i) = false) (hn : ∀ j, j < i → takenM l (nthI n j) = true) : freeM l n = nthI n i := by
  have e : (List.range 33).find? (fun i => !takenM l (nthI n i)) = some i := by
    rw [List.find?_eq_some_iff_getElem]
    refine ⟨by simp only [h]; rfl, i, by simpa using hi, by simp, fun j hj => ?_⟩
    rw [List.getElem_range, hn j hj]
    rfl
  rw [freeM, e]
  rfl
theorem all_taken {l : List SlotM} {n i : Nat} (hi : i < 90) (h : ∀ j, j < i → takenM l (nthI n j) = true) : i ≤ l.length := by
  have := pigeon ((List.range i).map (nthI n)) l (by
    rw [List.nodup_iff_pairwise_ne, List.pairwise_map]
    refine List.Pairwise.imp_of_mem ?_ (List.nodup_iff_pairwise_ne.1 List.nodup_range)
    intro a b ha hb hne he
    rw [List.mem_range] at ha hb
    exact hne (nthI_inj (by omega) (by omega) he)) (fun m hm => by
    obtain ⟨j, hj, rfl⟩ := List.mem_map.1 hm
    exact h j (List.mem_range.1 hj))
  simpa using this
theorem findS_ok {l : List SlotM} (h : ∀ s ∈ l, s.ok) (n : Nat) : (findS l n).1.ok := by
  unfold findS
  cases hf : l.find? (fun s => s.idx == n) with
  | none => exact slot0_ok
  | some s => exact h s (List.mem_of_find?_eq_some hf)
theorem aboveM_le (n : Nat) (l : List SlotM) : aboveM n l ≤ l.length := (List.takeWhile_sublist _).length_le
theorem aboveM_step (n : Nat) : ∀ (l : List SlotM) (i : Nat), i ≤ aboveM n l → ∀ s, l[i]? = some s → (s.idx < n → i + 1 ≤ aboveM n l) ∧ (¬ s.idx < n → aboveM n l = i)
  | [], _, _, s, hs => by simp at hs
  | a :: l, 0, _, s, hs => by
    simp only [List.getElem?_cons_zero, Option.some.injEq] at hs
    subst hs
    unfold aboveM
    constructor
    · intro h
      rw [List.takeWhile_cons, if_pos (by simpa using h)]
      simp
    · intro h
      rw [List.takeWhile_cons, if_neg (by simpa using h)]
      rfl
  | a :: l, i + 1, hi, s, hs => by
    have hb : a.idx < n := by
      by_cases h : a.idx < n
      · exact h
      · rw [aboveM, List.takeWhile_cons, if_neg (by simpa using h)] at hi
        simp at hi
    have e : aboveM n (a :: l) = aboveM n l + 1 := by
      rw [aboveM, List.takeWhile_cons, if_pos (by simpa using hb)]
      rfl
    have := aboveM_step n l i (by omega) s (by simpa using hs)
    exact ⟨fun h => by have := this.1 h; omega, fun h => by have := this.2 h; omega⟩
theorem slot_built (s : SlotM) (h : s.ok) : Try.prog.built 34 [(0, .int .u32 (s.idx : Int)), (1, .agg (s.peer.map u8v).toArray), (2, .bool s.sess)] = some s.cells.toArray := by
  rw [built_of 34 [1, 32, 1] [[.int .u32 0], aeZ 32, [.bool false]] (by kernel_rfl) #[(0, 1), (1, 32), (33, 1)] (fun parts => by kernel_rfl) (fun i h => by
    match i, h with
    | 0, _ => rfl
    | 1, _ => rfl
    | 2, _ => rfl
    | i + 3, h => exact absurd h (by simp)) _ (fun p hp => by
    simp only [List.mem_cons, List.not_mem_nil, or_false] at hp
    rcases hp with rfl | rfl | rfl
    · rfl
    · simp [Value.cells, h.2]
    · rfl)]
  simp [SlotM.cells, Value.cells]
end Go.Proofs.Ytboeeopgghldnaa
namespace Go.Proofs.Ytboeeopgghldnaa
open Go.RowKit

theorem wpList_max_k {P : Program} {w : World} {ops : Array Oper} {rest : List Oper} {o : Oper} {a : Act} {Q : Exit → Act → World → Prop} (hgd : o.guard = none) (x y : Operand) (ts : Array TypeId) (ho : o.op = .call { callee := .builtin .max, args := #[x, y], argTypes := ts })
    (k : IntKind) (u v m : Int) (hx : a.eval x = .int k u) (hy : a.eval y = .int k v) (hm : max u v = m) (h : wpList P ops Q rest (a.put o.dst (.int k m)) w) : wpList P ops Q (o :: rest) a w :=
  wpList_plain hgd fun K hK => by
    have hr : (Builtin.max_ ts o.type #[.int k u, .int k v]).run P w = .ok (.int k m) w := by
      subst hm
      by_cases huv : v ≤ u
      · rw [Int.max_eq_left huv]
        simp [Builtin.max_, Builtin.max2]
        try omega
      · rw [Int.max_eq_right (by omega)]
        simp [Builtin.max_, Builtin.max2]
        try omega
    unfold Oper.wp execOp
    simp only [ho, resolve, invoke, builtin, Sem.run_bind, Sem.run_pure, Result.andThen_ok, List.map_toArray, List.map_cons, List.map_nil, hx, hy, hr]
    exact hK _ _ h
end Go.Proofs.Ytboeeopgghldnaa
namespace Go.Proofs.Ytboeeopgghldnaa
open Go.RowKit

/-- the address behind i objects of k cells, as the model keeps it -/
def addrK (A : Option Addr) (i c k : Nat) : Option Addr := if c = i then A else A.map (·.add (i * k))
theorem RdRow.behind {W : World} {B k n : Nat} {A : Option Addr} {os : List (List Value)} (h : RdRow W B A k n os) (i c : Nat) (hi : i ≤ n) (hc : n ≤ c) : RdRow W B (addrK A i c k) k (n - i) (os.drop i) := by
  unfold addrK
  rcases Nat.eq_zero_or_pos (n - i) with h0 | h0
  · rw [h0, List.drop_of_length_le (by have := h.1; omega)]
    exact RdRow.nil
  · obtain ⟨b, off, rfl⟩ := h.addr (by omega)
    rw [if_neg (by omega), Option.map_some, Go.WideShapes.add_plain]
    exact h.drop i hi
theorem RdRow.src {W : World} {B k n : Nat} {os : List (List Value)} {ad : Addr} (h : RdRow W B (some ad) k n os) : ∀ j u, os.flatten[j]? = some u → W.cell? (ad.add j) = some u := by
  intro j u hj
  rcases Nat.eq_zero_or_pos n with h0 | h0
  · have : os = [] := List.eq_nil_of_length_eq_zero (by rw [h.1, h0])
    subst this
    simp at hj
  · obtain ⟨b, off, e, _, hc⟩ := h.2.2 h0
    injection e with e
    subst e
    rw [Go.WideShapes.add_plain]
    exact hc j u hj
theorem RdRow.len {W : World} {B k n : Nat} {A : Option Addr} {os : List (List Value)} (h : RdRow W B A k n os) : os.flatten.length = n * k := by rw [flat_length h.2.1, h.1]
theorem run_append_rows_none {P : Program} {w : World} (base : Nat) (t ty e : TypeId) (i : TypeInfo) (size : Nat) (ht : P.underlying t = some (.slice e)) (hi : P.info? e = some i)
    (v : Value) (n c : Nat) (xs : List Value) (hown : w.ownsRow base e size v n xs) :
    (Builtin.append_ #[t, t] ty #[v, .slice none 0 c]).run P w = .ok v w := by
  rcases hown.2 with ⟨rfl, rfl⟩ | ⟨g, cap, cur, rfl, _, _, hnc, _⟩
  · simp [Builtin.append_, run_underlying ht, sizeOf, typeInfo, hi, Builtin.lenOf, Builtin.firstCells]
  · simp [Builtin.append_, run_underlying ht, sizeOf, typeInfo, hi, Builtin.lenOf, Builtin.firstCells, hnc, storeCells]
/-- a row of objects appended to a row of the call's own -/
theorem run_append_rows {P : Program} (w : World) (base : Nat) (t ty e : TypeId) (i : TypeInfo) (z : Value) (size bytes : Nat) (ht : P.underlying t = some (.slice e)) (hi : P.info? e = some i) (hz : i.zero = some z)
    (hsize : i.size = size) (hby : i.bytes = bytes) (hzs : z.cells.size = size) (hsz : 0 < size) (v : Value) (n : Nat) (xs : List Value) (hown : w.ownsRow base e size v n xs)
    (B : Nat) (A : Option Addr) (m c : Nat) (os : List (List Value)) (hr : RdRow w B A size m os) (h1 : ∀ u ∈ os.flatten, u.oneCell' = true) (h63 : n + m ≤ maxLen) (hbytes : (n + m) * bytes ≤ 140737488355328) (hbase : base ≤ w.heap.size) :
    ∃ v' w', (Builtin.append_ #[t, t] ty #[v, .slice A m c]).run P w = .ok v' w' ∧ w'.ownsRow base e size v' (n + m) (xs ++ os.flatten) ∧ w.grownBy w' v.ownBlock ∧ (v'.ownBlock = v.ownBlock ∨ v'.ownBlock = some w.heap.size) := by
  cases A with
  | some ad =>
    obtain ⟨v', w', hrun, r1, r2, _, r4⟩ := run_append_own_at (P := P) w base t ty e i z size bytes ht hi hz hsize hby hzs hsz v n xs hown ad m c os.flatten hr.len hr.src h1 h63 hbytes hbase
    exact ⟨v', w', hrun, r1, r2, r4⟩
  | none =>
    have hm : m = 0 := by
      rcases Nat.eq_zero_or_pos m with h | h
      · exact h
      · obtain ⟨_, _, e⟩ := hr.addr h
        cases e
    subst hm
    have ho : os = [] := List.eq_nil_of_length_eq_zero hr.1
    subst ho
    exact ⟨v, w, run_append_rows_none base t ty e i size ht hi v n c xs hown, by simpa using hown, ⟨rfl, rfl, rfl, Nat.le_refl _, fun _ _ _ => rfl⟩, .inl rfl⟩
theorem wpList_append_rows {P : Program} (w : World) {ops : Array Oper} {rest : List Oper} {o : Oper} {a : Act} {Q : Exit → Act → World → Prop} (hgd : o.guard = none) (s x : Operand) (t : TypeId)
    (ho : o.op = .call { callee := .builtin .append, args := #[s, x], argTypes := #[t, t] })
    (base : Nat) (e : TypeId) (i : TypeInfo) (z : Value) (size bytes : Nat) (ht : P.underlying t = some (.slice e)) (hi : P.info? e = some i) (hz : i.zero = some z) (hsize : i.size = size) (hby : i.bytes = bytes) (hzs : z.cells.size = size) (hsz : 0 < size)
    (v : Value) (n : Nat) (xs : List Value) (hs : a.eval s = v) (hown : w.ownsRow base e size v n xs) (B : Nat) (A : Option Addr) (m c : Nat) (os : List (List Value)) (hx : a.eval x = .slice A m c) (hr : RdRow w B A size m os) (h1 : ∀ u ∈ os.flatten, u.oneCell' = true)
    (h63 : n + m ≤ maxLen) (hbytes : (n + m) * bytes ≤ 140737488355328) (hbase : base ≤ w.heap.size)
    (h : ∀ v' w', w'.ownsRow base e size v' (n + m) (xs ++ os.flatten) → w.grownBy w' v.ownBlock → (v'.ownBlock = v.ownBlock ∨ v'.ownBlock = some w.heap.size) → wpList P ops Q rest (a.put o.dst v') w') : wpList P ops Q (o :: rest) a w := by
  refine wpList_plain hgd fun K hK => ?_
  obtain ⟨v', w', hrun, h2, h3, h4⟩ := run_append_rows (P := P) w base t o.type e i z size bytes ht hi hz hsize hby hzs hsz v n xs hown B A m c os hr h1 h63 hbytes hbase
  unfold Oper.wp execOp
  simp only [ho, resolve, invoke, builtin, Sem.run_bind, Sem.run_pure, Result.andThen_ok, List.map_toArray, List.map_cons, List.map_nil, hs, hx, hrun]
  exact hK _ _ (h v' w' h2 h3 h4)
end Go.Proofs.Ytboeeopgghldnaa
namespace Go.Proofs.Ytboeeopgghldnaa
open Go.RowKit

/-- what is asked of a predicate that is handed on, in every world in which what lies below B is as it was -/
def PredB (P : Program) (F : Nat) (lb : Array Value) (p : List Value → Bool) (B : Nat) (w : World) (os : List (List Value)) : Prop :=
  ∀ o ∈ os, ∀ W, Below B w W → Calls P F (#[.agg o.toArray] ++ lb) W fun e W' => e = .returned (.bool (p o)) ∧ Below W.heap.size W W'
def idxM (p : List Value → Bool) (os : List (List Value)) : Int := match os.findIdx? p with
  | none => -1
  | some i => (i : Int)
theorem idxM_none {p : List Value → Bool} {os : List (List Value)} (h : ∀ o ∈ os, p o = false) : idxM p os = -1 := by
  have e : os.findIdx? p = none := List.findIdx?_eq_none_iff.2 h
  unfold idxM
  rw [e]
theorem idxM_some {p : List Value → Bool} {os : List (List Value)} {j : Nat} {o : List Value} (ho : os[j]? = some o) (hp : p o = true) (hn : ∀ (q : Nat) x, q < j → os[q]? = some x → p x = false) : idxM p os = (j : Int) := by
  obtain ⟨hi, rfl⟩ := List.getElem?_eq_some_iff.1 ho
  have e : os.findIdx? p = some j := by
    rw [List.findIdx?_eq_some_iff_getElem]
    exact ⟨hi, hp, fun q hq => by simpa using hn q _ hq (List.getElem?_eq_getElem (by omega))⟩
  unfold idxM
  rw [e]
theorem all_false {p : List Value → Bool} {os : List (List Value)} {n : Nat} (hl : os.length = n) (h : ∀ (q : Nat) x, q < n → os[q]? = some x → p x = false) : ∀ o ∈ os, p o = false := by
  intro o ho
  obtain ⟨i, hi, rfl⟩ := List.getElem_of_mem ho
  exact h i _ (by omega) (List.getElem?_eq_getElem hi)
theorem idxM_cases (p : List Value → Bool) (os : List (List Value)) : (∀ o ∈ os, p o = false) ∨ ∃ j o, os[j]? = some o ∧ p o = true ∧ ∀ (q : Nat) x, q < j → os[q]? = some x → p x = false := by
  cases h : os.findIdx? p with
  | none => exact .inl (List.findIdx?_eq_none_iff.1 h)
  | some j =>
    obtain ⟨hi, hp, hn⟩ := List.findIdx?_eq_some_iff_getElem.1 h
    exact .inr ⟨j, os[j], List.getElem?_eq_getElem hi, hp, fun q x hq hx => by
      obtain ⟨hqi, rfl⟩ := List.getElem?_eq_some_iff.1 hx
      simpa using hn q hq⟩
theorem blk_at {w : World} {g : Nat} {t : TypeId} {k i : Nat} {cs : List (List Value)} {rest o : List Value} (h : Blk w g t (cs.flatten ++ rest)) (hk : ∀ o ∈ cs, o.length = k) (ho : cs[i]? = some o) : At w g (i * k) o := by
  intro j v hj
  rw [h.cell, List.getElem?_append_left]
  · exact flat_at hk i o ho j v hj
  · exact (List.getElem?_eq_some_iff.1 (flat_at hk i o ho j v hj)).1
theorem blk_row {w : World} {g : Nat} {t : TypeId} {k n : Nat} {cs : List (List Value)} {rest : List Value} (h : Blk w g t (cs.flatten ++ rest)) (hk : ∀ o ∈ cs, o.length = k) (hn : cs.length = n) : RdRow w w.heap.size (some ⟨g, 0, none⟩) k n cs :=
  ⟨hn, hk, fun _ => ⟨g, 0, rfl, h.lt, fun j v hj => by
    rw [h.cell, Nat.zero_add, List.getElem?_append_left (List.getElem?_eq_some_iff.1 hj).1]
    exact hj⟩⟩
theorem flat_set {k m : Nat} {cs : List (List Value)} {rest o : List Value} (hk : ∀ o ∈ cs, o.length = k) (ho : o.length = k) (hm : m < cs.length) : setL (cs.flatten ++ rest) (m * k) o = (cs.set m o).flatten ++ rest := by
  have hl := flat_length hk
  have h1 : (m + 1) * k ≤ cs.length * k := Nat.mul_le_mul_right k hm
  have h2 : m * k + k = (m + 1) * k := (Nat.succ_mul m k).symm
  rw [setL, ho, h2, List.take_append_of_le_length (by omega), List.drop_append_of_le_length (by omega), ← flat_take m hk, ← flat_drop (m + 1) hk, List.set_eq_take_append_cons_drop, if_pos hm]
  simp
theorem set_mem {k m : Nat} {cs : List (List Value)} {o : List Value} (hk : ∀ o ∈ cs, o.length = k) (ho : o.length = k) : ∀ x ∈ cs.set m o, x.length = k := by
  intro x hx
  rcases List.mem_or_eq_of_mem_set hx with h | rfl
  · exact hk x h
  · exact ho
theorem one_flat {cs : List (List Value)} (h : ∀ o ∈ cs, ∀ v ∈ o, v.oneCell' = true) : ∀ v ∈ cs.flatten, v.oneCell' = true := fun v hv => by
  obtain ⟨o, ho, h2⟩ := List.mem_flatten.1 hv
  exact h o ho v h2
theorem own_sliceK {w : World} {base e k n : Nat} {v : Value} {xs : List Value} (h : w.ownsRow base e k v n xs) : ∃ A c, v = .slice A n c ∧ n ≤ c ∧ c ≤ maxLen ∧ ∀ ad, A = some ad → base ≤ ad.block := by
  rcases h.2 with ⟨rfl, rfl⟩ | ⟨g, cap, cur, rfl, hb, _, hn, hm, _⟩
  · exact ⟨none, 0, rfl, Nat.le_refl _, by unfold maxLen; omega, fun _ h => by cases h⟩
  · exact ⟨_, _, rfl, hn, hm, fun ad h => by injection h with h; subst h; exact hb⟩
theorem addrK_zero_some (b off c k : Nat) : addrK (some ⟨b, off, none⟩) 0 c k = some ⟨b, off, none⟩ := by
  unfold addrK
  split
  · rfl
  · rw [Option.map_some, Go.WideShapes.add_plain, Nat.zero_mul, Nat.add_zero]
theorem addrK_some {b off i c k : Nat} (h : i < c) : addrK (some ⟨b, off, none⟩) i c k = some ⟨b, off + i * k, none⟩ := by
  unfold addrK
  rw [if_neg (by omega), Option.map_some, Go.WideShapes.add_plain]
theorem RdRow.ahead {W : World} {B k n : Nat} {A : Option Addr} {os : List (List Value)} (h : RdRow W B A k n os) (i c : Nat) (hi : i ≤ n) : RdRow W B (addrK A 0 c k) k i (os.take i) := by
  rcases Nat.eq_zero_or_pos i with h0 | h0
  · subst h0
    rw [List.take_zero]
    exact RdRow.nil
  · obtain ⟨b, off, rfl⟩ := h.addr (by omega)
    rw [addrK_zero_some]
    exact h.take i hi
/-- the builtin clear of the elements of a slice that lie in a block -/
theorem run_clear_objs {P : Program} (w : World) (t e ty : TypeId) (ht : P.underlying t = some (.slice e)) (z : Value) (hv : ∀ w, (zeroValue e).run P w = .ok z w) (h1 : ∀ v ∈ z.cells.toList, v.oneCell' = true) (g off n c : Nat) (bt : TypeId) (old : List Value) (hg : Blk w g bt old) (hfit : off + n * z.cells.size ≤ old.length) (hn : 0 < n) :
    ∃ w', (Builtin.clear_ #[t] ty #[.slice (some ⟨g, off, none⟩) n c]).run P w = .ok (.tuple #[]) w' ∧ Blk w' g bt (setL old off (Builtin.zeroCells z.cells n).toList) ∧ w.grownBy w' (some g) := by
  obtain ⟨m, rfl⟩ : ∃ m, n = m + 1 := ⟨n - 1, by omega⟩
  have hl : (Builtin.zeroCells z.cells (m + 1)).toList.length = (m + 1) * z.cells.size := by simp [Builtin.zeroCells]
  have ho : ∀ v ∈ (Builtin.zeroCells z.cells (m + 1)).toList, v.oneCell' = true := by
    intro v hv
    simp only [Builtin.zeroCells, Array.toList_map, Array.toList_range, List.mem_map, List.mem_range] at hv
    obtain ⟨i, hi, rfl⟩ := hv
    have hs : 0 < z.cells.size := by
      rcases Nat.eq_zero_or_pos z.cells.size with h | h
      · rw [h] at hi; omega
      · exact h
    refine h1 _ ?_
    have hlt := Nat.mod_lt i hs
    rw [getElem!_pos z.cells _ hlt]
    simp
  have hst := run_storeCells_at P g off bt (Builtin.zeroCells z.cells (m + 1)).toList 0 old.toArray w hg (by simpa [hl] using hfit) ho
  rw [Nat.add_zero] at hst
  refine ⟨w.setRow g (old.toArray.toList.take off ++ (Builtin.zeroCells z.cells (m + 1)).toList ++ old.toArray.toList.drop (off + (Builtin.zeroCells z.cells (m + 1)).toList.length)).toArray, ?_, ?_, ⟨rfl, rfl, rfl, by simp, fun k _ hk => setRow_other w g k _ (fun e => hk (by simp [e]))⟩⟩
  · simp only [Builtin.clear_, List.getElem?_toArray, List.getElem?_cons_zero, Sem.run_bind, run_underlying ht, Result.andThen_ok, hv]
    rw [hst]
    rfl
  · exact setRow_heap w g old.toArray _ bt _ hg
theorem wpList_clear_objs {P : Program} (w : World) {ops : Array Oper} {rest : List Oper} {o : Oper} {a : Act} {Q : Exit → Act → World → Prop} (hgd : o.guard = none) (d : Operand) (t e : TypeId)
    (ho : o.op = .call { callee := .builtin .clear, args := #[d], argTypes := #[t] }) (ht : P.underlying t = some (.slice e)) (z : Value) (hv : ∀ w, (zeroValue e).run P w = .ok z w) (h1 : ∀ v ∈ z.cells.toList, v.oneCell' = true)
    (g off n c : Nat) (hd : a.eval d = .slice (some ⟨g, off, none⟩) n c) (bt : TypeId) (old : List Value) (hg : Blk w g bt old) (hfit : off + n * z.cells.size ≤ old.length) (hn : 0 < n)
    (h : ∀ w', Blk w' g bt (setL old off (Builtin.zeroCells z.cells n).toList) → w.grownBy w' (some g) → wpList P ops Q rest (a.put o.dst (.tuple #[])) w') : wpList P ops Q (o :: rest) a w := by
  refine wpList_plain hgd fun K hK => ?_
  obtain ⟨w', hrun, h2, h3⟩ := run_clear_objs (P := P) w t e o.type ht z hv h1 g off n c bt old hg hfit hn
  unfold Oper.wp execOp
  simp only [ho, resolve, invoke, builtin, Sem.run_bind, Sem.run_pure, Result.andThen_ok, List.map_toArray, List.map_cons, List.map_nil, hd, hrun]
  exact hK _ _ (h w' h2 h3)
end Go.Proofs.Ytboeeopgghldnaa
namespace Go.Proofs.Ytboeeopgghldnaa
open Go.RowKit

theorem sl_size (o : List Value) (h : o.length = 34) : (Try.prog.info? 34).map (·.size) = some o.length := by
  rw [h]; kernel_rfl
theorem sl_under : Try.prog.underlying 23 = some (.slice (Try.prog.elem 23)) := by kernel_rfl
theorem sl_elem : Try.prog.elem 23 = 34 := by kernel_rfl
theorem sl_sizeOf (w : World) : (sizeOf (Try.prog.elem 23)).run Try.prog w = .ok 34 w := by
  obtain ⟨i0, hi, _, hs, _⟩ := slotInfo
  rw [sl_elem]
  simp [sizeOf, typeInfo, hi, hs]
theorem sl_zero (w : World) : (zeroValue 34).run Try.prog w = .ok (.agg slotZ.toArray) w := by
  obtain ⟨i0, hi, hz, _, _⟩ := slotInfo
  simp [zeroValue, typeInfo, hi, hz]
set_option maxRecDepth 100000 in
theorem sl_l (A : Option Addr) (n c i : Nat) (h2 : i ≤ n) (w : World) : (Instr.sliceAt 23 (.slice A n c) (some (.int .i64 (i : Int))) none none).run Try.prog w = .ok (.slice (addrK A i c 34) (n - i) (c - i)) w := by
  rw [run_sliceAt_slice (P := Try.prog) (w := w) 23 _ _ _ _ sl_under, run_slice_l (P := Try.prog) (w := w) 23 A n c sl_under .i64 i (by omega) (by omega), sl_sizeOf]
  simp only [Result.andThen, sliced, Int.toNat_natCast]
  rfl
set_option maxRecDepth 100000 in
theorem sl_h {n : Nat} (A : Option Addr) (c j : Nat) (h2 : j ≤ n) (h3 : n ≤ c) (w : World) : (Instr.sliceAt 23 (.slice A n c) none (some (.int .i64 (j : Int))) none).run Try.prog w = .ok (.slice (addrK A 0 c 34) j c) w := by
  rw [run_sliceAt_slice (P := Try.prog) (w := w) 23 _ _ _ _ sl_under, run_slice_h (P := Try.prog) (w := w) 23 A n c sl_under .i64 j (by omega) (by omega), sl_sizeOf]
  simp only [Result.andThen, sliced, Int.toNat_natCast, Nat.sub_zero]
  rfl
end Go.Proofs.Ytboeeopgghldnaa
namespace Go.Proofs.Ytboeeopgghldnaa
open Go.RowKit

set_option maxRecDepth 100000 in
set_option maxHeartbeats 16000000 in
theorem refTake_new : IxTakeNewC 8 := by
  intro A n c l wish k b w hwish hk harg
  have hn := harg.1
  have HNC := Lib.hid (And.intro harg.2.1 harg.2.2.1)
  have HK := Lib.hid hk
  have HOKS := Lib.hid harg.2.2.2.2
  have HLN := Lib.hid harg.2.2.2.len
  obtain ⟨ik, hik, hiz, his, hib⟩ := slotInfo
  have HKI := Lib.hid (And.intro hik (And.intro hiz (And.intro his hib)))
  obtain ⟨ck, hck⟩ : ∃ z, (k.map u8v).toArray = z := ⟨_, rfl⟩
  rw [hck]
  have hm0 := ((Lows.nil w).cons (slL A n l) harg.2.2.2).alloc 26 ck (k.map u8v) hck.symm
  have HM := Lib.hid (show Lows w [slL A n l, blkL w.heap.size 26 (k.map u8v)] (w.alloc (.cells ck 26)) from ⟨fun f hf => hm0.1 f (by simp only [List.mem_cons, List.not_mem_nil, or_false] at hf ⊢; rcases hf with h | h <;> simp [h]), hm0.2⟩)
  have HCK := Lib.hid hck
  clear hik hiz his hib hk harg hck hm0
  go_enter Try.func8, Try.ntmps8
  go_upto_region 1 with fail
  generalize w.alloc (.cells ck 26) = w1 at HM ⊢
  by_cases h32 : 32 ≤ n
  · have d1 : decide ((n : Int) ≥ 32) = true := by simp; omega
    have HRES := Lib.hid (show takeM l wish k b = ([], 0, 12) from by rw [takeM, if_pos (by rw [HLN.out]; exact h32)])
    have HF := Lib.hid HM.out.bel
    clear HM
    go_wp2
    go_ret3
    rw [HRES.out]
    exact ⟨_, rfl, ⟨none, 0, rfl, Nat.le_refl _, by unfold maxLen; omega, SlRd.nil, HF.out⟩, fun _ _ _ _ h => by cases h⟩
  · have d1 : decide ((n : Int) ≥ 32) = false := by simp; omega
    obtain ⟨n0, hn0⟩ : ∃ z, beginI wish = z := ⟨_, rfl⟩
    have hn0b : 1 ≤ n0 ∧ n0 < 4294967296 := by rw [← hn0]; unfold beginI; omega
    have hmax : max (wish : Int) 1 = (n0 : Int) := by rw [← hn0]; unfold beginI; omega
    have HTK0 := Lib.hid (show takeM l wish k b = (l.take (aboveM (freeM l n0) l) ++ ⟨freeM l n0, k, b⟩ :: l.drop (aboveM (freeM l n0) l), freeM l n0, 0) from by rw [takeM, if_neg (by rw [HLN.out]; exact h32), hn0])
    have HN0 := Lib.hid (nthI_zero hn0b.1 hn0b.2)
    clear hn0
    go_wp2_with (refine wpList_max_k rfl (.tmp 19) (.const (.int .u32 1)) #[24, 24] rfl .u32 (wish : Int) 1 (n0 : Int) rfl rfl hmax ?_)
    clear hmax d1
    go_loopg [11] 33 (fun gk v wr => ∃ i, i < 33 ∧ 33 - i ≤ gk ∧ v = .int .u32 (nthI n0 i : Int) ∧ (∀ q, q < i → takenM l (nthI n0 q) = true) ∧ Lows w [slL A n l, blkL w.heap.size 26 (k.map u8v)] wr)
    case atStart => exact ⟨0, by omega, by omega, by rw [HN0.out], fun q h => absurd h (Nat.not_lt_zero _), HM.out⟩
    case round =>
      clear HM
      obtain ⟨i, hi, hgk, rfl, hall, hM⟩ := hrel
      have HM := Lib.hid hM
      have HALL := Lib.hid hall
      have hrng := nthI_range n0 i
      have HSU := Lib.hid (nthI_succ n0 i)
      obtain ⟨m, hm⟩ : ∃ z, nthI n0 i = z := ⟨_, rfl⟩
      rw [hm] at hrng HSU ⊢
      have HME := Lib.hid hm
      have hm2 : m < 4294967296 := hrng.2
      have hfd := fun W hW => refFind_any A n c l m W hm2 hW
      have hfo := findS_ok HOKS.out m
      have htk := findS_taken l m
      obtain ⟨tk, htk2⟩ : ∃ z, (findS l m).2 = z := ⟨_, rfl⟩
      obtain ⟨fs, hfs⟩ : ∃ z, (findS l m).1 = z := ⟨_, rfl⟩
      rw [htk2] at hfd htk
      rw [hfs] at hfd hfo
      obtain ⟨fc, hfc⟩ : ∃ z, fs.cells.toArray = z := ⟨_, rfl⟩
      rw [hfc] at hfd
      have HFD := Lib.hid hfd
      have HFO := Lib.hid hfo
      have HFC := Lib.hid hfc
      have HT := Lib.hid htk
      clear hM hall hm hfd hfo htk htk2 hfs hfc
      go_wp2_with fail
      refine (HFD.out _ ⟨hn, HNC.out.1, HNC.out.2, HM.out.get (f := slL A n l) 0 rfl⟩).mono ?_
      rintro e w4 ⟨rfl, hb⟩
      replace HM := Lib.hid (HM.out.below hb)
      clear hb HFD
      have HZ := Lib.hid (Blk.new w4 34 slotZ)
      go_upto_region 5 with (refine wpList_store_obj rfl 34 (.tmp 12) (.tmp 25) rfl w4.heap.size 0 fs.cells rfl (by show Value.agg fc = _; rw [HFC.out]) 34 slotZ HZ.out (slot_cellsOf fs HFO.out) (by rw [SlotM.cells_length HFO.out, slotZ_length]; omega) (slot_one fs) ?_; intro w5 hb5 hg5)
      replace HM := Lib.hid (show Lows w [slL A n l, blkL w.heap.size 26 (k.map u8v)] w5 from HM.out.below (below_fresh hg5))
      clear hb5 hg5 HZ
      cases tk with
      | true =>
        have htaken : ∀ q, q < i + 1 → takenM l (nthI n0 q) = true := fun q hq => by
          rcases Nat.lt_or_ge q i with h | h
          · exact HALL.out q h
          · obtain rfl : q = i := by omega
            rw [HME.out]
            exact HT.out.symm
        have hi2 : i + 1 < 33 := by have := all_taken (show i + 1 < 90 by omega) htaken; rw [HLN.out] at this; omega
        have HTA := Lib.hid htaken
        obtain ⟨mw, hmw⟩ : ∃ z, (m + 1) % 4294967296 = z := ⟨_, rfl⟩
        have hw1 : IntKind.u32.wrap ((m : Int) + 1) = (mw : Int) := by rw [IntKind.wrap_u32]; omega
        have hw2 : ((m : Int) + 1) % 4294967296 = (mw : Int) := by omega
        have hmax : max (mw : Int) 1 = (nthI n0 (i + 1) : Int) := by rw [HSU.out]; unfold succI; split <;> omega
        clear htaken hmw HT HALL
        go_wp2_with (refine wpList_max_k rfl (.tmp 30) (.const (.int .u32 1)) #[24, 24] rfl .u32 (mw : Int) 1 (nthI n0 (i + 1) : Int) rfl rfl hmax ?_)
        go_roundg (33 - (i + 1))
        case measure => omega
        case rel => exact ⟨i + 1, hi2, Nat.le_refl _, rfl, HTA.out, HM.out⟩
      | false =>
        have hfr : freeM l n0 = m := by rw [← HME.out]; exact free_is hi (by rw [HME.out]; exact HT.out.symm) HALL.out
        have HTK := Lib.hid (show takeM l wish k b = (l.take (aboveM m l) ++ ⟨m, k, b⟩ :: l.drop (aboveM m l), m, 0) from by rw [HTK0.out, hfr])
        clear hfr HALL HME HSU HT HTK0
        go_wp2_with fail
        go_loopw [14] (fun v wr => ∃ j : Nat, j ≤ n ∧ v = .int .i64 (j : Int) ∧ j ≤ aboveM m l ∧ Lows w [slL A n l, blkL w.heap.size 26 (k.map u8v)] wr) (fun v _ => n - (intOf v).toNat)
        case atStart => exact ⟨0, Nat.zero_le _, rfl, Nat.zero_le _, HM.out⟩
        case round =>
          clear HM
          obtain ⟨j, hj, rfl, hja, hM⟩ := hrel
          have HM := Lib.hid hM
          have HJA := Lib.hid hja
          clear hM hja
          by_cases hjn : j < n
          · have d1 : decide ((j : Int) < (n : Int)) = true := by simp; omega
            obtain ⟨s, hs⟩ : ∃ s, l[j]? = some s := ⟨l[j]'(by rw [HLN.out]; exact hjn), List.getElem?_eq_getElem _⟩
            have hst := aboveM_step m l j HJA.out s hs
            obtain ⟨ab, ao, hA⟩ := (HM.out.get (f := slL A n l) 0 rfl).1.addr (by omega)
            have hfx : wr.cell? ⟨ab, ao + j * 34, none⟩ = some (.int .u32 (s.idx : Int)) := by
              have h := HM.out.get (f := slL A n l) 0 rfl
              have h2 : SlRd wr wr.heap.size (some ⟨ab, ao, none⟩) n l := by rw [← hA]; exact h
              exact idx_at (h2.at j s hs).2
            clear hs
            by_cases hlt : s.idx < m
            · have d2 : decide ((s.idx : Int) < (m : Int)) = true := by simp; omega
              have d3 : decide (s.idx < m) = true := by simpa using hlt
              have HST := Lib.hid (hst.1 hlt)
              clear hst hlt
              subst hA
              go_wp2_with fail
              go_roundw
              case rel => exact ⟨j + 1, by omega, by go_num, HST.out, HM.out⟩
              case measure => simp [intOf]; omega
            · have d2 : decide ((s.idx : Int) < (m : Int)) = false := by simp; omega
              have d3 : decide (s.idx < m) = false := by simpa using hlt
              have HAB := Lib.hid (hst.2 hlt)
              clear hst hlt HJA
              subst hA
              go_upto_region 10 with fail
              clear d1 d2 d3 hfx
              have HSO := Lib.hid (show (SlotM.mk m k b).ok from ⟨hm2, HK.out⟩)
              have hbt := slot_built ⟨m, k, b⟩ ⟨hm2, HK.out⟩
              obtain ⟨sn, hsn⟩ : ∃ z, (SlotM.mk m k b).cells.toArray = z := ⟨_, rfl⟩
              simp only [HCK.out, hsn] at hbt
              have HBT := Lib.hid hbt
              have HSN := Lib.hid hsn
              have hsl := sl_h (some ⟨ab, ao, none⟩) (n := n) c j (by omega) HNC.out.1
              have hsl2 := sl_l (some ⟨ab, ao, none⟩) n c j (by omega)
              have HR1 := Lib.hid (show RdRow wr wr.heap.size (addrK (some ⟨ab, ao, none⟩) 0 c 34) 34 j (slsV (l.take j)) from by rw [← slsV_take]; exact (HM.out.get (f := slL (some ⟨ab, ao, none⟩) n l) 0 rfl).1.ahead j c (by omega))
              have HR2 := Lib.hid (show RdRow wr wr.heap.size (addrK (some ⟨ab, ao, none⟩) j c 34) 34 (n - j) (slsV (l.drop j)) from by rw [← slsV_drop]; exact (HM.out.get (f := slL (some ⟨ab, ao, none⟩) n l) 0 rfl).1.behind j c (by omega) HNC.out.1)
              have hjc1 : (j : Int) ≤ (c : Int) := by have := HNC.out; omega
              have hjc2 : (j : Int) ≤ (n : Int) := by omega
              have HKA := Lib.hid (show ∀ W, Below wr.heap.size wr W → At W w.heap.size 0 (k.map u8v) from fun W hW => ((HM.out.below hW).blk 1 rfl).all)
              have HBW := Lib.hid HM.out.bel
              clear hbt hsn HM
              go_upto_region 11 with (refine wpList_append_rows _ rfl (.const (.slice none 0 0)) (.tmp 49) 23 rfl wr.heap.size 34 ik _ 34 40 Try.underlying23 HKI.out.1 HKI.out.2.1 HKI.out.2.2.1 HKI.out.2.2.2 (by rfl) (by omega) (.slice none 0 0) 0 [] rfl (World.ownsRow_nil _ _ _ _) _ (addrK (some ⟨ab, ao, none⟩) 0 c 34) j c (slsV (l.take j)) rfl HR1.out (slsV_one _) (by unfold maxLen; omega) (by omega) (Nat.le_refl _) ?_; intro v1 w3 hown1 hg1 _)
              rw [Nat.zero_add, List.nil_append] at hown1
              clear hsl
              have hb3 : Below wr.heap.size wr w3 := (Below.refl _ _).grown hg1 (Nat.le_refl _) (by simp [Value.ownBlock])
              have hown2 := hown1.alloc (.cells sn 34)
              have hb4 := hb3.alloc hb3.size (.cells sn 34)
              have hlit : RdRow (w3.alloc (.cells sn 34)) (w3.alloc (.cells sn 34)).heap.size (some ⟨w3.heap.size, 0, none⟩) 34 1 (slsV [⟨m, k, b⟩]) := by
                have hblk : Blk (w3.alloc (.cells sn 34)) w3.heap.size 34 (SlotM.mk m k b).cells := by rw [← HSN.out]; exact Blk.new w3 34 _
                refine ⟨rfl, fun o ho => ?_, fun _ => ⟨w3.heap.size, 0, rfl, hblk.lt, fun q v hq => ?_⟩⟩
                · rw [slsV, List.map_singleton, List.mem_singleton] at ho
                  subst ho
                  exact SlotM.cells_length HSO.out
                · rw [Nat.zero_add, hblk.cell]
                  simpa [slsV] using hq
              have H3 := Lib.hid (And.intro hown2 (And.intro hb4 (And.intro hlit hb3)))
              clear hown1 hg1 hb3 hown2 hb4 hlit
              go_upto_region 12 with (first | (refine wpList_load_obj rfl 26 (.tmp 6) rfl w.heap.size 0 rfl (k.map u8v) (HKA.out _ H3.out.2.2.2) _ Try.underlying26 rfl (key_cellsOf k HK.out) ?_; rw [HCK.out]) | (refine wpList_build_as rfl 34 [(0, .tmp 52), (1, .tmp 53), (2, .tmp 54)] rfl sn ?_ ?_; exact HBT.out) | (refine wpList_buildOne rfl 23 34 (.tmp 55) rfl sn rfl 34 Try.underlying23 ik HKI.out.1 HKI.out.2.2.1 _ HKI.out.2.1 (by omega) (by omega) (by rw [← HSN.out, List.size_toArray, SlotM.cells_length HSO.out]) ?_) | (refine wpList_append_rows _ rfl (.tmp 51) (.tmp 56) 23 rfl wr.heap.size 34 ik _ 34 40 Try.underlying23 HKI.out.1 HKI.out.2.1 HKI.out.2.2.1 HKI.out.2.2.2 (by rfl) (by omega) v1 j _ rfl H3.out.1 _ (some ⟨w3.heap.size, 0, none⟩) 1 1 (slsV [⟨m, k, b⟩]) rfl H3.out.2.2.1 (slsV_one _) (by unfold maxLen; omega) (by omega) H3.out.2.1.size ?_; intro v2 w5 hown3 hg3 _))
              have hb5 := H3.out.2.1.grown hg3 H3.out.2.1.size (own_from H3.out.1)
              have H5 := Lib.hid (And.intro hown3 (And.intro hb5 ((HR2.out.below hb5).mono hb5.size)))
              clear hown3 hg3 hb5
              go_wp2_with (refine wpList_append_rows _ rfl (.tmp 58) (.tmp 61) 23 rfl wr.heap.size 34 ik _ 34 40 Try.underlying23 HKI.out.1 HKI.out.2.1 HKI.out.2.2.1 HKI.out.2.2.2 (by rfl) (by omega) v2 (j + 1) _ rfl H5.out.1 _ (addrK (some ⟨ab, ao, none⟩) j c 34) (n - j) (c - j) (slsV (l.drop j)) rfl H5.out.2.2 (slsV_one _) (by unfold maxLen; omega) (by omega) H5.out.2.1.size ?_; intro v3 w7 hown4 hg4 _)
              have hb7 := H5.out.2.1.grown hg4 H5.out.2.1.size (own_from H5.out.1)
              obtain ⟨A9, c9, rfl, hc1, hc2, hfr9⟩ := own_sliceK hown4
              have HNW := Lib.hid (show ∀ b o p q, Value.slice A9 (j + 1 + (n - j)) c9 = .slice (some ⟨b, o, none⟩) p q → w.heap.size ≤ b from fun b o p q h => by injection h with h1; exact Nat.le_trans HBW.out.size (hfr9 _ h1))
              clear hfr9
              have he : (slsV (l.take j)).flatten ++ (slsV [⟨m, k, b⟩]).flatten ++ (slsV (l.drop j)).flatten = (slsV (l.take j ++ ⟨m, k, b⟩ :: l.drop j)).flatten := by simp [slsV]
              rw [he] at hown4
              have hln : (l.take j ++ (SlotM.mk m k b) :: l.drop j).length = j + 1 + (n - j) := by
                rw [List.length_append, List.length_cons, List.length_take, List.length_drop, HLN.out]; omega
              have hks : ∀ s ∈ l.take j ++ (SlotM.mk m k b) :: l.drop j, s.ok := fun s hs => by
                rcases List.mem_append.1 hs with hs | hs
                · exact HOKS.out s (List.mem_of_mem_take hs)
                · rcases List.mem_cons.1 hs with rfl | hs
                  · exact HSO.out
                  · exact HOKS.out s (List.mem_of_mem_drop hs)
              have HF := Lib.hid (And.intro (SlRd.of_own hln hks hown4) (And.intro hc1 (And.intro hc2 (And.intro hln (HBW.out.trans (hb7.mono HBW.out.size))))))
              have HRES := Lib.hid (show takeM l wish k b = (l.take j ++ ⟨m, k, b⟩ :: l.drop j, m, 0) from by rw [HTK.out, HAB.out])
              clear hown4 hg4 hb7 hc1 hc2 hln hks
              go_ret3
              rw [HRES.out]
              exact ⟨_, rfl, ⟨A9, c9, by rw [HF.out.2.2.2.1]; rfl, by rw [HF.out.2.2.2.1]; exact HF.out.2.1, HF.out.2.2.1, by rw [HF.out.2.2.2.1]; exact HF.out.1, HF.out.2.2.2.2⟩, HNW.out⟩
          · have d1 : decide ((j : Int) < (n : Int)) = false := by simp; omega
            have HAB := Lib.hid (show aboveM m l = j from Nat.le_antisymm (by have h := aboveM_le m l; rw [HLN.out] at h; omega) HJA.out)
            clear HJA
            go_upto_region 10 with fail
            clear d1 hjn
            have HSO := Lib.hid (show (SlotM.mk m k b).ok from ⟨hm2, HK.out⟩)
            have hbt := slot_built ⟨m, k, b⟩ ⟨hm2, HK.out⟩
            obtain ⟨sn, hsn⟩ : ∃ z, (SlotM.mk m k b).cells.toArray = z := ⟨_, rfl⟩
            simp only [HCK.out, hsn] at hbt
            have HBT := Lib.hid hbt
            have HSN := Lib.hid hsn
            have hsl := sl_h A (n := n) c j (by omega) HNC.out.1
            have hsl2 := sl_l A n c j (by omega)
            have HR1 := Lib.hid (show RdRow wr wr.heap.size (addrK A 0 c 34) 34 j (slsV (l.take j)) from by rw [← slsV_take]; exact (HM.out.get (f := slL A n l) 0 rfl).1.ahead j c (by omega))
            have HR2 := Lib.hid (show RdRow wr wr.heap.size (addrK A j c 34) 34 (n - j) (slsV (l.drop j)) from by rw [← slsV_drop]; exact (HM.out.get (f := slL A n l) 0 rfl).1.behind j c (by omega) HNC.out.1)
            have hjc1 : (j : Int) ≤ (c : Int) := by have := HNC.out; omega
            have hjc2 : (j : Int) ≤ (n : Int) := by omega
            have HKA := Lib.hid (show ∀ W, Below wr.heap.size wr W → At W w.heap.size 0 (k.map u8v) from fun W hW => ((HM.out.below hW).blk 1 rfl).all)
            have HBW := Lib.hid HM.out.bel
            clear hbt hsn HM
            go_upto_region 11 with (refine wpList_append_rows _ rfl (.const (.slice none 0 0)) (.tmp 49) 23 rfl wr.heap.size 34 ik _ 34 40 Try.underlying23 HKI.out.1 HKI.out.2.1 HKI.out.2.2.1 HKI.out.2.2.2 (by rfl) (by omega) (.slice none 0 0) 0 [] rfl (World.ownsRow_nil _ _ _ _) _ (addrK A 0 c 34) j c (slsV (l.take j)) rfl HR1.out (slsV_one _) (by unfold maxLen; omega) (by omega) (Nat.le_refl _) ?_; intro v1 w3 hown1 hg1 _)
            rw [Nat.zero_add, List.nil_append] at hown1
            clear hsl
            have hb3 : Below wr.heap.size wr w3 := (Below.refl _ _).grown hg1 (Nat.le_refl _) (by simp [Value.ownBlock])
            have hown2 := hown1.alloc (.cells sn 34)
            have hb4 := hb3.alloc hb3.size (.cells sn 34)
            have hlit : RdRow (w3.alloc (.cells sn 34)) (w3.alloc (.cells sn 34)).heap.size (some ⟨w3.heap.size, 0, none⟩) 34 1 (slsV [⟨m, k, b⟩]) := by
              have hblk : Blk (w3.alloc (.cells sn 34)) w3.heap.size 34 (SlotM.mk m k b).cells := by rw [← HSN.out]; exact Blk.new w3 34 _
              refine ⟨rfl, fun o ho => ?_, fun _ => ⟨w3.heap.size, 0, rfl, hblk.lt, fun q v hq => ?_⟩⟩
              · rw [slsV, List.map_singleton, List.mem_singleton] at ho
                subst ho
                exact SlotM.cells_length HSO.out
              · rw [Nat.zero_add, hblk.cell]
                simpa [slsV] using hq
            have H3 := Lib.hid (And.intro hown2 (And.intro hb4 (And.intro hlit hb3)))
            clear hown1 hg1 hb3 hown2 hb4 hlit
            go_upto_region 12 with (first | (refine wpList_load_obj rfl 26 (.tmp 6) rfl w.heap.size 0 rfl (k.map u8v) (HKA.out _ H3.out.2.2.2) _ Try.underlying26 rfl (key_cellsOf k HK.out) ?_; rw [HCK.out]) | (refine wpList_build_as rfl 34 [(0, .tmp 52), (1, .tmp 53), (2, .tmp 54)] rfl sn ?_ ?_; exact HBT.out) | (refine wpList_buildOne rfl 23 34 (.tmp 55) rfl sn rfl 34 Try.underlying23 ik HKI.out.1 HKI.out.2.2.1 _ HKI.out.2.1 (by omega) (by omega) (by rw [← HSN.out, List.size_toArray, SlotM.cells_length HSO.out]) ?_) | (refine wpList_append_rows _ rfl (.tmp 51) (.tmp 56) 23 rfl wr.heap.size 34 ik _ 34 40 Try.underlying23 HKI.out.1 HKI.out.2.1 HKI.out.2.2.1 HKI.out.2.2.2 (by rfl) (by omega) v1 j _ rfl H3.out.1 _ (some ⟨w3.heap.size, 0, none⟩) 1 1 (slsV [⟨m, k, b⟩]) rfl H3.out.2.2.1 (slsV_one _) (by unfold maxLen; omega) (by omega) H3.out.2.1.size ?_; intro v2 w5 hown3 hg3 _))
            have hb5 := H3.out.2.1.grown hg3 H3.out.2.1.size (own_from H3.out.1)
            have H5 := Lib.hid (And.intro hown3 (And.intro hb5 ((HR2.out.below hb5).mono hb5.size)))
            clear hown3 hg3 hb5
            go_wp2_with (refine wpList_append_rows _ rfl (.tmp 58) (.tmp 61) 23 rfl wr.heap.size 34 ik _ 34 40 Try.underlying23 HKI.out.1 HKI.out.2.1 HKI.out.2.2.1 HKI.out.2.2.2 (by rfl) (by omega) v2 (j + 1) _ rfl H5.out.1 _ (addrK A j c 34) (n - j) (c - j) (slsV (l.drop j)) rfl H5.out.2.2 (slsV_one _) (by unfold maxLen; omega) (by omega) H5.out.2.1.size ?_; intro v3 w7 hown4 hg4 _)
            have hb7 := H5.out.2.1.grown hg4 H5.out.2.1.size (own_from H5.out.1)
            obtain ⟨A9, c9, rfl, hc1, hc2, hfr9⟩ := own_sliceK hown4
            have HNW := Lib.hid (show ∀ b o p q, Value.slice A9 (j + 1 + (n - j)) c9 = .slice (some ⟨b, o, none⟩) p q → w.heap.size ≤ b from fun b o p q h => by injection h with h1; exact Nat.le_trans HBW.out.size (hfr9 _ h1))
            clear hfr9
            have he : (slsV (l.take j)).flatten ++ (slsV [⟨m, k, b⟩]).flatten ++ (slsV (l.drop j)).flatten = (slsV (l.take j ++ ⟨m, k, b⟩ :: l.drop j)).flatten := by simp [slsV]
            rw [he] at hown4
            have hln : (l.take j ++ (SlotM.mk m k b) :: l.drop j).length = j + 1 + (n - j) := by
              rw [List.length_append, List.length_cons, List.length_take, List.length_drop, HLN.out]; omega
            have hks : ∀ s ∈ l.take j ++ (SlotM.mk m k b) :: l.drop j, s.ok := fun s hs => by
              rcases List.mem_append.1 hs with hs | hs
              · exact HOKS.out s (List.mem_of_mem_take hs)
              · rcases List.mem_cons.1 hs with rfl | hs
                · exact HSO.out
                · exact HOKS.out s (List.mem_of_mem_drop hs)
            have HF := Lib.hid (And.intro (SlRd.of_own hln hks hown4) (And.intro hc1 (And.intro hc2 (And.intro hln (HBW.out.trans (hb7.mono HBW.out.size))))))
            have HRES := Lib.hid (show takeM l wish k b = (l.take j ++ ⟨m, k, b⟩ :: l.drop j, m, 0) from by rw [HTK.out, HAB.out])
            clear hown4 hg4 hb7 hc1 hc2 hln hks
            go_ret3
            rw [HRES.out]
            exact ⟨_, rfl, ⟨A9, c9, by rw [HF.out.2.2.2.1]; rfl, by rw [HF.out.2.2.2.1]; exact HF.out.2.1, HF.out.2.2.1, by rw [HF.out.2.2.2.1]; exact HF.out.1, HF.out.2.2.2.2⟩, HNW.out⟩
theorem refTake_any : IxTakeC 8 := refTake_new.old
end Go.Proofs.Ytboeeopgghldnaa
namespace Go.Proofs.Ytboeeopgghldnaa
open Go.RowKit

/-- indices taken one after the other -/
def takeAll (xs : List (Nat × UInt8 × Bool)) : List SlotM := xs.foldl (fun l x => (takeM l x.1 (keyB x.2.1) x.2.2).1) []
theorem takeAll_snoc (xs : List (Nat × UInt8 × Bool)) (x : Nat × UInt8 × Bool) : takeAll (xs ++ [x]) = (takeM (takeAll xs) x.1 (keyB x.2.1) x.2.2).1 := by simp [takeAll]
theorem takeM_len {l : List SlotM} (h : l.length < 32) (n : Nat) (k : List UInt8) (b : Bool) : (takeM l n k b).1.length = l.length + 1 := by
  rw [takeM, if_neg (by omega)]
  simp only [List.length_append, List.length_cons, List.length_take, List.length_drop]
  omega
theorem takeAll_len : ∀ (n : Nat) (xs : List (Nat × UInt8 × Bool)), xs.length = n → n ≤ 32 → (takeAll xs).length = n := by
  intro n
  induction n with
  | zero =>
    intro xs h _
    rw [List.eq_nil_of_length_eq_zero h]
    rfl
  | succ n ih =>
    intro xs h hn
    rcases List.eq_nil_or_concat xs with rfl | ⟨ys, y, rfl⟩
    · cases h
    · rw [List.concat_eq_append] at h ⊢
      rw [List.length_append, List.length_singleton] at h
      rw [takeAll_snoc, takeM_len (by rw [ih ys (by omega) (by omega)]; omega), ih ys (by omega) (by omega)]
/-- what is made of choices: at most 19 -/
def MadeIx (xs : List (Nat × UInt8 × Bool)) : Prop := xs.length ≤ 19 ∧ ∀ x ∈ xs, x.1 < 4294967296
end Go.Proofs.Ytboeeopgghldnaa
namespace Go.Proofs.Ytboeeopgghldnaa
open Go.RowKit

theorem grownD {a w : World} {row : Option Nat} (h : a.grownBy w row) : a.grownBy w.drew row := ⟨h.os, h.tape, h.output, h.size, h.block⟩
theorem grownB {a w w' : World} {row : Option Nat} (h : a.grownBy w row) (hb : Below w.heap.size w w') : a.grownBy w' row :=
  grownBy_trans h ⟨hb.os, hb.tape, hb.output, hb.size, fun k hk _ => hb.block k hk⟩
theorem grown_refl (w : World) (k : Option Nat) : w.grownBy w k := ⟨rfl, rfl, rfl, Nat.le_refl _, fun _ _ _ => rfl⟩
/-- a change above w is none below it -/
theorem grownA {w W W' : World} {g : Nat} {row : Option Nat} (h : w.grownBy W (some g)) (hb : W.grownBy W' row) (hr : ∀ k, row = some k → w.heap.size ≤ k) : w.grownBy W' (some g) :=
  ⟨hb.os.trans h.os, hb.tape.trans h.tape, hb.output.trans h.output, Nat.le_trans h.size hb.size, fun k hk hne => (hb.block k (Nat.lt_of_lt_of_le hk h.size) (fun e => absurd (hr k e.symm) (by omega))).trans (h.block k hk hne)⟩
/-- the entries, and that of what was there ahead of w0 only the block g has changed -/
def MemG (w0 : World) (g : Nat) (E : List Ent) (W : World) : Prop := MemE w0.heap.size E W.heap.size W ∧ w0.grownBy W (some g)
section
variable {w0 W W' : World} {g : Nat} {E : List Ent}
theorem MemG.nil (w0 : World) (g : Nat) : MemG w0 g [] w0 := ⟨Nat.le_refl _, grown_refl _ _⟩
theorem MemG.get (h : MemG w0 g E W) (i : Nat) {e : Ent} (he : E[i]? = some e) : e.P W := h.1.get i e he
theorem MemG.blk (h : MemG w0 g E W) (i : Nat) {b : Nat} {t : TypeId} {cs : List Value} (he : E[i]? = some (blkE b t cs)) : Blk W b t cs := h.1.get i _ he
theorem MemG.rd (h : MemG w0 g E W) (i : Nat) {lo hi : Nat} {A : Option Addr} {n : Nat} {l : List UInt8} (he : E[i]? = some (rdE lo hi A n l)) : Rd W W.heap.size A n l :=
  (RdIn.rd (h.1.get i _ he)).mono (MemE.put.MemE.under h.1 i _ he)
theorem MemG.erase (h : MemG w0 g E W) (i : Nat) : MemG w0 g (E.eraseIdx i) W := ⟨h.1.erase i, h.2⟩
theorem MemG.below (h : MemG w0 g E W) (hb : Below W.heap.size W W') : MemG w0 g E W' := ⟨h.1.keep hb.size (fun k _ hk => hb.block k hk), grownB h.2 hb⟩
theorem MemG.drew (h : MemG w0 g E W) : MemG w0 g E W.drew := h.below ((Below.refl _ _).drew)
/-- the block g changes -/
theorem MemG.next (h : MemG w0 g E W) (hg : g < w0.heap.size) (hb : W.grownBy W' (some g)) : MemG w0 g E W' :=
  ⟨h.1.keep hb.size (fun k h1 hk => hb.block k hk (fun e => by injection e with e; omega)), grownBy_trans h.2 hb⟩
theorem MemG.alloc (h : MemG w0 g E W) {b : Nat} (hb0 : b = W.heap.size) (t : TypeId) (arr : Array Value) (cs : List Value) (ha : arr = cs.toArray) : MemG w0 g (blkE b t cs :: E) (W.alloc (.cells arr t)) := by
  subst hb0 ha
  have hb : Below W.heap.size W (W.alloc (.cells cs.toArray t)) := (Below.refl _ _).alloc (Nat.le_refl _) _
  refine ⟨⟨?_, Nat.le_succ _, Blk.new W t cs, h.1.keep (Nat.le_refl _) (fun k _ hk => hb.block k hk)⟩, grownB h.2 hb⟩
  show W.heap.size + 1 ≤ _
  simp
theorem MemG.call (h : MemG w0 g E W) (hb : Below W.heap.size W W') (e : Ent) (hl : e.lo = W.heap.size) (hh : e.hi = W'.heap.size) (hp : e.P W') : MemG w0 g (e :: E) W' :=
  ⟨⟨by rw [hh]; exact Nat.le_refl _, by rw [hl, hh]; exact hb.size, hp, by rw [hl]; exact h.1.keep (Nat.le_refl _) (fun k _ hk => hb.block k hk)⟩, grownB h.2 hb⟩
theorem MemG.put (h : MemG w0 g E W) (i : Nat) {b : Nat} {t : TypeId} {cs : List Value} (he : E[i]? = some (blkE b t cs)) (cs' : List Value) (hg : W.grownBy W' (some b)) (hb : Blk W' b t cs') : MemG w0 g (E.set i (blkE b t cs')) W' := by
  have hlow : w0.heap.size ≤ b := MemE.low h.1 i _ he
  refine ⟨(MemE.put h.1 i _ (blkE b t cs') he rfl rfl (fun k hk hne => hg.block k hk (fun e => hne ?_)) hb).keep hg.size (fun _ _ _ => rfl), grownA h.2 hg (fun k hk => by injection hk with hk; omega)⟩
  injection e with e
  subst e
  exact ⟨Nat.le_refl _, Nat.lt_succ_self _⟩
theorem MemG.setCell (h : MemG w0 g E W) (i : Nat) {b : Nat} {t : TypeId} {cs : List Value} (he : E[i]? = some (blkE b t cs)) (j : Nat) (u : Value) : MemG w0 g (E.set i (blkE b t (cs.set j u))) (W.setCell ⟨b, j, none⟩ u) :=
  h.put i he _ ⟨rfl, rfl, rfl, by simp [World.setCell], fun k _ hne => Below.heap_setCell _ _ _ _ (fun e => hne (by rw [e]))⟩ ((h.blk i he).set_ j u)
end
end Go.Proofs.Ytboeeopgghldnaa
namespace Go.Proofs.Ytboeeopgghldnaa
open Go.RowKit

/-- the list of choices that lies at A, p of them taken -/
def codesC (A : Option Addr) (n c p : Nat) : List Value := [.slice A n c, .int .i64 (p : Int)]
def nextV (l : List UInt8) (p m : Nat) : Nat := if p < l.length ∧ 1 ≤ m then (l.getD p 0).toNat % m else 0
def nextP (l : List UInt8) (p m : Nat) : Nat := if p < l.length ∧ 1 ≤ m then p + 1 else p
theorem nextP_le (l : List UInt8) (p m : Nat) (h : p ≤ l.length) : nextP l p m ≤ l.length := by unfold nextP; split <;> omega
theorem nextV_lt (l : List UInt8) (p m : Nat) (h : 1 ≤ m) : nextV l p m < m := by unfold nextV; split; exact Nat.mod_lt _ h; omega
set_option maxRecDepth 100000 in
theorem caseLeft_any (g : Nat) (A : Option Addr) (n c : Nat) (p : Nat) (w : World) (hg : Blk w g 55 (codesC A n c p)) :
    Calls Try.prog 29 #[.pointer (some ⟨g, 0, none⟩)] w fun e w' => e = .returned (.bool (decide (p < n))) ∧ Below w.heap.size w w' := by
  have HG := Lib.hid hg
  have hd : decide ((p : Int) < (n : Int)) = decide (p < n) := by simp
  obtain ⟨q, hq⟩ : ∃ q, decide (p < n) = q := ⟨_, rfl⟩
  rw [hq] at hd
  have HQ := Lib.hid hq
  clear hg hq
  go_enter Try.func29, Try.ntmps29
  have f0 := HG.out.cell 0
  have f1 := HG.out.cell 1
  rw [show (codesC A n c p)[0]? = some (.slice A n c) from rfl] at f0
  rw [show (codesC A n c p)[1]? = some (.int .i64 (p : Int)) from rfl] at f1
  go_upto_region 1 with fail
  go_region
  go_wp2
  go_ret
  exact ⟨by rw [HQ.out]; rfl, (Below.refl _ _).drew⟩
set_option maxRecDepth 100000 in
set_option maxHeartbeats 2000000 in
theorem caseNext_any (g : Nat) (A : Option Addr) (n c : Nat) (l : List UInt8) (p : Nat) (hn : n ≤ 100000) (hp : p ≤ n) (m : Nat) (hm : m ≤ 1000000) (B : Nat) (hB : B ≤ g) (w : World) (hg : Blk w g 55 (codesC A n c p)) (hr : Rd w B A n l) :
    Calls Try.prog 20 #[.pointer (some ⟨g, 0, none⟩), .int .i64 (m : Int)] w fun e w' => e = .returned (.int .i64 (nextV l p m : Int)) ∧ Blk w' g 55 (codesC A n c (nextP l p m)) ∧ w.grownBy w' (some g) := by
  have hl := hr.1
  have LC := caseLeft_any g A n c p w hg
  have HG := Lib.hid hg
  have HR := Lib.hid hr
  have HLC := Lib.hid LC
  clear hg hr LC
  by_cases hpn : p < n
  · by_cases hm1 : 1 ≤ m
    · have HV := Lib.hid (show nextV l p m = (l.getD p 0).toNat % m ∧ nextP l p m = p + 1 from ⟨if_pos ⟨by omega, hm1⟩, if_pos ⟨by omega, hm1⟩⟩)
      obtain ⟨b, off, rfl, hb0, _⟩ := HR.out.at_ (by omega)
      go_enter Try.func20, Try.ntmps20
      go_upto_region 1 with fail
      go_wp2_with fail
      refine HLC.out.mono ?_
      rintro e w1 ⟨rfl, hb⟩
      rw [decide_eq_true hpn]
      have HG1 := Lib.hid (HG.out.below hb HG.out.lt)
      have HR1 := Lib.hid ((HR.out.mono (Nat.le_trans hB (Nat.le_of_lt HG.out.lt))).below hb)
      have HW := Lib.hid (grownB (grown_refl w (some g)) hb)
      clear hb HLC
      have dm : decide ((m : Int) < 1) = false := by simp; omega
      have f0 := HG1.out.cell 0
      have f1 := HG1.out.cell 1
      rw [show (codesC (some ⟨b, off, none⟩) n c p)[0]? = some (.slice (some ⟨b, off, none⟩) n c) from rfl] at f0
      rw [show (codesC (some ⟨b, off, none⟩) n c p)[1]? = some (.int .i64 (p : Int)) from rfl] at f1
      have z1 := HG1.out.frozen 1
      have hw1 : IntKind.i64.wrap ((p : Int) + 1) = ((p + 1 : Nat) : Int) := by rw [IntWalk.i64_in _ (by omega)]; omega
      obtain ⟨p1, hp1⟩ : ∃ q, p + 1 = q := ⟨_, rfl⟩
      rw [hp1] at hw1
      have hs := HG1.out.set_ 1 (.int .i64 (p1 : Int))
      have HS := Lib.hid (show Blk (w1.setCell ⟨g, 1, none⟩ (.int .i64 (p1 : Int))) g 55 (codesC (some ⟨b, off, none⟩) n c p1) from hs)
      have HW2 := Lib.hid (show w.grownBy (w1.setCell ⟨g, 1, none⟩ (.int .i64 (p1 : Int))) (some g) from grown_set HW.out 1 _)
      have hfx : (w1.setCell ⟨g, 1, none⟩ (.int .i64 (p1 : Int))).cell? ⟨b, off + p, none⟩ = some (.int .u8 ((l.getD p 0).toNat : Int)) := by
        rw [World.cell?_of_block (w := w1) (Below.heap_setCell _ _ _ _ (by dsimp only; omega))]
        exact HR1.out.byt p hpn
      have HFX := Lib.hid hfx
      clear hs hfx
      go_upto_region 4 with fail
      clear f0 f1 z1 dm
      (try simp only [hw1])
      generalize w1.setCell ⟨g, 1, none⟩ (.int .i64 (p1 : Int)) = w2 at HS HW2 HFX ⊢
      clear hw1
      have f0 := HS.out.cell 0
      have f1 := HS.out.cell 1
      rw [show (codesC (some ⟨b, off, none⟩) n c p1)[0]? = some (.slice (some ⟨b, off, none⟩) n c) from rfl] at f0
      rw [show (codesC (some ⟨b, off, none⟩) n c p1)[1]? = some (.int .i64 (p1 : Int)) from rfl] at f1
      have fx := HFX.out
      generalize l.getD p 0 = x at fx HV
      have hw2 : IntKind.i64.wrap ((p1 : Int) - 1) = (p : Int) := by rw [IntWalk.i64_in _ (by omega)]; omega
      have hw3 : (p1 : Int) - 1 = (p : Int) := by omega
      have hw4 : IntKind.i64.wrap (p : Int) = (p : Int) := IntWalk.i64_in _ (by omega)
      have hx256 := x.toNat_lt
      have hw5 : IntKind.i64.wrap (x.toNat : Int) = (x.toNat : Int) := IntWalk.i64_in _ (by omega)
      have bp : (p : Int) < (n : Int) := by omega
      have hmz : ((m : Int) == 0) = false := by rw [beq_eq_false_iff_ne]; omega
      have hmz' : ¬ (m : Int) = 0 := by omega
      obtain ⟨r, hr⟩ : ∃ r, x.toNat % m = r := ⟨_, rfl⟩
      have hmod : (x.toNat : Int).tmod (m : Int) = (r : Int) := by rw [← hr, Int.tmod_eq_emod_of_nonneg (by omega), Int.natCast_emod]
      have hmod2 : (x.toNat : Int) % (m : Int) = (r : Int) := by rw [← hr, Int.natCast_emod]
      rw [hr, hp1] at HV
      have hwr : IntKind.i64.wrap (r : Int) = (r : Int) := IntWalk.i64_in _ (by rw [← hr]; have := Nat.mod_le x.toNat m; omega)
      clear hr
      go_region
      go_wp2
      go_ret
      exact ⟨by rw [HV.out.1]; rfl, by rw [HV.out.2]; exact HS.out.drew, grownD HW2.out⟩
    · have HV := Lib.hid (show nextV l p m = 0 ∧ nextP l p m = p from ⟨if_neg (by omega), if_neg (by omega)⟩)
      go_enter Try.func20, Try.ntmps20
      go_upto_region 1 with fail
      go_wp2_with fail
      refine HLC.out.mono ?_
      rintro e w1 ⟨rfl, hb⟩
      rw [decide_eq_true hpn]
      have HG1 := Lib.hid (HG.out.below hb HG.out.lt)
      have HW := Lib.hid (grownB (grown_refl w (some g)) hb)
      clear hb HLC
      have dm : decide ((m : Int) < 1) = true := by simp; omega
      go_wp2
      go_ret
      exact ⟨by rw [HV.out.1]; rfl, by rw [HV.out.2]; exact HG1.out, HW.out⟩
  · have HV := Lib.hid (show nextV l p m = 0 ∧ nextP l p m = p from ⟨if_neg (by omega), if_neg (by omega)⟩)
    go_enter Try.func20, Try.ntmps20
    go_upto_region 1 with fail
    go_wp2_with fail
    refine HLC.out.mono ?_
    rintro e w1 ⟨rfl, hb⟩
    rw [decide_eq_false hpn]
    have HG1 := Lib.hid (HG.out.below hb HG.out.lt)
    have HW := Lib.hid (grownB (grown_refl w (some g)) hb)
    clear hb HLC
    go_wp2
    go_ret
    exact ⟨by rw [HV.out.1]; rfl, by rw [HV.out.2]; exact HG1.out, HW.out⟩
end Go.Proofs.Ytboeeopgghldnaa
namespace Go.Proofs.Ytboeeopgghldnaa
open Go.RowKit

theorem Rd.kept {w w' : World} {B g n : Nat} {A : Option Addr} {l : List UInt8} (h : Rd w B A n l) (hB : B ≤ g) (hg : g < w.heap.size) (hb : w.grownBy w' (some g)) : Rd w' B A n l :=
  h.keep fun q hq => World.cell?_of_block (hb.block q.block (by omega) (fun e => by injection e with e; omega))
theorem Rd.below2 {w w' : World} {B n : Nat} {A : Option Addr} {l : List UInt8} (h : Rd w B A n l) (hB : B ≤ w.heap.size) (hb : Below w.heap.size w w') : Rd w' B A n l := h.below (hb.mono hB)
end Go.Proofs.Ytboeeopgghldnaa
namespace Go.Proofs.Ytboeeopgghldnaa
open Go.RowKit

/-- the choices at a world: p of them taken -/
structure CodesAt (W : World) (g : Nat) (A : Option Addr) (n c : Nat) (l : List UInt8) (B : Nat) (p : Nat) : Prop where
  blk : Blk W g 55 (codesC A n c p)
  rd : Rd W B A n l
  le : B ≤ g
  lt : g < W.heap.size
  small : n ≤ 100000
  pos : p ≤ n
section
variable {W W' : World} {g : Nat} {A : Option Addr} {n c : Nat} {l : List UInt8} {B p : Nat}
theorem CodesAt.below (h : CodesAt W g A n c l B p) (hb : Below W.heap.size W W') : CodesAt W' g A n c l B p :=
  ⟨h.blk.below hb h.lt, h.rd.below2 (by have := h.le; have := h.lt; omega) hb, h.le, Nat.lt_of_lt_of_le h.lt hb.size, h.small, h.pos⟩
theorem CodesAt.put (h : CodesAt W g A n c l B p) {b : Nat} (hg : W.grownBy W' (some b)) (hb : g < b) : CodesAt W' g A n c l B p :=
  ⟨h.blk.grown hg (fun e => by injection e with e; omega), h.rd.keep (fun q hq => World.cell?_of_block (hg.block q.block (by have := h.le; have := h.lt; omega) (fun e => by injection e with e; have := h.le; omega))), h.le, Nat.lt_of_lt_of_le h.lt hg.size, h.small, h.pos⟩
theorem CodesAt.next (h : CodesAt W g A n c l B p) {q : Nat} (hq : q ≤ n) (hb : Blk W' g 55 (codesC A n c q)) (hg : W.grownBy W' (some g)) : CodesAt W' g A n c l B q :=
  ⟨hb, h.rd.kept h.le h.lt hg, h.le, Nat.lt_of_lt_of_le h.lt hg.size, h.small, hq⟩
theorem CodesAt.nextLe (h : CodesAt W g A n c l B p) (m : Nat) : nextP l p m ≤ n := by have := nextP_le l p m (by rw [h.rd.1]; exact h.pos); rw [h.rd.1] at this; exact this
theorem CodesAt.callNext (h : CodesAt W g A n c l B p) (m : Nat) (hm : m ≤ 1000000) :
    Calls Try.prog 20 #[.pointer (some ⟨g, 0, none⟩), .int .i64 (m : Int)] W fun e w' => e = .returned (.int .i64 (nextV l p m : Int)) ∧ CodesAt w' g A n c l B (nextP l p m) ∧ W.grownBy w' (some g) :=
  (caseNext_any g A n c l p h.small h.pos m hm B h.le W h.blk h.rd).mono fun _ _ k => ⟨k.1, h.next (h.nextLe m) k.2.1 k.2.2, k.2.2⟩
end
end Go.Proofs.Ytboeeopgghldnaa
namespace Go.Proofs.Ytboeeopgghldnaa
open Go.RowKit

set_option maxRecDepth 100000 in
set_option maxHeartbeats 8000000 in
theorem caseBool_any (g : Nat) (A : Option Addr) (n c : Nat) (l : List UInt8) (B p : Nat) (W : World) (h : CodesAt W g A n c l B p) :
    Calls Try.prog 21 #[.pointer (some ⟨g, 0, none⟩)] W fun e w' => e = .returned (.bool (nextV l p 2 == 1)) ∧ CodesAt w' g A n c l B (nextP l p 2) ∧ W.grownBy w' (some g) := by
  have hn := h.callNext 2 (by omega)
  rw [show ((2 : Nat) : Int) = 2 from rfl] at hn
  have HN := Lib.hid hn
  clear hn h
  go_enter Try.func21, Try.ntmps21
  go_wp2_with fail
  refine HN.out.mono ?_
  rintro e w1 ⟨rfl, hc, hg⟩
  obtain ⟨v, hv⟩ : ∃ v, nextV l p 2 = v := ⟨_, rfl⟩
  rw [hv]
  have HV := Lib.hid hv
  have HF := Lib.hid (And.intro hc hg)
  clear hc hg hv HN
  have hb : ((v : Int) == 1) = (v == 1) := by rw [Bool.eq_iff_iff, beq_iff_eq, beq_iff_eq]; omega
  go_wp2
  go_ret
  exact ⟨by rw [HV.out]; rfl, HF.out.1, HF.out.2⟩
end Go.Proofs.Ytboeeopgghldnaa
namespace Go.Proofs.Ytboeeopgghldnaa
open Go.RowKit

/-- the address behind i elements, as the model keeps it -/
def addrOf (A : Option Addr) (i c : Nat) : Option Addr := if c = i then A else A.map (·.add (i * 1))
theorem Rd.behind {W : World} {B n : Nat} {A : Option Addr} {l : List UInt8} (h : Rd W B A n l) (i c : Nat) (hi : i ≤ n) (hc : n ≤ c) : Rd W B (addrOf A i c) (n - i) (l.drop i) := by
  unfold addrOf
  by_cases e : c = i
  · have e0 : n - i = 0 := by omega
    rw [if_pos e, e0, List.drop_of_length_le (by have := h.1; omega)]
    exact Rd.nil _ _ _
  · rw [if_neg e]
    rcases Nat.eq_zero_or_pos (n - i) with h0 | h0
    · rw [h0, List.drop_of_length_le (by have := h.1; omega)]
      exact Rd.nil _ _ _
    · obtain ⟨b, off, rfl, _, _⟩ := h.2 (by omega)
      rw [Option.map_some, Go.WideShapes.add_plain, Nat.mul_one]
      exact h.drop i b off rfl hi
end Go.Proofs.Ytboeeopgghldnaa
namespace Go.Proofs.Ytboeeopgghldnaa
open Go.RowKit

set_option maxRecDepth 100000 in
theorem caseNew_any (A : Option Addr) (n c m k : Nat) (hm : m ≤ 1000000) (hnc : n ≤ c) (hcm : c ≤ maxLen) (hk : min n m = k) (w : World) :
    Calls Try.prog 19 #[.slice A n c, .int .i64 (m : Int)] w fun e w' => e = .returned (.pointer (some ⟨w.heap.size, 0, none⟩)) ∧ Mem w [blkE w.heap.size 55 (codesC A k c 0)] w' := by
  have hc63 : (c : Int) ≤ 9223372036854775807 := by unfold maxLen at hcm; omega
  have HM := Lib.hid ((Mem.nil w).alloc rfl 55 #[.slice A k c, .int .i64 0] (codesC A k c 0) rfl)
  by_cases h : n ≤ m
  · obtain rfl : k = n := by omega
    have h1 : ¬ (m : Int) < (k : Int) := by omega
    have h2 : (k : Int) ≤ (m : Int) := by omega
    have h3 : (k : Int) ≤ (c : Int) := by omega
    have h4 : (if (m : Int) < (k : Int) then (m : Int) else (k : Int)) = (k : Int) := if_neg h1
    clear hk
    go_enter Try.func19, Try.ntmps19
    go_wp2
    go_ret
    exact ⟨rfl, HM.out⟩
  · obtain rfl : k = m := by omega
    have h1 : (k : Int) < (n : Int) := by omega
    have h2 : ¬ (n : Int) ≤ (k : Int) := by omega
    have h3 : (k : Int) ≤ (c : Int) := by omega
    have h4 : (if (k : Int) < (n : Int) then (k : Int) else (n : Int)) = (k : Int) := if_pos h1
    clear hk
    go_enter Try.func19, Try.ntmps19
    go_wp2
    go_ret
    exact ⟨rfl, HM.out⟩
end Go.Proofs.Ytboeeopgghldnaa
namespace Go.Proofs.Ytboeeopgghldnaa
open Go.RowKit

theorem RdRow.kept {W W' : World} {B k n g : Nat} {A : Option Addr} {os : List (List Value)} (h : RdRow W B A k n os) (hB : B ≤ W.heap.size) (hg : W.grownBy W' (some g)) (hne : ∀ ad, A = some ad → g < ad.block) : RdRow W' B A k n os :=
  ⟨h.1, h.2.1, fun hn => by
    obtain ⟨b, off, e, hlt, hc⟩ := h.2.2 hn
    exact ⟨b, off, e, hlt, fun j v hv => (World.cell?_of_block (hg.block b (by omega) (fun e2 => by injection e2 with e2; have := hne _ e; simp only at this; omega))).trans (hc j v hv)⟩⟩
theorem At.kept {W W' : World} {b off g : Nat} {cs : List Value} (h : At W b off cs) (hb : b < W.heap.size) (hg : W.grownBy W' (some g)) (hne : g < b) : At W' b off cs := fun j v hv => (World.cell?_of_block (hg.block b hb (fun e2 => by injection e2 with e2; omega))).trans (h j v hv)
end Go.Proofs.Ytboeeopgghldnaa
namespace Go.Proofs.Ytboeeopgghldnaa
open Go.RowKit

theorem SlRd.kept {W W' : World} {n g : Nat} {A : Option Addr} {l : List SlotM} (h : SlRd W W.heap.size A n l) (hg : W.grownBy W' (some g)) (hne : ∀ ad, A = some ad → g < ad.block) : SlRd W' W'.heap.size A n l := ⟨(h.1.kept (Nat.le_refl _) hg hne).mono hg.size, h.2⟩
/-- a call that changes the choices' block keeps what the law holds -/
theorem made_keep {w W W' : World} {G n : Nat} {A : Option Addr} {l : List SlotM} (h : SlRd W W.heap.size A n l ∧ (∀ ad, A = some ad → G < ad.block) ∧ Below w.heap.size w W) (hG : w.heap.size ≤ G) (hg : W.grownBy W' (some G)) : SlRd W' W'.heap.size A n l ∧ (∀ ad, A = some ad → G < ad.block) ∧ Below w.heap.size w W' :=
  ⟨h.1.kept hg h.2.1, h.2.1, h.2.2.grown hg h.2.2.size (fun b hb => by injection hb with hb; omega)⟩
set_option maxRecDepth 100000 in
set_option maxHeartbeats 16000000 in
theorem made_any (A : Option Addr) (n c : Nat) (l : List UInt8) (hnc : n ≤ c) (hcm : c ≤ maxLen) (w : World) (hr : Rd w w.heap.size A n l) :
    Calls Try.prog 6 #[.slice A n c] w fun e w' => ∃ xs A' c', MadeIx xs ∧ e = .returned (.slice A' xs.length c') ∧ SlRd w' w'.heap.size A' xs.length (takeAll xs) ∧ (xs.length ≤ c' ∧ c' ≤ maxLen) ∧ Below w.heap.size w w' := by
  obtain ⟨k0, hk⟩ : ∃ k, min n 60 = k := ⟨_, rfl⟩
  have HR := Lib.hid (hr.take (show k0 ≤ n by omega))
  have HW1 := Lib.hid (caseNew_any A n c 60 k0 (by omega) hnc hcm hk w)
  have hk60 : k0 ≤ 60 := by omega
  generalize l.take k0 = lk at HR
  clear hr hk hnc hcm
  go_enter Try.func6, Try.ntmps6
  go_wp2_with fail
  refine HW1.out.mono ?_
  rintro e w1 ⟨rfl, hm⟩
  have hc : CodesAt w1 w.heap.size A k0 c lk w.heap.size 0 := ⟨hm.blk 0 rfl, HR.out.below hm.bel, Nat.le_refl _, (hm.blk 0 rfl).lt, by omega, Nat.zero_le _⟩
  have HB1 := Lib.hid hm.bel
  obtain ⟨G, hG⟩ : ∃ G, w.heap.size = G := ⟨_, rfl⟩
  have hn20 := hc.callNext 20 (by omega)
  rw [show ((20 : Nat) : Int) = 20 from rfl] at hn20
  have hv20 := nextV_lt lk 0 20 (by omega)
  have HC1 := Lib.hid hc
  rw [hG] at hn20 HC1 ⊢
  have HN20 := Lib.hid hn20
  have HGE := Lib.hid (show w.heap.size ≤ G by omega)
  clear hc hm HW1 hn20 hG HR
  go_wp2_with fail
  refine HN20.out.mono ?_
  rintro e w2 ⟨rfl, hcd, hg⟩
  obtain ⟨t, ht⟩ : ∃ t, nextV lk 0 20 = t := ⟨_, rfl⟩
  rw [ht] at hv20 ⊢
  have HC2 := Lib.hid (And.intro hcd (show Below w.heap.size w w2 from HB1.out.grown hg HB1.out.size (fun b hb => by injection hb with hb; have := HGE.out; omega)))
  generalize nextP lk 0 20 = q0 at HC2
  clear hcd hg HN20 HC1 HB1 ht
  go_wp2_with fail
  go_loopw [5, 4] (fun i vo wr => ∃ (j : Nat) (xs : List (Nat × UInt8 × Bool)) (q : Nat) (A9 : Option Addr) (c9 : Nat), xs.length + j ≤ 19 ∧ i = .int .i64 (j : Int) ∧ vo = .slice A9 xs.length c9 ∧ (∀ x ∈ xs, x.1 < 4294967296) ∧ (xs.length ≤ c9 ∧ c9 ≤ maxLen) ∧ CodesAt wr G A k0 c lk G q ∧ SlRd wr wr.heap.size A9 xs.length (takeAll xs) ∧ (∀ ad, A9 = some ad → G < ad.block) ∧ Below w.heap.size w wr) (fun i _ _ => (intOf i).toNat)
  case atStart => exact ⟨t, [], q0, none, 0, by simp only [List.length_nil]; omega, rfl, rfl, (fun _ h => by cases h), ⟨Nat.le_refl _, by unfold maxLen; omega⟩, HC2.out.1, SlRd.nil, (fun _ h => by cases h), HC2.out.2⟩
  case round =>
    clear HC2 hv20
    obtain ⟨j, xs, q, A9, c9, hj, rfl, rfl, hxs, hcp, hcd, hsl⟩ := hrel
    have HCP := Lib.hid hcp
    have HXS := Lib.hid hxs
    have HLN := Lib.hid (takeAll_len xs.length xs rfl (by omega))
    obtain ⟨ls, hls⟩ : ∃ z, takeAll xs = z := ⟨_, rfl⟩
    obtain ⟨m, hm⟩ : ∃ z, xs.length = z := ⟨_, rfl⟩
    rw [hls] at hsl HLN
    rw [hm] at hsl hj HCP HLN ⊢
    have HLS := Lib.hid (And.intro hls hm)
    have HC := Lib.hid (And.intro hcd hsl)
    clear hcp hxs hcd hsl hls hm
    by_cases hj0 : 0 < j
    · have d1 : decide ((j : Int) > 0) = true := by simp; omega
      obtain ⟨p, hp⟩ : ∃ p, j = p + 1 := ⟨j - 1, by omega⟩
      have y5 : IntKind.i64.wrap ((j : Int) - 1) = (p : Int) := by rw [IntWalk.i64_in _ (by omega)]; omega
      have y6 : (j : Int) - 1 = (p : Int) := by omega
      have hj2 : m + 1 + p ≤ 19 := by omega
      have hjp : p < j := by omega
      clear hp
      have hn6 := HC.out.1.callNext 6 (by omega)
      rw [show ((6 : Nat) : Int) = 6 from rfl] at hn6
      have HN6 := Lib.hid hn6
      have hv6 := nextV_lt lk q 6 (by omega)
      obtain ⟨u, hu⟩ : ∃ z, nextV lk q 6 = z := ⟨_, rfl⟩
      rw [hu] at hv6 HN6
      have y1 : IntKind.u32.wrap (u : Int) = (u : Int) := by rw [IntKind.wrap_u32]; omega
      have y2 : (u : Int) % 4294967296 = (u : Int) := by omega
      clear hn6 hu
      go_wp2_with fail
      refine HN6.out.mono ?_
      rintro e w6 ⟨rfl, hcd, hg⟩
      have HC6 := Lib.hid (And.intro hcd (made_keep HC.out.2 HGE.out hg))
      generalize nextP lk q 6 = q1 at HC6
      clear hcd hg HC HN6
      have hn5 := HC6.out.1.callNext 5 (by omega)
      rw [show ((5 : Nat) : Int) = 5 from rfl] at hn5
      have HN5 := Lib.hid hn5
      obtain ⟨f, hf⟩ : ∃ z, nextV lk q1 5 = z := ⟨_, rfl⟩
      rw [hf] at HN5
      clear hn5 hf
      go_wp2_with fail
      refine HN5.out.mono ?_
      rintro e w7 ⟨rfl, hcd, hg⟩
      have HC7 := Lib.hid (And.intro hcd (made_keep HC6.out.2 HGE.out hg))
      generalize nextP lk q1 5 = q2 at HC7
      clear hcd hg HC6 HN5
      by_cases hf1 : f = 1
      · have e1 : ((f : Int) == 1) = true := by rw [beq_iff_eq]; omega
        obtain ⟨ws, hws⟩ : ∃ z, 4294967295 - u = z := ⟨_, rfl⟩
        have hws2 : ws < 4294967296 := by omega
        have y3 : IntKind.u32.wrap (4294967295 - (u : Int)) = (ws : Int) := by rw [IntKind.wrap_u32]; omega
        have y4 : (4294967295 - (u : Int)) % 4294967296 = (ws : Int) := by omega
        clear hws
        have hn3 := HC7.out.1.callNext 3 (by omega)
        rw [show ((3 : Nat) : Int) = 3 from rfl] at hn3
        have HN3 := Lib.hid hn3
        clear hn3
        obtain ⟨v3, hv3⟩ : ∃ z, nextV lk q2 3 = z := ⟨_, rfl⟩
        have hv3b := nextV_lt lk q2 3 (by omega)
        rw [hv3] at HN3 hv3b
        obtain ⟨Y, hY⟩ : ∃ y, UInt8.ofNat v3 = y := ⟨_, rfl⟩
        have hYn : Y.toNat = v3 := by rw [← hY, UInt8.toNat_ofNat', Nat.mod_eq_of_lt (by omega)]
        have y7 : IntKind.u8.wrap (v3 : Int) = (Y.toNat : Int) := by rw [IntKind.wrap_u8, hYn]; omega
        have y8 : (v3 : Int) % 256 = (Y.toNat : Int) := by rw [hYn]; omega
        obtain ⟨ky, hky⟩ : ∃ z, ((keyB Y).map u8v).toArray = z := ⟨_, rfl⟩
        have hby := key_byte Y
        rw [hky] at hby
        have HBY := Lib.hid hby
        have HKY := Lib.hid hky
        clear hby hky hY hYn hv3
        go_wp2_with fail
        refine HN3.out.mono ?_
        rintro e w8 ⟨rfl, hcd, hg⟩
        have HC8 := Lib.hid (And.intro hcd (made_keep HC7.out.2 HGE.out hg))
        generalize nextP lk q2 3 = q3 at HC8
        clear hcd hg HC7 HN3
        have hbl := caseBool_any G A k0 c lk G q3 w8 HC8.out.1
        obtain ⟨bl, hbl2⟩ : ∃ z, (nextV lk q3 2 == 1) = z := ⟨_, rfl⟩
        rw [hbl2] at hbl
        have HBL := Lib.hid hbl
        clear hbl hbl2
        go_wp2_with (refine wpList_build_as rfl 26 [(0, .tmp 28)] rfl ky ?_ ?_; exact HBY.out)
        refine HBL.out.mono ?_
        rintro e w9 ⟨rfl, hcd, hg⟩
        have HC9 := Lib.hid (And.intro hcd (made_keep HC8.out.2 HGE.out hg))
        generalize nextP lk q3 2 = q4 at HC9
        clear hcd hg HC8 HBL
        have htk := refTake_new A9 m c9 ls ws (keyB Y) bl w9 hws2 (keyB_length Y) ⟨by omega, HCP.out.1, HCP.out.2, HC9.out.2.1⟩
        have hl2 := takeM_len (show ls.length < 32 by have h := HLN.out; omega) ws (keyB Y) bl
        have hsn := takeAll_snoc xs (ws, Y, bl)
        dsimp only at hsn
        rw [HLS.out.1] at hsn
        rw [HLN.out] at hl2
        rw [HKY.out] at htk
        obtain ⟨l2, n2, e2, htm⟩ : ∃ (l2 : List SlotM) (n2 e2 : Nat), takeM ls ws (keyB Y) bl = (l2, n2, e2) := ⟨_, _, _, rfl⟩
        rw [htm] at htk hl2 hsn
        dsimp only at htk hl2 hsn
        have HTK := Lib.hid htk
        have HL2 := Lib.hid hl2
        have HSN := Lib.hid hsn
        clear htk hl2 hsn htm
        go_wp2_with fail
        refine HTK.out.mono ?_
        rintro e w10 ⟨v, rfl, ⟨A8, c8, rfl, h1, h2, hr, hb⟩, hnew⟩
        rw [HL2.out] at h1 hr hnew ⊢
        obtain ⟨ab, ao, rfl⟩ := hr.1.addr (by omega)
        have hG9 := HC9.out.1.lt
        have HF := Lib.hid (show (m + 1 ≤ c8 ∧ c8 ≤ maxLen) ∧ CodesAt w10 G A k0 c lk G q4 ∧ SlRd w10 w10.heap.size (some ⟨ab, ao, none⟩) (m + 1) l2 ∧ (∀ ad, (some ⟨ab, ao, none⟩ : Option Addr) = some ad → G < ad.block) ∧ Below w.heap.size w w10 from ⟨⟨h1, h2⟩, HC9.out.1.below hb, hr, fun ad h => by injection h with h; subst h; have h0 := hnew ab ao _ _ rfl; show G < ab; omega, HC9.out.2.2.2.trans (hb.mono HC9.out.2.2.2.size)⟩)
        clear h1 h2 hr hb hnew hG9 HC9 HTK
        go_wp2_with fail
        go_roundw
        case rel => exact ⟨p, xs ++ [(ws, Y, bl)], q4, some ⟨ab, ao, none⟩, c8, by rw [List.length_append, List.length_singleton, HLS.out.2]; omega, rfl, by rw [List.length_append, List.length_singleton, HLS.out.2], fun x hx => by
          rcases List.mem_append.1 hx with hx | hx
          · exact HXS.out x hx
          · rw [List.mem_singleton] at hx; subst hx; exact hws2, by rw [List.length_append, List.length_singleton, HLS.out.2]; exact HF.out.1, HF.out.2.1, by rw [List.length_append, List.length_singleton, HLS.out.2, HSN.out]; exact HF.out.2.2.1, HF.out.2.2.2⟩
        case measure => simp [intOf]; omega
      · have e1 : ((f : Int) == 1) = false := by rw [Bool.eq_false_iff]; intro h; rw [beq_iff_eq] at h; omega
        have hws2 : u < 4294967296 := by omega
        have hn3 := HC7.out.1.callNext 3 (by omega)
        rw [show ((3 : Nat) : Int) = 3 from rfl] at hn3
        have HN3 := Lib.hid hn3
        clear hn3
        obtain ⟨v3, hv3⟩ : ∃ z, nextV lk q2 3 = z := ⟨_, rfl⟩
        have hv3b := nextV_lt lk q2 3 (by omega)
        rw [hv3] at HN3 hv3b
        obtain ⟨Y, hY⟩ : ∃ y, UInt8.ofNat v3 = y := ⟨_, rfl⟩
        have hYn : Y.toNat = v3 := by rw [← hY, UInt8.toNat_ofNat', Nat.mod_eq_of_lt (by omega)]
        have y7 : IntKind.u8.wrap (v3 : Int) = (Y.toNat : Int) := by rw [IntKind.wrap_u8, hYn]; omega
        have y8 : (v3 : Int) % 256 = (Y.toNat : Int) := by rw [hYn]; omega
        obtain ⟨ky, hky⟩ : ∃ z, ((keyB Y).map u8v).toArray = z := ⟨_, rfl⟩
        have hby := key_byte Y
        rw [hky] at hby
        have HBY := Lib.hid hby
        have HKY := Lib.hid hky
        clear hby hky hY hYn hv3
        go_wp2_with fail
        refine HN3.out.mono ?_
        rintro e w8 ⟨rfl, hcd, hg⟩
        have HC8 := Lib.hid (And.intro hcd (made_keep HC7.out.2 HGE.out hg))
        generalize nextP lk q2 3 = q3 at HC8
        clear hcd hg HC7 HN3
        have hbl := caseBool_any G A k0 c lk G q3 w8 HC8.out.1
        obtain ⟨bl, hbl2⟩ : ∃ z, (nextV lk q3 2 == 1) = z := ⟨_, rfl⟩
        rw [hbl2] at hbl
        have HBL := Lib.hid hbl
        clear hbl hbl2
        go_wp2_with (refine wpList_build_as rfl 26 [(0, .tmp 28)] rfl ky ?_ ?_; exact HBY.out)
        refine HBL.out.mono ?_
        rintro e w9 ⟨rfl, hcd, hg⟩
        have HC9 := Lib.hid (And.intro hcd (made_keep HC8.out.2 HGE.out hg))
        generalize nextP lk q3 2 = q4 at HC9
        clear hcd hg HC8 HBL
        have htk := refTake_new A9 m c9 ls u (keyB Y) bl w9 hws2 (keyB_length Y) ⟨by omega, HCP.out.1, HCP.out.2, HC9.out.2.1⟩
        have hl2 := takeM_len (show ls.length < 32 by have h := HLN.out; omega) u (keyB Y) bl
        have hsn := takeAll_snoc xs (u, Y, bl)
        dsimp only at hsn
        rw [HLS.out.1] at hsn
        rw [HLN.out] at hl2
        rw [HKY.out] at htk
        obtain ⟨l2, n2, e2, htm⟩ : ∃ (l2 : List SlotM) (n2 e2 : Nat), takeM ls u (keyB Y) bl = (l2, n2, e2) := ⟨_, _, _, rfl⟩
        rw [htm] at htk hl2 hsn
        dsimp only at htk hl2 hsn
        have HTK := Lib.hid htk
        have HL2 := Lib.hid hl2
        have HSN := Lib.hid hsn
        clear htk hl2 hsn htm
        go_wp2_with fail
        refine HTK.out.mono ?_
        rintro e w10 ⟨v, rfl, ⟨A8, c8, rfl, h1, h2, hr, hb⟩, hnew⟩
        rw [HL2.out] at h1 hr hnew ⊢
        obtain ⟨ab, ao, rfl⟩ := hr.1.addr (by omega)
        have hG9 := HC9.out.1.lt
        have HF := Lib.hid (show (m + 1 ≤ c8 ∧ c8 ≤ maxLen) ∧ CodesAt w10 G A k0 c lk G q4 ∧ SlRd w10 w10.heap.size (some ⟨ab, ao, none⟩) (m + 1) l2 ∧ (∀ ad, (some ⟨ab, ao, none⟩ : Option Addr) = some ad → G < ad.block) ∧ Below w.heap.size w w10 from ⟨⟨h1, h2⟩, HC9.out.1.below hb, hr, fun ad h => by injection h with h; subst h; have h0 := hnew ab ao _ _ rfl; show G < ab; omega, HC9.out.2.2.2.trans (hb.mono HC9.out.2.2.2.size)⟩)
        clear h1 h2 hr hb hnew hG9 HC9 HTK
        go_wp2_with fail
        go_roundw
        case rel => exact ⟨p, xs ++ [(u, Y, bl)], q4, some ⟨ab, ao, none⟩, c8, by rw [List.length_append, List.length_singleton, HLS.out.2]; omega, rfl, by rw [List.length_append, List.length_singleton, HLS.out.2], fun x hx => by
          rcases List.mem_append.1 hx with hx | hx
          · exact HXS.out x hx
          · rw [List.mem_singleton] at hx; subst hx; exact hws2, by rw [List.length_append, List.length_singleton, HLS.out.2]; exact HF.out.1, HF.out.2.1, by rw [List.length_append, List.length_singleton, HLS.out.2, HSN.out]; exact HF.out.2.2.1, HF.out.2.2.2⟩
        case measure => simp [intOf]; omega
    · obtain rfl : j = 0 := by omega
      have d1 : decide (((0 : Nat) : Int) > 0) = false := by simp
      have HF := Lib.hid HC.out.2
      clear HC
      go_wp2_with fail
      go_ret
      exact ⟨xs, A9, c9, ⟨by rw [HLS.out.2]; omega, HXS.out⟩, by rw [HLS.out.2]; rfl, by rw [HLS.out.2, HLS.out.1]; exact HF.out.1, by rw [HLS.out.2]; exact HCP.out, HF.out.2.2⟩
end Go.Proofs.Ytboeeopgghldnaa
