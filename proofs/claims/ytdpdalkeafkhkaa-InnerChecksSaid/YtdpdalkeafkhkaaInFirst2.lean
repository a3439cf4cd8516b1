/-
  The contracts of inner's size, first and address. No statement is proved here.
-/
import Derived.Test.YtdpdalkeafkhkaaInFirst
import Derived.Test.YtdpdalkeafkhkaaCodes3
import Derived.RegionTactic
namespace Go.Proofs.Ytdpdalkeafkhkaa
open Go.RowKit

theorem run_clear_blk {P : Program} (w : World) (t e ty : TypeId) (ht : P.underlying t = some (.slice e)) (hv : ∀ w, (zeroValue e).run P w = .ok (.int .u8 0) w) (g off n c : Nat) (bt : TypeId) (old : List Value) (hg : Blk w g bt old) (hfit : off + n ≤ old.length) :
    ∃ w', (Builtin.clear_ #[t] ty #[.slice (some ⟨g, off, none⟩) n c]).run P w = .ok (.tuple #[]) w' ∧ Blk w' g bt (old.take off ++ List.replicate n (.int .u8 0) ++ old.drop (off + n)) ∧ w.grownBy w' (some g) := by
  cases n with
  | zero =>
    refine ⟨w, ?_, ?_, ⟨rfl, rfl, rfl, Nat.le_refl _, fun _ _ _ => rfl⟩⟩
    · simp [Builtin.clear_, run_underlying ht]
    · simp only [List.replicate_zero, List.append_nil, Nat.add_zero, List.take_append_drop]; exact hg
  | succ m =>
    have hst := run_storeCells_at P g off bt (List.replicate (m + 1) (Value.int .u8 0)) 0 old.toArray w hg (by simpa using hfit) (by intro v hv; rw [List.eq_of_mem_replicate hv]; rfl)
    rw [Nat.add_zero] at hst
    refine ⟨w.setRow g (old.toArray.toList.take off ++ List.replicate (m + 1) (Value.int .u8 0) ++ old.toArray.toList.drop (off + (List.replicate (m + 1) (Value.int .u8 0)).length)).toArray, ?_, ?_, ⟨rfl, rfl, rfl, by simp, fun k _ hk => setRow_other w g k _ (fun e => hk (by simp [e]))⟩⟩
    · have hz : (Builtin.zeroCells (Value.int .u8 0).cells (m + 1)).toList = List.replicate (m + 1) (.int .u8 0) := by
        apply List.ext_getElem
        · simp [Builtin.zeroCells, Value.cells]
        · intro i h1 h2; simp [Builtin.zeroCells, Value.cells, Nat.mod_one]
      simp only [Builtin.clear_, List.getElem?_toArray, List.getElem?_cons_zero, Sem.run_bind, run_underlying ht, Result.andThen_ok, hv, hz]
      rw [hst]
      rfl
    · have := setRow_heap w g old.toArray (old.toArray.toList.take off ++ List.replicate (m + 1) (Value.int .u8 0) ++ old.toArray.toList.drop (off + (List.replicate (m + 1) (Value.int .u8 0)).length)).toArray bt _ hg
      unfold Blk
      simpa using this
theorem wpList_clear_blk {P : Program} (w : World) {ops : Array Oper} {rest : List Oper} {o : Oper} {a : Act} {Q : Exit → Act → World → Prop} (hgd : o.guard = none) (d : Operand) (t e : TypeId)
    (ho : o.op = .call { callee := .builtin .clear, args := #[d], argTypes := #[t] }) (ht : P.underlying t = some (.slice e)) (hv : ∀ w, (zeroValue e).run P w = .ok (.int .u8 0) w)
    (g off n c : Nat) (hd : a.eval d = .slice (some ⟨g, off, none⟩) n c) (bt : TypeId) (old : List Value) (hg : Blk w g bt old) (hfit : off + n ≤ old.length)
    (h : ∀ w', Blk w' g bt (old.take off ++ List.replicate n (.int .u8 0) ++ old.drop (off + n)) → w.grownBy w' (some g) → wpList P ops Q rest (a.put o.dst (.tuple #[])) w') : wpList P ops Q (o :: rest) a w := by
  refine wpList_plain hgd fun K hK => ?_
  obtain ⟨w', hrun, h2, h3⟩ := run_clear_blk (P := P) w t e o.type ht hv g off n c bt old hg hfit
  unfold Oper.wp execOp
  simp only [ho, resolve, invoke, builtin, Sem.run_bind, Sem.run_pure, Result.andThen_ok, List.map_toArray, List.map_cons, List.map_nil, hd, hrun]
  exact hK _ _ (h w' h2 h3)

set_option maxRecDepth 100000 in
theorem size_any (a : AddrM) (w : World) :
    Calls Try.prog 38 #[.agg a.cells.toArray] w fun e w' => e = .returned (.int .i64 (widthM a : Int)) ∧ Below w.heap.size w w' := by
  obtain ⟨ca, hca⟩ : ∃ c, a.cells.toArray = c := ⟨_, rfl⟩
  rw [hca]
  have HM := Lib.hid (show Mem w [blkE w.heap.size 29 a.cells] (w.alloc (.cells ca 29)) from (Mem.nil w).alloc rfl 29 ca a.cells hca.symm)
  obtain ⟨sx, hsx⟩ : ∃ q, a.six = q := ⟨_, rfl⟩
  have HW := Lib.hid (show widthM a = if sx then 128 else 32 by rw [widthM, hsx])
  clear hca
  go_enter Try.func38, Try.ntmps38
  go_upto_region 1 with fail
  generalize w.alloc (.cells ca 29) = w1 at HM ⊢
  have f6 := ((HM.out.blk 0 rfl).cell 0).trans (AddrM.six_cell a)
  rw [hsx] at f6
  cases sx with
  | true =>
    go_wp2
    go_ret
    exact ⟨by rw [HW.out]; rfl, HM.out.bel⟩
  | false =>
    go_wp2
    go_ret
    exact ⟨by rw [HW.out]; rfl, HM.out.bel⟩
theorem firstM_cells (a : AddrM) (h : a.ok) (q m : Nat) (hq : q < 16) (k : Nat) (hk : k / 8 = q) (hm : k % 8 = m) (y : UInt8) (hy : cutByte (a.ip.getD q 0) m = y) :
    (AddrM.mk a.six (a.ip.set q y)).cells.take (1 + (q + 1)) ++ List.replicate (16 - (q + 1)) (.int .u8 0) ++ (AddrM.mk a.six (a.ip.set q y)).cells.drop (1 + (q + 1) + (16 - (q + 1))) = (firstM a k).cells := by
  have hl : a.ip.length = 16 := h
  rw [firstM, hk, hm, if_pos hq, hy]
  simp only [AddrM.cells]
  rw [List.drop_of_length_le (by rw [List.length_cons, List.length_map, List.length_set]; omega), List.append_nil, Nat.add_comm, List.take_succ_cons, List.map_append, List.map_take, List.map_replicate, show 16 - (q + 1) = 15 - q by omega]
  rfl
set_option maxRecDepth 100000 in
theorem u8_zero (w : World) : (zeroValue 5).run Try.prog w = .ok (.int .u8 0) w := by
  obtain ⟨i0, hi, hz0, hz1, hz2⟩ := info_parts Try.info5
  simp [zeroValue, typeInfo, hi, hz0]
set_option maxRecDepth 100000 in
theorem array_from (g q : Nat) (hq : q < 16) (off : Nat) (hoff : (if 16 - (q + 1) = 0 then 1 else 1 + (q + 1)) = off) (w : World) :
    (Instr.sliceAt 27 (.pointer (some ⟨g, 1, none⟩)) (some (.int .i64 ((q : Int) + 1))) none none).run Try.prog w = .ok (.slice (some ⟨g, off, none⟩) (16 - (q + 1)) (16 - (q + 1))) w := by
  have hs : (sizeOf 5).run Try.prog w = .ok 1 w := by
    obtain ⟨i0, hi, hz0, hz1, hz2⟩ := info_parts Try.info5
    simp [sizeOf, typeInfo, hi, hz1]
  have hl : Try.prog.arrayLen 27 = 16 := by kernel_rfl
  have he : Try.prog.elem 27 = 5 := by kernel_rfl
  rw [run_sliceAt_array_l (P := Try.prog) w 27 ⟨g, 1, none⟩ (by rw [hl, he]; exact Try.underlying27) .i64 ((q : Int) + 1) (by omega) (by rw [hl]; omega), hl, he, hs]
  have e : ((q : Int) + 1).toNat = q + 1 := by omega
  simp only [Result.andThen, slicedAt, e, Go.WideShapes.add_plain, Nat.mul_one]
  by_cases h : 16 = q + 1
  · rw [if_pos h, ← hoff, if_pos (by omega)]
  · rw [if_neg h, ← hoff, if_neg (by omega)]
theorem cut_off (q off : Nat) (cs : List Value) (hoff : (if 16 - (q + 1) = 0 then 1 else 1 + (q + 1)) = off) :
    cs.take off ++ List.replicate (16 - (q + 1)) (Value.int .u8 0) ++ cs.drop (off + (16 - (q + 1))) = cs.take (1 + (q + 1)) ++ List.replicate (16 - (q + 1)) (Value.int .u8 0) ++ cs.drop (1 + (q + 1) + (16 - (q + 1))) := by
  by_cases h : 16 - (q + 1) = 0
  · rw [h]; simp
  · rw [if_neg h] at hoff; subst hoff; rfl
set_option maxRecDepth 100000 in
set_option maxHeartbeats 4000000 in
theorem first_any (a : AddrM) (h : a.ok) (k : Nat) (hk : k ≤ 128) (w : World) :
    Calls Try.prog 35 #[.agg a.cells.toArray, .int .i64 (k : Int)] w fun e w' => e = .returned (.agg (firstM a k).cells.toArray) ∧ Below w.heap.size w w' := by
  obtain ⟨ca, hca⟩ : ∃ x, a.cells.toArray = x := ⟨_, rfl⟩
  rw [hca]
  have HM := Lib.hid (show Mem w [blkE (w.heap.size + 1) 29 (.bool false :: (List.replicate 16 (0 : UInt8)).map u8v), blkE w.heap.size 29 a.cells] ((w.alloc (.cells ca 29)).alloc (.cells #[.bool false, .int .u8 0, .int .u8 0, .int .u8 0, .int .u8 0, .int .u8 0, .int .u8 0, .int .u8 0, .int .u8 0, .int .u8 0, .int .u8 0, .int .u8 0, .int .u8 0, .int .u8 0, .int .u8 0, .int .u8 0, .int .u8 0] 29)) from ((Mem.nil w).alloc rfl 29 ca a.cells hca.symm).alloc (by simp) 29 #[.bool false, .int .u8 0, .int .u8 0, .int .u8 0, .int .u8 0, .int .u8 0, .int .u8 0, .int .u8 0, .int .u8 0, .int .u8 0, .int .u8 0, .int .u8 0, .int .u8 0, .int .u8 0, .int .u8 0, .int .u8 0, .int .u8 0] _ rfl)
  have HO := Lib.hid h
  have HF := Lib.hid (firstM_ok a h k)
  obtain ⟨q, hq⟩ : ∃ q, k / 8 = q := ⟨_, rfl⟩
  obtain ⟨m, hm⟩ : ∃ q, k % 8 = q := ⟨_, rfl⟩
  have hqI : (k : Int) / 8 = (q : Int) := by omega
  have hmI : (k : Int) % 8 = (m : Int) := by omega
  go_enter Try.func35, Try.ntmps35
  go_upto_region 1 with fail
  generalize ((w.alloc (.cells ca 29)).alloc (.cells #[.bool false, .int .u8 0, .int .u8 0, .int .u8 0, .int .u8 0, .int .u8 0, .int .u8 0, .int .u8 0, .int .u8 0, .int .u8 0, .int .u8 0, .int .u8 0, .int .u8 0, .int .u8 0, .int .u8 0, .int .u8 0, .int .u8 0] 29)) = w1 at HM ⊢
  by_cases hlt : q < 16
  · have hm8 : m < 8 := by omega
    have fx := ((HM.out.blk 1 rfl).cell (1 + q)).trans (AddrM.ip_cell _ HO.out q hlt)
    have zx := (HM.out.blk 1 rfl).frozen (1 + q)
    have hset := AddrM.set_cell a q
    obtain ⟨x, hx⟩ : ∃ x, a.ip.getD q 0 = x := ⟨_, rfl⟩
    rw [hx] at fx
    have hcb := cut_bits x m hm8
    obtain ⟨y, hy⟩ : ∃ y, cutByte x m = y := ⟨_, rfl⟩
    rw [hy] at hcb
    have HC := Lib.hid (firstM_cells a h q m hlt k hq hm y (by rw [hx, hy]))
    have hmin : min m 8 = m := by omega
    have bq : (q : Int) < 16 := by omega
    have HN := Lib.hid (show Mem w [blkE (w.heap.size + 1) 29 (.bool false :: (List.replicate 16 (0 : UInt8)).map u8v), blkE w.heap.size 29 (AddrM.mk a.six (a.ip.set q y)).cells] ((w1.setCell ⟨w.heap.size, 1 + q, none⟩ (.int .u8 (y.toNat : Int))).drew) from by have h := HM.out.drew.setCell 1 rfl (1 + q) (u8v y); rw [hset] at h; exact h)
    have hset2 : (AddrM.mk a.six (a.ip.set q y)).ok := by show (a.ip.set q y).length = 16; rw [List.length_set]; exact HO.out
    clear hset hx hy HM hca h
    have hlI : decide ((q : Int) < 16) = true := by simp; omega
    go_upto_region 3 with fail
    go_region
    clear fx zx hcb hmin hlI
    generalize (w1.setCell ⟨w.heap.size, 1 + q, none⟩ (.int .u8 (y.toNat : Int))).drew = w2 at HN ⊢
    obtain ⟨off, hoff⟩ : ∃ off, (if 16 - (q + 1) = 0 then 1 else 1 + (q + 1)) = off := ⟨_, rfl⟩
    obtain ⟨z, hz⟩ : ∃ z, 16 - (q + 1) = z := ⟨_, rfl⟩
    have hcut := cut_off q off (AddrM.mk a.six (a.ip.set q y)).cells hoff
    have hfit : off + (16 - (q + 1)) ≤ (AddrM.mk a.six (a.ip.set q y)).cells.length := by rw [AddrM.cells_length (hset2 : (AddrM.mk a.six (a.ip.set q y)).ok), ← hoff]; split <;> omega
    rw [HC.out, hz] at hcut
    have HCUT := Lib.hid hcut
    rw [hz] at hfit
    have hsl : ∀ w', (Instr.sliceAt 27 (.pointer (some ⟨w.heap.size, 1, none⟩)) (some (.int .i64 ((q : Int) + 1))) none none).run Try.prog w' = .ok (.slice (some ⟨w.heap.size, off, none⟩) z z) w' := fun w' => by rw [← hz]; exact array_from w.heap.size q hlt off hoff w'
    clear hoff hz hcut
    go_upto_region 5 with (refine wpList_clear_blk w2 rfl (.tmp 23) 22 5 rfl Try.underlying22 u8_zero w.heap.size off z z rfl 29 (AddrM.mk a.six (a.ip.set q y)).cells (HN.out.blk 1 rfl) hfit ?_; intro w3 hb hg)
    rw [HCUT.out] at hb
    replace HM := Lib.hid (show Mem w [blkE (w.heap.size + 1) 29 (.bool false :: (List.replicate 16 (0 : UInt8)).map u8v), blkE w.heap.size 29 (firstM a k).cells] w3 from HN.out.put 1 rfl _ hg hb)
    clear HN hb hg hsl
    obtain ⟨cf, hcf⟩ : ∃ x, (firstM a k).cells.toArray = x := ⟨_, rfl⟩
    have HCF := Lib.hid hcf
    clear hcf
    go_wp2_with (first | (refine wpList_load_obj rfl 29 (.tmp 2) rfl w.heap.size 0 rfl (firstM a k).cells (HM.out.blk 1 rfl).all _ Try.underlying29 rfl (addr_cellsOf _ HF.out) ?_; rw [HCF.out]) | (refine wpList_store_blk rfl 29 (.tmp 4) (.tmp 24) rfl (w.heap.size + 1) (firstM a k).cells rfl (by show Value.agg cf = _; rw [HCF.out]) 29 (.bool false :: (List.replicate 16 (0 : UInt8)).map u8v) (HM.out.blk 0 rfl) (addr_cellsOf _ HF.out) (by rw [AddrM.cells_length HF.out]; rfl) (AddrM.one _) ?_; intro w9 hb9 hg9))
    exact bodyPost_ret (results_obj rfl _ _ (w.heap.size + 1) 29 (firstM a k).cells _ rfl hb9 Try.underlying29 rfl (addr_cellsOf _ HF.out)) rfl ⟨rfl, (HM.out.put 0 rfl _ hg9 hb9).bel⟩
  · have hlI : decide ((q : Int) < 16) = false := by simp; omega
    have hfa : firstM a k = a := by rw [firstM, if_neg (by omega)]
    rw [← hfa] at HM
    obtain ⟨cf, hcf⟩ : ∃ x, (firstM a k).cells.toArray = x := ⟨_, rfl⟩
    have HCF := Lib.hid hcf
    clear hcf
    go_upto_region 5 with fail
    go_wp2_with (first | (refine wpList_load_obj rfl 29 (.tmp 2) rfl w.heap.size 0 rfl (firstM a k).cells (HM.out.blk 1 rfl).all _ Try.underlying29 rfl (addr_cellsOf _ HF.out) ?_; rw [HCF.out]) | (refine wpList_store_blk rfl 29 (.tmp 4) (.tmp 24) rfl (w.heap.size + 1) (firstM a k).cells rfl (by show Value.agg cf = _; rw [HCF.out]) 29 (.bool false :: (List.replicate 16 (0 : UInt8)).map u8v) (HM.out.blk 0 rfl) (addr_cellsOf _ HF.out) (by rw [AddrM.cells_length HF.out]; rfl) (AddrM.one _) ?_; intro w9 hb9 hg9))
    exact bodyPost_ret (results_obj rfl _ _ (w.heap.size + 1) 29 (firstM a k).cells _ rfl hb9 Try.underlying29 rfl (addr_cellsOf _ HF.out)) rfl ⟨rfl, (HM.out.put 0 rfl _ hg9 hb9).bel⟩
end Go.Proofs.Ytdpdalkeafkhkaa
