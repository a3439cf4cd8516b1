/-
  The contracts of inner's size, first and address. The contracts of inner's address, validAddress, Valid, Contains and Less. A text that is returned. The sum of two texts. The contracts of config's validAddr and FormatAddr. A prefix's or an endpoint's address and number in memory. The contracts of config's FormatEndpoint and FormatPrefix. The contract of config's hexNumber. No statement is proved here.
-/
import Derived.RegionTactic
import Derived.DeepKeys2
import Derived.Laws.Concat
import Derived.Test.YtcbfchkhbngpkaaGreatDoorConfigReturnsB5
namespace Go.Proofs.YtcbfchkhbngpkaaGreatDoor
open Go.RowKit

theorem run_clear_blk {P : Program} (w : World) (t e ty : TypeId) (ht : P.underlying t = some (.slice e)) (hv : ∀ w, (zeroValue e).run P w = .ok (.int .u8 0) w) (g off n c : Nat) (bt : TypeId) (old : List Value) (hg : Blk w g bt old) (hfit : off + n ≤ old.length) :
    ∃ w', (Builtin.clear_ #[t] ty #[.slice (some ⟨g, off, none⟩) n c]).run P w = .ok (.tuple #[]) w' ∧ Blk w' g bt (old.take off ++ List.replicate n (.int .u8 0) ++ old.drop (off + n)) ∧ w.grownBy w' (some g) := by
  cases n with
  | zero =>
    refine ⟨w, ?_, ?_, ⟨rfl, rfl, rfl, Nat.le_refl _, fun _ _ _ => rfl⟩⟩
    · simp [Builtin.clear_, run_underlying ht]
    · simp only [List.replicate_zero, List.append_nil, Nat.add_zero, List.take_append_drop]; exact hg
  | succ m =>
    have hst := run_storeCells_at P g off bt (List.replicate (m + 1) (Value.int .u8 0)) 0 old.toArray w hg (by simpa using hfit) (by intro v hv; rw [List.eq_of_mem_replicate hv]; rfl)
    rw [Nat.add_zero] at hst
    refine ⟨w.setRow g (old.toArray.toList.take off ++ List.replicate (m + 1) (Value.int .u8 0) ++ old.toArray.toList.drop (off + (List.replicate (m + 1) (Value.int .u8 0)).length)).toArray, ?_, ?_, ⟨rfl, rfl, rfl, by simp, fun k _ hk => setRow_other w g k _ (fun e => hk (by simp [e]))⟩⟩
    · have hz : (Builtin.zeroCells (Value.int .u8 0).cells (m + 1)).toList = List.replicate (m + 1) (.int .u8 0) := by
        apply List.ext_getElem
        · simp [Builtin.zeroCells, Value.cells]
        · intro i h1 h2; simp [Builtin.zeroCells, Value.cells, Nat.mod_one]
      simp only [Builtin.clear_, List.getElem?_toArray, List.getElem?_cons_zero, Sem.run_bind, run_underlying ht, Result.andThen_ok, hv, hz]
      rw [hst]
      rfl
    · have := setRow_heap w g old.toArray (old.toArray.toList.take off ++ List.replicate (m + 1) (Value.int .u8 0) ++ old.toArray.toList.drop (off + (List.replicate (m + 1) (Value.int .u8 0)).length)).toArray bt _ hg
      unfold Blk
      simpa using this
theorem wpList_clear_blk {P : Program} (w : World) {ops : Array Oper} {rest : List Oper} {o : Oper} {a : Act} {Q : Exit → Act → World → Prop} (hgd : o.guard = none) (d : Operand) (t e : TypeId)
    (ho : o.op = .call { callee := .builtin .clear, args := #[d], argTypes := #[t] }) (ht : P.underlying t = some (.slice e)) (hv : ∀ w, (zeroValue e).run P w = .ok (.int .u8 0) w)
    (g off n c : Nat) (hd : a.eval d = .slice (some ⟨g, off, none⟩) n c) (bt : TypeId) (old : List Value) (hg : Blk w g bt old) (hfit : off + n ≤ old.length)
    (h : ∀ w', Blk w' g bt (old.take off ++ List.replicate n (.int .u8 0) ++ old.drop (off + n)) → w.grownBy w' (some g) → wpList P ops Q rest (a.put o.dst (.tuple #[])) w') : wpList P ops Q (o :: rest) a w := by
  refine wpList_plain hgd fun K hK => ?_
  obtain ⟨w', hrun, h2, h3⟩ := run_clear_blk (P := P) w t e o.type ht hv g off n c bt old hg hfit
  unfold Oper.wp execOp
  simp only [ho, resolve, invoke, builtin, Sem.run_bind, Sem.run_pure, Result.andThen_ok, List.map_toArray, List.map_cons, List.map_nil, hd, hrun]
  exact hK _ _ (h w' h2 h3)

set_option maxRecDepth 100000 in
theorem size_any (a : AddrM) (w : World) :
    Calls Tryz.prog 89 #[.agg a.cells.toArray] w fun e w' => e = .returned (.int .i64 (widthM a : Int)) ∧ Below w.heap.size w w' := by
  obtain ⟨ca, hca⟩ : ∃ c, a.cells.toArray = c := ⟨_, rfl⟩
  rw [hca]
  have HM := Lib.hid (show Mem w [blkE w.heap.size 53 a.cells] (w.alloc (.cells ca 53)) from (Mem.nil w).alloc rfl 53 ca a.cells hca.symm)
  obtain ⟨sx, hsx⟩ : ∃ q, a.six = q := ⟨_, rfl⟩
  have HW := Lib.hid (show widthM a = if sx then 128 else 32 by rw [widthM, hsx])
  clear hca
  go_enter Tryz.func89, Tryz.ntmps89
  go_upto_region 1 with fail
  generalize w.alloc (.cells ca 53) = w1 at HM ⊢
  have f6 := ((HM.out.blk 0 rfl).cell 0).trans (AddrM.six_cell a)
  rw [hsx] at f6
  cases sx with
  | true =>
    go_wp2
    go_ret
    exact ⟨by rw [HW.out]; rfl, HM.out.bel⟩
  | false =>
    go_wp2
    go_ret
    exact ⟨by rw [HW.out]; rfl, HM.out.bel⟩
theorem firstM_cells (a : AddrM) (h : a.ok) (q m : Nat) (hq : q < 16) (k : Nat) (hk : k / 8 = q) (hm : k % 8 = m) (y : UInt8) (hy : cutByte (a.ip.getD q 0) m = y) :
    (AddrM.mk a.six (a.ip.set q y)).cells.take (1 + (q + 1)) ++ List.replicate (16 - (q + 1)) (.int .u8 0) ++ (AddrM.mk a.six (a.ip.set q y)).cells.drop (1 + (q + 1) + (16 - (q + 1))) = (firstM a k).cells := by
  have hl : a.ip.length = 16 := h
  rw [firstM, hk, hm, if_pos hq, hy]
  simp only [AddrM.cells]
  rw [List.drop_of_length_le (by rw [List.length_cons, List.length_map, List.length_set]; omega), List.append_nil, Nat.add_comm, List.take_succ_cons, List.map_append, List.map_take, List.map_replicate, show 16 - (q + 1) = 15 - q by omega]
  rfl
set_option maxRecDepth 100000 in
theorem u8_zero (w : World) : (zeroValue 5).run Tryz.prog w = .ok (.int .u8 0) w := by
  obtain ⟨i0, hi, hz0, hz1, hz2⟩ := info_parts Tryz.info5
  simp [zeroValue, typeInfo, hi, hz0]
set_option maxRecDepth 100000 in
theorem array_from (g q : Nat) (hq : q < 16) (off : Nat) (hoff : (if 16 - (q + 1) = 0 then 1 else 1 + (q + 1)) = off) (w : World) :
    (Instr.sliceAt 51 (.pointer (some ⟨g, 1, none⟩)) (some (.int .i64 ((q : Int) + 1))) none none).run Tryz.prog w = .ok (.slice (some ⟨g, off, none⟩) (16 - (q + 1)) (16 - (q + 1))) w := by
  have hs : (sizeOf 5).run Tryz.prog w = .ok 1 w := by
    obtain ⟨i0, hi, hz0, hz1, hz2⟩ := info_parts Tryz.info5
    simp [sizeOf, typeInfo, hi, hz1]
  have hl : Tryz.prog.arrayLen 51 = 16 := by kernel_rfl
  have he : Tryz.prog.elem 51 = 5 := by kernel_rfl
  rw [run_sliceAt_array_l (P := Tryz.prog) w 51 ⟨g, 1, none⟩ (by rw [hl, he]; exact Tryz.underlying51) .i64 ((q : Int) + 1) (by omega) (by rw [hl]; omega), hl, he, hs]
  have e : ((q : Int) + 1).toNat = q + 1 := by omega
  simp only [Result.andThen, slicedAt, e, Go.WideShapes.add_plain, Nat.mul_one]
  by_cases h : 16 = q + 1
  · rw [if_pos h, ← hoff, if_pos (by omega)]
  · rw [if_neg h, ← hoff, if_neg (by omega)]
theorem cut_off (q off : Nat) (cs : List Value) (hoff : (if 16 - (q + 1) = 0 then 1 else 1 + (q + 1)) = off) :
    cs.take off ++ List.replicate (16 - (q + 1)) (Value.int .u8 0) ++ cs.drop (off + (16 - (q + 1))) = cs.take (1 + (q + 1)) ++ List.replicate (16 - (q + 1)) (Value.int .u8 0) ++ cs.drop (1 + (q + 1) + (16 - (q + 1))) := by
  by_cases h : 16 - (q + 1) = 0
  · rw [h]; simp
  · rw [if_neg h] at hoff; subst hoff; rfl
set_option maxRecDepth 100000 in
set_option maxHeartbeats 4000000 in
theorem first_any (a : AddrM) (h : a.ok) (k : Nat) (hk : k ≤ 128) (w : World) :
    Calls Tryz.prog 90 #[.agg a.cells.toArray, .int .i64 (k : Int)] w fun e w' => e = .returned (.agg (firstM a k).cells.toArray) ∧ Below w.heap.size w w' := by
  obtain ⟨ca, hca⟩ : ∃ x, a.cells.toArray = x := ⟨_, rfl⟩
  rw [hca]
  have HM := Lib.hid (show Mem w [blkE (w.heap.size + 1) 53 (.bool false :: (List.replicate 16 (0 : UInt8)).map u8v), blkE w.heap.size 53 a.cells] ((w.alloc (.cells ca 53)).alloc (.cells #[.bool false, .int .u8 0, .int .u8 0, .int .u8 0, .int .u8 0, .int .u8 0, .int .u8 0, .int .u8 0, .int .u8 0, .int .u8 0, .int .u8 0, .int .u8 0, .int .u8 0, .int .u8 0, .int .u8 0, .int .u8 0, .int .u8 0] 53)) from ((Mem.nil w).alloc rfl 53 ca a.cells hca.symm).alloc (by simp) 53 #[.bool false, .int .u8 0, .int .u8 0, .int .u8 0, .int .u8 0, .int .u8 0, .int .u8 0, .int .u8 0, .int .u8 0, .int .u8 0, .int .u8 0, .int .u8 0, .int .u8 0, .int .u8 0, .int .u8 0, .int .u8 0, .int .u8 0] _ rfl)
  have HO := Lib.hid h
  have HF := Lib.hid (firstM_ok a h k)
  obtain ⟨q, hq⟩ : ∃ q, k / 8 = q := ⟨_, rfl⟩
  obtain ⟨m, hm⟩ : ∃ q, k % 8 = q := ⟨_, rfl⟩
  have hqI : (k : Int) / 8 = (q : Int) := by omega
  have hmI : (k : Int) % 8 = (m : Int) := by omega
  go_enter Tryz.func90, Tryz.ntmps90
  go_upto_region 1 with fail
  generalize ((w.alloc (.cells ca 53)).alloc (.cells #[.bool false, .int .u8 0, .int .u8 0, .int .u8 0, .int .u8 0, .int .u8 0, .int .u8 0, .int .u8 0, .int .u8 0, .int .u8 0, .int .u8 0, .int .u8 0, .int .u8 0, .int .u8 0, .int .u8 0, .int .u8 0, .int .u8 0] 53)) = w1 at HM ⊢
  by_cases hlt : q < 16
  · have hm8 : m < 8 := by omega
    have fx := ((HM.out.blk 1 rfl).cell (1 + q)).trans (AddrM.ip_cell _ HO.out q hlt)
    have zx := (HM.out.blk 1 rfl).frozen (1 + q)
    have hset := AddrM.set_cell a q
    obtain ⟨x, hx⟩ : ∃ x, a.ip.getD q 0 = x := ⟨_, rfl⟩
    rw [hx] at fx
    have hcb := cut_bits x m hm8
    obtain ⟨y, hy⟩ : ∃ y, cutByte x m = y := ⟨_, rfl⟩
    rw [hy] at hcb
    have HC := Lib.hid (firstM_cells a h q m hlt k hq hm y (by rw [hx, hy]))
    have hmin : min m 8 = m := by omega
    have bq : (q : Int) < 16 := by omega
    have HN := Lib.hid (show Mem w [blkE (w.heap.size + 1) 53 (.bool false :: (List.replicate 16 (0 : UInt8)).map u8v), blkE w.heap.size 53 (AddrM.mk a.six (a.ip.set q y)).cells] ((w1.setCell ⟨w.heap.size, 1 + q, none⟩ (.int .u8 (y.toNat : Int))).drew) from by have h := HM.out.drew.setCell 1 rfl (1 + q) (u8v y); rw [hset] at h; exact h)
    have hset2 : (AddrM.mk a.six (a.ip.set q y)).ok := by show (a.ip.set q y).length = 16; rw [List.length_set]; exact HO.out
    clear hset hx hy HM hca h
    have hlI : decide ((q : Int) < 16) = true := by simp; omega
    go_upto_region 3 with fail
    go_region
    clear fx zx hcb hmin hlI
    generalize (w1.setCell ⟨w.heap.size, 1 + q, none⟩ (.int .u8 (y.toNat : Int))).drew = w2 at HN ⊢
    obtain ⟨off, hoff⟩ : ∃ off, (if 16 - (q + 1) = 0 then 1 else 1 + (q + 1)) = off := ⟨_, rfl⟩
    obtain ⟨z, hz⟩ : ∃ z, 16 - (q + 1) = z := ⟨_, rfl⟩
    have hcut := cut_off q off (AddrM.mk a.six (a.ip.set q y)).cells hoff
    have hfit : off + (16 - (q + 1)) ≤ (AddrM.mk a.six (a.ip.set q y)).cells.length := by rw [AddrM.cells_length (hset2 : (AddrM.mk a.six (a.ip.set q y)).ok), ← hoff]; split <;> omega
    rw [HC.out, hz] at hcut
    have HCUT := Lib.hid hcut
    rw [hz] at hfit
    have hsl : ∀ w', (Instr.sliceAt 51 (.pointer (some ⟨w.heap.size, 1, none⟩)) (some (.int .i64 ((q : Int) + 1))) none none).run Tryz.prog w' = .ok (.slice (some ⟨w.heap.size, off, none⟩) z z) w' := fun w' => by rw [← hz]; exact array_from w.heap.size q hlt off hoff w'
    clear hoff hz hcut
    go_upto_region 5 with (refine wpList_clear_blk w2 rfl (.tmp 23) 22 5 rfl Tryz.underlying22 u8_zero w.heap.size off z z rfl 53 (AddrM.mk a.six (a.ip.set q y)).cells (HN.out.blk 1 rfl) hfit ?_; intro w3 hb hg)
    rw [HCUT.out] at hb
    replace HM := Lib.hid (show Mem w [blkE (w.heap.size + 1) 53 (.bool false :: (List.replicate 16 (0 : UInt8)).map u8v), blkE w.heap.size 53 (firstM a k).cells] w3 from HN.out.put 1 rfl _ hg hb)
    clear HN hb hg hsl
    obtain ⟨cf, hcf⟩ : ∃ x, (firstM a k).cells.toArray = x := ⟨_, rfl⟩
    have HCF := Lib.hid hcf
    clear hcf
    go_wp2_with (first | (refine wpList_load_obj rfl 53 (.tmp 2) rfl w.heap.size 0 rfl (firstM a k).cells (HM.out.blk 1 rfl).all _ Tryz.underlying53 rfl (addr_cellsOf _ HF.out) ?_; rw [HCF.out]) | (refine wpList_store_blk rfl 53 (.tmp 4) (.tmp 24) rfl (w.heap.size + 1) (firstM a k).cells rfl (by show Value.agg cf = _; rw [HCF.out]) 53 (.bool false :: (List.replicate 16 (0 : UInt8)).map u8v) (HM.out.blk 0 rfl) (addr_cellsOf _ HF.out) (by rw [AddrM.cells_length HF.out]; rfl) (AddrM.one _) ?_; intro w9 hb9 hg9))
    exact bodyPost_ret (results_obj rfl _ _ (w.heap.size + 1) 53 (firstM a k).cells _ rfl hb9 Tryz.underlying53 rfl (addr_cellsOf _ HF.out)) rfl ⟨rfl, (HM.out.put 0 rfl _ hg9 hb9).bel⟩
  · have hlI : decide ((q : Int) < 16) = false := by simp; omega
    have hfa : firstM a k = a := by rw [firstM, if_neg (by omega)]
    rw [← hfa] at HM
    obtain ⟨cf, hcf⟩ : ∃ x, (firstM a k).cells.toArray = x := ⟨_, rfl⟩
    have HCF := Lib.hid hcf
    clear hcf
    go_upto_region 5 with fail
    go_wp2_with (first | (refine wpList_load_obj rfl 53 (.tmp 2) rfl w.heap.size 0 rfl (firstM a k).cells (HM.out.blk 1 rfl).all _ Tryz.underlying53 rfl (addr_cellsOf _ HF.out) ?_; rw [HCF.out]) | (refine wpList_store_blk rfl 53 (.tmp 4) (.tmp 24) rfl (w.heap.size + 1) (firstM a k).cells rfl (by show Value.agg cf = _; rw [HCF.out]) 53 (.bool false :: (List.replicate 16 (0 : UInt8)).map u8v) (HM.out.blk 0 rfl) (addr_cellsOf _ HF.out) (by rw [AddrM.cells_length HF.out]; rfl) (AddrM.one _) ?_; intro w9 hb9 hg9))
    exact bodyPost_ret (results_obj rfl _ _ (w.heap.size + 1) 53 (firstM a k).cells _ rfl hb9 Tryz.underlying53 rfl (addr_cellsOf _ HF.out)) rfl ⟨rfl, (HM.out.put 0 rfl _ hg9 hb9).bel⟩
end Go.Proofs.YtcbfchkhbngpkaaGreatDoor
namespace Go.Proofs.YtcbfchkhbngpkaaGreatDoor
open Go.RowKit

theorem addr_eq (a b : AddrM) (ha : a.ok) (hb : b.ok) (w : World) : (Op.equalIn 10000 53 (.agg a.cells.toArray) (.agg b.cells.toArray)).run Tryz.prog w = .ok (decide (a = b)) w := by
  obtain ⟨la, hla⟩ := addr_lits 0 a ha
  obtain ⟨lb, hlb⟩ := addr_lits 0 b hb
  have hf : ∀ x : AddrM, x.ok → (Value.agg x.cells.toArray).formed Tryz.prog 53 = true := by
    intro x hx
    have hs : Tryz.prog.cellsOf 53 = x.cells.length := by rw [AddrM.cells_length hx]; kernel_rfl
    simp [Value.formed, Tryz.underlying53, hs]
  obtain ⟨r, hr, hiff⟩ := run_equalIn_deep (P := Tryz.prog) (10000 - 5) 5 53 (by kernel_rfl) w 3 3 (.agg a.cells.toArray) (.agg b.cells.toArray) la lb (hf a ha) (hf b hb) hla hlb
  rw [show 10000 - 5 + 5 = 10000 from rfl] at hr
  rw [hr]
  have h : r = true ↔ a = b := by
    rw [hiff]
    constructor
    · intro e
      have h1 := cells_of_lits 5 53 (by kernel_rfl) 3 a.cells la hla
      have h2 := cells_of_lits 5 53 (by kernel_rfl) 3 b.cells lb hlb
      exact cells_inj a b (by rw [h1, h2, e])
    · rintro rfl
      rw [hla] at hlb
      exact Option.some.inj hlb
  rw [show r = decide (a = b) by rw [Bool.eq_iff_iff, decide_eq_true_iff]; exact h]
theorem widthM_128 (a : AddrM) : widthM a ≤ 128 := by unfold widthM; split <;> omega
set_option maxRecDepth 100000 in
set_option maxHeartbeats 4000000 in
theorem validAddress_any (a : AddrM) (h : a.ok) (w : World) :
    Calls Tryz.prog 145 #[.agg a.cells.toArray] w fun e w' => e = .returned (.bool (soundM a)) ∧ Below w.heap.size w w' := by
  have hsz := fun W : World => size_any a W
  have hfs := fun W : World => first_any a h (widthM a) (widthM_128 a) W
  have heq := fun W : World => addr_eq (firstM a (widthM a)) a (firstM_ok a h _) h W
  rw [← sound_first a h] at heq
  obtain ⟨r, hr⟩ : ∃ r, soundM a = r := ⟨_, rfl⟩
  obtain ⟨ca, hca⟩ : ∃ c, a.cells.toArray = c := ⟨_, rfl⟩
  obtain ⟨cf, hcf⟩ : ∃ c, (firstM a (widthM a)).cells.toArray = c := ⟨_, rfl⟩
  simp only [hca, hcf, hr] at hsz hfs heq ⊢
  have HM := Lib.hid (show Mem w [blkE w.heap.size 53 a.cells] (w.alloc (.cells ca 53)) from (Mem.nil w).alloc rfl 53 ca a.cells hca.symm)
  have HO := Lib.hid h
  have HCA := Lib.hid hca
  have HSZ := Lib.hid hsz
  have HFS := Lib.hid hfs
  have HEQ := Lib.hid heq
  have HR := Lib.hid (Eq.refl r)
  clear h hca hsz hfs heq hcf hr
  go_enter Tryz.func145, Tryz.ntmps145
  go_upto_region 1 with fail
  generalize w.alloc (.cells ca 53) = w1 at HM ⊢
  refine wp_region_held_drew (S := fun W' => Mem w [blkE w.heap.size 53 a.cells] W') (by kernel_rfl) ((HM.out).drew) (fun hHeld => ?_)
  replace HM := Lib.hid HM.out.drew
  generalize w1.drew = wd1 at HM hHeld ⊢
  refine take_first (v := .agg ca) 0 rfl (by kernel_rfl) (by kernel_rfl) (by kernel_rfl) (fun _ _ _ h => h) (by rw [← HCA.out]; exact yields_load_obj (by rfl) 53 (.tmp 1) rfl w.heap.size 0 rfl a.cells (fun w' hb => (Mem.blk hb 0 rfl).all) _ Tryz.underlying53 rfl (addr_cellsOf _ HO.out)) (by assumption) ?_
  (try simp only [Act.put, List.setIfInBounds_toArray, List.set_cons_zero, List.set_cons_succ])
  refine take_first (v := .agg ca) 1 rfl (by kernel_rfl) (by kernel_rfl) (by kernel_rfl) (fun _ _ _ h => h) (by rw [← HCA.out]; exact yields_load_obj (by rfl) 53 (.tmp 1) rfl w.heap.size 0 rfl a.cells (fun w' hb => (Mem.blk hb 0 rfl).all) _ Tryz.underlying53 rfl (addr_cellsOf _ HO.out)) (by assumption) ?_
  (try simp only [Act.put, List.setIfInBounds_toArray, List.set_cons_zero, List.set_cons_succ])
  refine take_first (v := .agg ca) 4 rfl (by kernel_rfl) (by kernel_rfl) (by kernel_rfl) (fun _ _ _ h => h) (by rw [← HCA.out]; exact yields_load_obj (by rfl) 53 (.tmp 1) rfl w.heap.size 0 rfl a.cells (fun w' hb => (Mem.blk hb 0 rfl).all) _ Tryz.underlying53 rfl (addr_cellsOf _ HO.out)) (by assumption) ?_
  (try simp only [Act.put, List.setIfInBounds_toArray, List.set_cons_zero, List.set_cons_succ])
  refine step_one 2 rfl (by kernel_rfl) (fun K hK => ?_)
  clear hHeld
  go_simp
  refine (HSZ.out _).mono ?_
  rintro e wy2 ⟨rfl, hb⟩
  replace HM := Lib.hid (show Mem w [blkE w.heap.size 53 a.cells] wy2 from HM.out.below hb)
  clear hb
  go_wp2_with fail
  refine hK.out _ _ (HM.out) (fun hHeld => ?_)
  clear hK K
  (try simp only [Act.put, List.setIfInBounds_toArray, List.set_cons_zero, List.set_cons_succ])
  refine step_one 3 rfl (by kernel_rfl) (fun K hK => ?_)
  clear hHeld
  go_simp
  refine (HFS.out _).mono ?_
  rintro e wy3 ⟨rfl, hb⟩
  replace HM := Lib.hid (show Mem w [blkE w.heap.size 53 a.cells] wy3 from HM.out.below hb)
  clear hb
  go_wp2_with fail
  refine hK.out _ _ (HM.out) (fun hHeld => ?_)
  clear hK K
  (try simp only [Act.put, List.setIfInBounds_toArray, List.set_cons_zero, List.set_cons_succ])
  refine take_first (v := ?_) 5 rfl (by kernel_rfl) (by kernel_rfl) (by kernel_rfl) (fun _ _ _ h => h) (Or.inl ⟨by rfl, ?_⟩) (by assumption) ?_
  rotate_left
  · (intro w hSw; (try dsimp only at hSw); refine (run_eql_agg _ _ 53 53 6 7 ?_ cf ca r w ?_ ?_ addr_noguard (HEQ.out w)).trans ?_ <;> first | with_reducible rfl | rfl)
  (try simp only [Act.put, List.setIfInBounds_toArray, List.set_cons_zero, List.set_cons_succ])
  refine take_first (v := ?_) 6 rfl (by kernel_rfl) (by kernel_rfl) (by kernel_rfl) (fun _ _ _ h => h) (Or.inl ⟨by rfl, ?_⟩) (by assumption) ?_
  rotate_left
  · (intro w hSw; (try dsimp only at hSw); go_simp; try with_reducible rfl)
  (try simp only [Act.put, List.setIfInBounds_toArray, List.set_cons_zero, List.set_cons_succ])
  refine wpAnyH_done (by kernel_rfl) ?_ _
  clear hHeld
  go_wp2
  go_ret
  exact ⟨by first | rfl | (rw [HR.out]; rfl), HM.out.bel⟩
set_option maxRecDepth 100000 in
set_option maxHeartbeats 4000000 in
theorem valid_any (a : AddrM) (bits : Int) (h : a.ok) (w : World) :
    Calls Tryz.prog 68 #[.agg (prefC a bits).toArray] w fun e w' => e = .returned (.bool (validM a bits)) ∧ Below w.heap.size w w' := by
  have hvf := valid_first a h bits
  have hsz := fun W : World => size_any a W
  have hwl := widthM_128 a
  obtain ⟨cp, hcp⟩ : ∃ c, (prefC a bits).toArray = c := ⟨_, rfl⟩
  obtain ⟨ca, hca⟩ : ∃ c, a.cells.toArray = c := ⟨_, rfl⟩
  obtain ⟨vv, hvv⟩ : ∃ r, validM a bits = r := ⟨_, rfl⟩
  obtain ⟨wd, hwd⟩ : ∃ r, widthM a = r := ⟨_, rfl⟩
  simp only [hcp, hca, hvv, hwd] at hvf hsz hwl ⊢
  have HM := Lib.hid (show Mem w [blkE w.heap.size 60 (prefC a bits)] (w.alloc (.cells cp 60)) from (Mem.nil w).alloc rfl 60 cp (prefC a bits) hcp.symm)
  have HO := Lib.hid h
  have HCA := Lib.hid hca
  have HSZ := Lib.hid hsz
  clear hcp hca hsz hvv hwd
  go_enter Tryz.func68, Tryz.ntmps68
  go_upto_region 1 with fail
  generalize w.alloc (.cells cp 60) = w1 at HM ⊢
  by_cases h0 : 0 ≤ bits
  · by_cases h1 : bits ≤ (wd : Int)
    · have HD0 := Lib.hid (show decide (0 ≤ bits) = true by simpa using h0)
      have HD1 := Lib.hid (show decide (bits ≤ (wd : Int)) = true by simpa using h1)
      rw [HD0.out, HD1.out, Bool.true_and, Bool.true_and] at hvf
      obtain ⟨k, hk⟩ : ∃ k : Nat, bits = (k : Int) := ⟨bits.toNat, by omega⟩
      have hfs := fun W : World => first_any a h k (by omega) W
      have heq := fun W : World => addr_eq (firstM a k) a (firstM_ok a h _) h W
      have hkn : bits.toNat = k := by omega
      rw [hkn] at hvf
      obtain ⟨cf, hcf⟩ : ∃ c, (firstM a k).cells.toArray = c := ⟨_, rfl⟩
      rw [← hvf] at heq
      rw [← hk] at hfs
      simp only [HCA.out, hcf] at hfs heq
      have HFS := Lib.hid hfs
      have HEQ := Lib.hid heq
      have HR := Lib.hid (Eq.refl vv)
      clear hfs heq hvf hkn hk h h0 h1 hcf hwl
      refine wp_region_held_drew (S := fun W' => Mem w [blkE w.heap.size 60 (prefC a bits)] W') (by kernel_rfl) ((HM.out).drew) (fun hHeld => ?_)
      replace HM := Lib.hid HM.out.drew
      generalize w1.drew = wd1 at HM hHeld ⊢
      refine take_first (v := ?_) 0 rfl (by kernel_rfl) (by kernel_rfl) (by kernel_rfl) (fun _ _ _ h => h) (Or.inl ⟨by rfl, ?_⟩) (by assumption) ?_
      rotate_left
      · (intro w hSw; (try dsimp only at hSw); go_simp; try with_reducible rfl)
      (try simp only [Act.put, List.setIfInBounds_toArray, List.set_cons_zero, List.set_cons_succ])
      refine take_first (v := ?_) 1 rfl (by kernel_rfl) (by kernel_rfl) (by kernel_rfl) (fun _ _ _ h => h) (Or.inl ⟨by rfl, ?_⟩) (by assumption) ?_
      rotate_left
      · (intro w hSw; (try dsimp only at hSw); have fb := (Mem.blk hSw 0 rfl).cell 17; rw [prefC_bits a HO.out bits] at fb; go_simp; try with_reducible rfl)
      (try simp only [Act.put, List.setIfInBounds_toArray, List.set_cons_zero, List.set_cons_succ])
      refine take_first (v := ?_) 2 rfl (by kernel_rfl) (by kernel_rfl) (by kernel_rfl) (fun _ _ _ h => h) (Or.inl ⟨by rfl, ?_⟩) (by assumption) ?_
      rotate_left
      · (intro w hSw; (try dsimp only at hSw); have d0 := HD0.out; go_simp; try with_reducible rfl)
      (try simp only [Act.put, List.setIfInBounds_toArray, List.set_cons_zero, List.set_cons_succ])
      refine take_first (v := ?_) 3 rfl (by kernel_rfl) (by kernel_rfl) (by kernel_rfl) (fun _ _ _ h => h) (Or.inl ⟨by rfl, ?_⟩) (by assumption) ?_
      rotate_left
      · (intro w hSw; (try dsimp only at hSw); go_simp; try with_reducible rfl)
      (try simp only [Act.put, List.setIfInBounds_toArray, List.set_cons_zero, List.set_cons_succ])
      refine take_first (v := ?_) 4 rfl (by kernel_rfl) (by kernel_rfl) (by kernel_rfl) (fun _ _ _ h => h) (Or.inl ⟨by rfl, ?_⟩) (by assumption) ?_
      rotate_left
      · (intro w hSw; (try dsimp only at hSw); go_simp; try with_reducible rfl)
      (try simp only [Act.put, List.setIfInBounds_toArray, List.set_cons_zero, List.set_cons_succ])
      refine take_first (v := ?_) 5 rfl (by kernel_rfl) (by kernel_rfl) (by kernel_rfl) (fun _ _ _ h => h) (Or.inl ⟨by rfl, ?_⟩) (by assumption) ?_
      rotate_left
      · (intro w hSw; (try dsimp only at hSw); have fb := (Mem.blk hSw 0 rfl).cell 17; rw [prefC_bits a HO.out bits] at fb; go_simp; try with_reducible rfl)
      (try simp only [Act.put, List.setIfInBounds_toArray, List.set_cons_zero, List.set_cons_succ])
      refine take_first (v := ?_) 6 rfl (by kernel_rfl) (by kernel_rfl) (by kernel_rfl) (fun _ _ _ h => h) (Or.inl ⟨by rfl, ?_⟩) (by assumption) ?_
      rotate_left
      · (intro w hSw; (try dsimp only at hSw); go_simp; try with_reducible rfl)
      (try simp only [Act.put, List.setIfInBounds_toArray, List.set_cons_zero, List.set_cons_succ])
      refine take_first (v := .agg ca) 7 rfl (by kernel_rfl) (by kernel_rfl) (by kernel_rfl) (fun _ _ _ h => h) (by rw [← HCA.out]; exact yields_load_obj (by rfl) 53 (.tmp 9) rfl w.heap.size 0 rfl a.cells (fun w' hb => by have h := (Mem.blk hb 0 rfl).sub 0 17; rw [prefC_addr a HO.out bits] at h; exact h) _ Tryz.underlying53 rfl (addr_cellsOf _ HO.out)) (by assumption) ?_
      (try simp only [Act.put, List.setIfInBounds_toArray, List.set_cons_zero, List.set_cons_succ])
      refine step_one 8 rfl (by kernel_rfl) (fun K hK => ?_)
      clear hHeld
      go_simp
      refine (HSZ.out _).mono ?_
      rintro e wy2 ⟨rfl, hb⟩
      replace HM := Lib.hid (show Mem w [blkE w.heap.size 60 (prefC a bits)] wy2 from HM.out.below hb)
      clear hb
      go_wp2_with fail
      refine hK.out _ _ (HM.out) (fun hHeld => ?_)
      clear hK K
      (try simp only [Act.put, List.setIfInBounds_toArray, List.set_cons_zero, List.set_cons_succ])
      refine take_first (v := ?_) 9 rfl (by kernel_rfl) (by kernel_rfl) (by kernel_rfl) (fun _ _ _ h => h) (Or.inl ⟨by rfl, ?_⟩) (by assumption) ?_
      rotate_left
      · (intro w hSw; (try dsimp only at hSw); have d1 := HD1.out; go_simp; try with_reducible rfl)
      (try simp only [Act.put, List.setIfInBounds_toArray, List.set_cons_zero, List.set_cons_succ])
      refine take_first (v := ?_) 10 rfl (by kernel_rfl) (by kernel_rfl) (by kernel_rfl) (fun _ _ _ h => h) (Or.inl ⟨by rfl, ?_⟩) (by assumption) ?_
      rotate_left
      · (intro w hSw; (try dsimp only at hSw); go_simp; try with_reducible rfl)
      (try simp only [Act.put, List.setIfInBounds_toArray, List.set_cons_zero, List.set_cons_succ])
      refine take_first (v := ?_) 11 rfl (by kernel_rfl) (by kernel_rfl) (by kernel_rfl) (fun _ _ _ h => h) (Or.inl ⟨by rfl, ?_⟩) (by assumption) ?_
      rotate_left
      · (intro w hSw; (try dsimp only at hSw); go_simp; try with_reducible rfl)
      (try simp only [Act.put, List.setIfInBounds_toArray, List.set_cons_zero, List.set_cons_succ])
      refine take_first (v := ?_) 12 rfl (by kernel_rfl) (by kernel_rfl) (by kernel_rfl) (fun _ _ _ h => h) (Or.inl ⟨by rfl, ?_⟩) (by assumption) ?_
      rotate_left
      · (intro w hSw; (try dsimp only at hSw); go_simp; try with_reducible rfl)
      (try simp only [Act.put, List.setIfInBounds_toArray, List.set_cons_zero, List.set_cons_succ])
      refine take_first (v := .agg ca) 13 rfl (by kernel_rfl) (by kernel_rfl) (by kernel_rfl) (fun _ _ _ h => h) (by rw [← HCA.out]; exact yields_load_obj (by rfl) 53 (.tmp 15) rfl w.heap.size 0 rfl a.cells (fun w' hb => by have h := (Mem.blk hb 0 rfl).sub 0 17; rw [prefC_addr a HO.out bits] at h; exact h) _ Tryz.underlying53 rfl (addr_cellsOf _ HO.out)) (by assumption) ?_
      (try simp only [Act.put, List.setIfInBounds_toArray, List.set_cons_zero, List.set_cons_succ])
      refine take_first (v := ?_) 14 rfl (by kernel_rfl) (by kernel_rfl) (by kernel_rfl) (fun _ _ _ h => h) (Or.inl ⟨by rfl, ?_⟩) (by assumption) ?_
      rotate_left
      · (intro w hSw; (try dsimp only at hSw); go_simp; try with_reducible rfl)
      (try simp only [Act.put, List.setIfInBounds_toArray, List.set_cons_zero, List.set_cons_succ])
      refine take_first (v := ?_) 15 rfl (by kernel_rfl) (by kernel_rfl) (by kernel_rfl) (fun _ _ _ h => h) (Or.inl ⟨by rfl, ?_⟩) (by assumption) ?_
      rotate_left
      · (intro w hSw; (try dsimp only at hSw); have fb := (Mem.blk hSw 0 rfl).cell 17; rw [prefC_bits a HO.out bits] at fb; go_simp; try with_reducible rfl)
      (try simp only [Act.put, List.setIfInBounds_toArray, List.set_cons_zero, List.set_cons_succ])
      refine take_first (v := ?_) 17 rfl (by kernel_rfl) (by kernel_rfl) (by kernel_rfl) (fun _ _ _ h => h) (Or.inl ⟨by rfl, ?_⟩) (by assumption) ?_
      rotate_left
      · (intro w hSw; (try dsimp only at hSw); go_simp; try with_reducible rfl)
      (try simp only [Act.put, List.setIfInBounds_toArray, List.set_cons_zero, List.set_cons_succ])
      refine take_first (v := .agg ca) 18 rfl (by kernel_rfl) (by kernel_rfl) (by kernel_rfl) (fun _ _ _ h => h) (by rw [← HCA.out]; exact yields_load_obj (by rfl) 53 (.tmp 20) rfl w.heap.size 0 rfl a.cells (fun w' hb => by have h := (Mem.blk hb 0 rfl).sub 0 17; rw [prefC_addr a HO.out bits] at h; exact h) _ Tryz.underlying53 rfl (addr_cellsOf _ HO.out)) (by assumption) ?_
      (try simp only [Act.put, List.setIfInBounds_toArray, List.set_cons_zero, List.set_cons_succ])
      refine step_one 16 rfl (by kernel_rfl) (fun K hK => ?_)
      clear hHeld
      go_simp
      refine (HFS.out _).mono ?_
      rintro e wy3 ⟨rfl, hb⟩
      replace HM := Lib.hid (show Mem w [blkE w.heap.size 60 (prefC a bits)] wy3 from HM.out.below hb)
      clear hb
      go_wp2_with fail
      refine hK.out _ _ (HM.out) (fun hHeld => ?_)
      clear hK K
      (try simp only [Act.put, List.setIfInBounds_toArray, List.set_cons_zero, List.set_cons_succ])
      refine take_first (v := ?_) 19 rfl (by kernel_rfl) (by kernel_rfl) (by kernel_rfl) (fun _ _ _ h => h) (Or.inl ⟨by rfl, ?_⟩) (by assumption) ?_
      rotate_left
      · (intro w hSw; (try dsimp only at hSw); refine (run_eql_agg _ _ 53 53 19 21 ?_ cf ca vv w ?_ ?_ addr_noguard (HEQ.out w)).trans ?_ <;> first | with_reducible rfl | rfl)
      (try simp only [Act.put, List.setIfInBounds_toArray, List.set_cons_zero, List.set_cons_succ])
      refine take_first (v := ?_) 20 rfl (by kernel_rfl) (by kernel_rfl) (by kernel_rfl) (fun _ _ _ h => h) (Or.inl ⟨by rfl, ?_⟩) (by assumption) ?_
      rotate_left
      · (intro w hSw; (try dsimp only at hSw); go_simp; try with_reducible rfl)
      (try simp only [Act.put, List.setIfInBounds_toArray, List.set_cons_zero, List.set_cons_succ])
      refine take_first (v := ?_) 21 rfl (by kernel_rfl) (by kernel_rfl) (by kernel_rfl) (fun _ _ _ h => h) (Or.inl ⟨by rfl, ?_⟩) (by assumption) ?_
      rotate_left
      · (intro w hSw; (try dsimp only at hSw); go_simp; try with_reducible rfl)
      (try simp only [Act.put, List.setIfInBounds_toArray, List.set_cons_zero, List.set_cons_succ])
      refine wpAnyH_done (by kernel_rfl) ?_ _
      clear hHeld
      go_wp2
      go_ret
      exact ⟨by first | rfl | (rw [HR.out]; rfl), HM.out.bel⟩
    · have HD0 := Lib.hid (show decide (0 ≤ bits) = true by simpa using h0)
      have HD1 := Lib.hid (show decide (bits ≤ (wd : Int)) = false by simpa using h1)
      have HR := Lib.hid (show vv = false by rw [hvf, HD1.out]; simp)
      clear hvf h h0 h1 hwl
      refine wp_region_held_drew (S := fun W' => Mem w [blkE w.heap.size 60 (prefC a bits)] W') (by kernel_rfl) ((HM.out).drew) (fun hHeld => ?_)
      replace HM := Lib.hid HM.out.drew
      generalize w1.drew = wd1 at HM hHeld ⊢
      refine take_first (v := ?_) 0 rfl (by kernel_rfl) (by kernel_rfl) (by kernel_rfl) (fun _ _ _ h => h) (Or.inl ⟨by rfl, ?_⟩) (by assumption) ?_
      rotate_left
      · (intro w hSw; (try dsimp only at hSw); go_simp; try with_reducible rfl)
      (try simp only [Act.put, List.setIfInBounds_toArray, List.set_cons_zero, List.set_cons_succ])
      refine take_first (v := ?_) 1 rfl (by kernel_rfl) (by kernel_rfl) (by kernel_rfl) (fun _ _ _ h => h) (Or.inl ⟨by rfl, ?_⟩) (by assumption) ?_
      rotate_left
      · (intro w hSw; (try dsimp only at hSw); have fb := (Mem.blk hSw 0 rfl).cell 17; rw [prefC_bits a HO.out bits] at fb; go_simp; try with_reducible rfl)
      (try simp only [Act.put, List.setIfInBounds_toArray, List.set_cons_zero, List.set_cons_succ])
      refine take_first (v := ?_) 2 rfl (by kernel_rfl) (by kernel_rfl) (by kernel_rfl) (fun _ _ _ h => h) (Or.inl ⟨by rfl, ?_⟩) (by assumption) ?_
      rotate_left
      · (intro w hSw; (try dsimp only at hSw); have d0 := HD0.out; go_simp; try with_reducible rfl)
      (try simp only [Act.put, List.setIfInBounds_toArray, List.set_cons_zero, List.set_cons_succ])
      refine take_first (v := ?_) 3 rfl (by kernel_rfl) (by kernel_rfl) (by kernel_rfl) (fun _ _ _ h => h) (Or.inl ⟨by rfl, ?_⟩) (by assumption) ?_
      rotate_left
      · (intro w hSw; (try dsimp only at hSw); go_simp; try with_reducible rfl)
      (try simp only [Act.put, List.setIfInBounds_toArray, List.set_cons_zero, List.set_cons_succ])
      refine take_first (v := ?_) 4 rfl (by kernel_rfl) (by kernel_rfl) (by kernel_rfl) (fun _ _ _ h => h) (Or.inl ⟨by rfl, ?_⟩) (by assumption) ?_
      rotate_left
      · (intro w hSw; (try dsimp only at hSw); go_simp; try with_reducible rfl)
      (try simp only [Act.put, List.setIfInBounds_toArray, List.set_cons_zero, List.set_cons_succ])
      refine take_first (v := ?_) 5 rfl (by kernel_rfl) (by kernel_rfl) (by kernel_rfl) (fun _ _ _ h => h) (Or.inl ⟨by rfl, ?_⟩) (by assumption) ?_
      rotate_left
      · (intro w hSw; (try dsimp only at hSw); have fb := (Mem.blk hSw 0 rfl).cell 17; rw [prefC_bits a HO.out bits] at fb; go_simp; try with_reducible rfl)
      (try simp only [Act.put, List.setIfInBounds_toArray, List.set_cons_zero, List.set_cons_succ])
      refine take_first (v := ?_) 6 rfl (by kernel_rfl) (by kernel_rfl) (by kernel_rfl) (fun _ _ _ h => h) (Or.inl ⟨by rfl, ?_⟩) (by assumption) ?_
      rotate_left
      · (intro w hSw; (try dsimp only at hSw); go_simp; try with_reducible rfl)
      (try simp only [Act.put, List.setIfInBounds_toArray, List.set_cons_zero, List.set_cons_succ])
      refine take_first (v := .agg ca) 7 rfl (by kernel_rfl) (by kernel_rfl) (by kernel_rfl) (fun _ _ _ h => h) (by rw [← HCA.out]; exact yields_load_obj (by rfl) 53 (.tmp 9) rfl w.heap.size 0 rfl a.cells (fun w' hb => by have h := (Mem.blk hb 0 rfl).sub 0 17; rw [prefC_addr a HO.out bits] at h; exact h) _ Tryz.underlying53 rfl (addr_cellsOf _ HO.out)) (by assumption) ?_
      (try simp only [Act.put, List.setIfInBounds_toArray, List.set_cons_zero, List.set_cons_succ])
      refine step_one 8 rfl (by kernel_rfl) (fun K hK => ?_)
      clear hHeld
      go_simp
      refine (HSZ.out _).mono ?_
      rintro e wy2 ⟨rfl, hb⟩
      replace HM := Lib.hid (show Mem w [blkE w.heap.size 60 (prefC a bits)] wy2 from HM.out.below hb)
      clear hb
      go_wp2_with fail
      refine hK.out _ _ (HM.out) (fun hHeld => ?_)
      clear hK K
      (try simp only [Act.put, List.setIfInBounds_toArray, List.set_cons_zero, List.set_cons_succ])
      refine take_first (v := ?_) 9 rfl (by kernel_rfl) (by kernel_rfl) (by kernel_rfl) (fun _ _ _ h => h) (Or.inl ⟨by rfl, ?_⟩) (by assumption) ?_
      rotate_left
      · (intro w hSw; (try dsimp only at hSw); have d1 := HD1.out; go_simp; try with_reducible rfl)
      (try simp only [Act.put, List.setIfInBounds_toArray, List.set_cons_zero, List.set_cons_succ])
      refine take_first (v := ?_) 10 rfl (by kernel_rfl) (by kernel_rfl) (by kernel_rfl) (fun _ _ _ h => h) (Or.inl ⟨by rfl, ?_⟩) (by assumption) ?_
      rotate_left
      · (intro w hSw; (try dsimp only at hSw); go_simp; try with_reducible rfl)
      (try simp only [Act.put, List.setIfInBounds_toArray, List.set_cons_zero, List.set_cons_succ])
      refine take_first (v := ?_) 11 rfl (by kernel_rfl) (by kernel_rfl) (by kernel_rfl) (fun _ _ _ h => h) (Or.inl ⟨by rfl, ?_⟩) (by assumption) ?_
      rotate_left
      · (intro w hSw; (try dsimp only at hSw); go_simp; try with_reducible rfl)
      (try simp only [Act.put, List.setIfInBounds_toArray, List.set_cons_zero, List.set_cons_succ])
      refine take_first (v := undef) 12 rfl (by kernel_rfl) (by kernel_rfl) (by kernel_rfl) (fun _ _ _ h => h) (Or.inr ⟨by rfl, rfl⟩) (by assumption) ?_
      (try simp only [Act.put, List.setIfInBounds_toArray, List.set_cons_zero, List.set_cons_succ])
      refine take_first (v := undef) 13 rfl (by kernel_rfl) (by kernel_rfl) (by kernel_rfl) (fun _ _ _ h => h) (Or.inr ⟨by rfl, rfl⟩) (by assumption) ?_
      (try simp only [Act.put, List.setIfInBounds_toArray, List.set_cons_zero, List.set_cons_succ])
      refine take_first (v := undef) 14 rfl (by kernel_rfl) (by kernel_rfl) (by kernel_rfl) (fun _ _ _ h => h) (Or.inr ⟨by rfl, rfl⟩) (by assumption) ?_
      (try simp only [Act.put, List.setIfInBounds_toArray, List.set_cons_zero, List.set_cons_succ])
      refine take_first (v := undef) 15 rfl (by kernel_rfl) (by kernel_rfl) (by kernel_rfl) (fun _ _ _ h => h) (Or.inr ⟨by rfl, rfl⟩) (by assumption) ?_
      (try simp only [Act.put, List.setIfInBounds_toArray, List.set_cons_zero, List.set_cons_succ])
      refine take_first (v := undef) 16 rfl (by kernel_rfl) (by kernel_rfl) (by kernel_rfl) (fun _ _ _ h => h) (Or.inr ⟨by rfl, rfl⟩) (by assumption) ?_
      (try simp only [Act.put, List.setIfInBounds_toArray, List.set_cons_zero, List.set_cons_succ])
      refine take_first (v := undef) 17 rfl (by kernel_rfl) (by kernel_rfl) (by kernel_rfl) (fun _ _ _ h => h) (Or.inr ⟨by rfl, rfl⟩) (by assumption) ?_
      (try simp only [Act.put, List.setIfInBounds_toArray, List.set_cons_zero, List.set_cons_succ])
      refine take_first (v := undef) 18 rfl (by kernel_rfl) (by kernel_rfl) (by kernel_rfl) (fun _ _ _ h => h) (Or.inr ⟨by rfl, rfl⟩) (by assumption) ?_
      (try simp only [Act.put, List.setIfInBounds_toArray, List.set_cons_zero, List.set_cons_succ])
      refine take_first (v := undef) 19 rfl (by kernel_rfl) (by kernel_rfl) (by kernel_rfl) (fun _ _ _ h => h) (Or.inr ⟨by rfl, rfl⟩) (by assumption) ?_
      (try simp only [Act.put, List.setIfInBounds_toArray, List.set_cons_zero, List.set_cons_succ])
      refine take_first (v := ?_) 20 rfl (by kernel_rfl) (by kernel_rfl) (by kernel_rfl) (fun _ _ _ h => h) (Or.inl ⟨by rfl, ?_⟩) (by assumption) ?_
      rotate_left
      · (intro w hSw; (try dsimp only at hSw); go_simp; try with_reducible rfl)
      (try simp only [Act.put, List.setIfInBounds_toArray, List.set_cons_zero, List.set_cons_succ])
      refine take_first (v := ?_) 21 rfl (by kernel_rfl) (by kernel_rfl) (by kernel_rfl) (fun _ _ _ h => h) (Or.inl ⟨by rfl, ?_⟩) (by assumption) ?_
      rotate_left
      · (intro w hSw; (try dsimp only at hSw); go_simp; try with_reducible rfl)
      (try simp only [Act.put, List.setIfInBounds_toArray, List.set_cons_zero, List.set_cons_succ])
      refine wpAnyH_done (by kernel_rfl) ?_ _
      clear hHeld
      go_wp2
      go_ret
      exact ⟨by first | rfl | (rw [HR.out]; rfl), HM.out.bel⟩
  · have HD0 := Lib.hid (show decide (0 ≤ bits) = false by simpa using h0)
    have HR := Lib.hid (show vv = false by rw [hvf, HD0.out]; simp)
    clear hvf h h0 hwl
    refine wp_region_held_drew (S := fun W' => Mem w [blkE w.heap.size 60 (prefC a bits)] W') (by kernel_rfl) ((HM.out).drew) (fun hHeld => ?_)
    replace HM := Lib.hid HM.out.drew
    generalize w1.drew = wd1 at HM hHeld ⊢
    refine take_first (v := ?_) 0 rfl (by kernel_rfl) (by kernel_rfl) (by kernel_rfl) (fun _ _ _ h => h) (Or.inl ⟨by rfl, ?_⟩) (by assumption) ?_
    rotate_left
    · (intro w hSw; (try dsimp only at hSw); go_simp; try with_reducible rfl)
    (try simp only [Act.put, List.setIfInBounds_toArray, List.set_cons_zero, List.set_cons_succ])
    refine take_first (v := ?_) 1 rfl (by kernel_rfl) (by kernel_rfl) (by kernel_rfl) (fun _ _ _ h => h) (Or.inl ⟨by rfl, ?_⟩) (by assumption) ?_
    rotate_left
    · (intro w hSw; (try dsimp only at hSw); have fb := (Mem.blk hSw 0 rfl).cell 17; rw [prefC_bits a HO.out bits] at fb; go_simp; try with_reducible rfl)
    (try simp only [Act.put, List.setIfInBounds_toArray, List.set_cons_zero, List.set_cons_succ])
    refine take_first (v := ?_) 2 rfl (by kernel_rfl) (by kernel_rfl) (by kernel_rfl) (fun _ _ _ h => h) (Or.inl ⟨by rfl, ?_⟩) (by assumption) ?_
    rotate_left
    · (intro w hSw; (try dsimp only at hSw); have d0 := HD0.out; go_simp; try with_reducible rfl)
    (try simp only [Act.put, List.setIfInBounds_toArray, List.set_cons_zero, List.set_cons_succ])
    refine take_first (v := ?_) 3 rfl (by kernel_rfl) (by kernel_rfl) (by kernel_rfl) (fun _ _ _ h => h) (Or.inl ⟨by rfl, ?_⟩) (by assumption) ?_
    rotate_left
    · (intro w hSw; (try dsimp only at hSw); go_simp; try with_reducible rfl)
    (try simp only [Act.put, List.setIfInBounds_toArray, List.set_cons_zero, List.set_cons_succ])
    refine take_first (v := undef) 4 rfl (by kernel_rfl) (by kernel_rfl) (by kernel_rfl) (fun _ _ _ h => h) (Or.inr ⟨by rfl, rfl⟩) (by assumption) ?_
    (try simp only [Act.put, List.setIfInBounds_toArray, List.set_cons_zero, List.set_cons_succ])
    refine take_first (v := undef) 5 rfl (by kernel_rfl) (by kernel_rfl) (by kernel_rfl) (fun _ _ _ h => h) (Or.inr ⟨by rfl, rfl⟩) (by assumption) ?_
    (try simp only [Act.put, List.setIfInBounds_toArray, List.set_cons_zero, List.set_cons_succ])
    refine take_first (v := undef) 6 rfl (by kernel_rfl) (by kernel_rfl) (by kernel_rfl) (fun _ _ _ h => h) (Or.inr ⟨by rfl, rfl⟩) (by assumption) ?_
    (try simp only [Act.put, List.setIfInBounds_toArray, List.set_cons_zero, List.set_cons_succ])
    refine take_first (v := undef) 7 rfl (by kernel_rfl) (by kernel_rfl) (by kernel_rfl) (fun _ _ _ h => h) (Or.inr ⟨by rfl, rfl⟩) (by assumption) ?_
    (try simp only [Act.put, List.setIfInBounds_toArray, List.set_cons_zero, List.set_cons_succ])
    refine take_first (v := undef) 8 rfl (by kernel_rfl) (by kernel_rfl) (by kernel_rfl) (fun _ _ _ h => h) (Or.inr ⟨by rfl, rfl⟩) (by assumption) ?_
    (try simp only [Act.put, List.setIfInBounds_toArray, List.set_cons_zero, List.set_cons_succ])
    refine take_first (v := undef) 9 rfl (by kernel_rfl) (by kernel_rfl) (by kernel_rfl) (fun _ _ _ h => h) (Or.inr ⟨by rfl, rfl⟩) (by assumption) ?_
    (try simp only [Act.put, List.setIfInBounds_toArray, List.set_cons_zero, List.set_cons_succ])
    refine take_first (v := ?_) 10 rfl (by kernel_rfl) (by kernel_rfl) (by kernel_rfl) (fun _ _ _ h => h) (Or.inl ⟨by rfl, ?_⟩) (by assumption) ?_
    rotate_left
    · (intro w hSw; (try dsimp only at hSw); go_simp; try with_reducible rfl)
    (try simp only [Act.put, List.setIfInBounds_toArray, List.set_cons_zero, List.set_cons_succ])
    refine take_first (v := ?_) 11 rfl (by kernel_rfl) (by kernel_rfl) (by kernel_rfl) (fun _ _ _ h => h) (Or.inl ⟨by rfl, ?_⟩) (by assumption) ?_
    rotate_left
    · (intro w hSw; (try dsimp only at hSw); go_simp; try with_reducible rfl)
    (try simp only [Act.put, List.setIfInBounds_toArray, List.set_cons_zero, List.set_cons_succ])
    refine take_first (v := undef) 12 rfl (by kernel_rfl) (by kernel_rfl) (by kernel_rfl) (fun _ _ _ h => h) (Or.inr ⟨by rfl, rfl⟩) (by assumption) ?_
    (try simp only [Act.put, List.setIfInBounds_toArray, List.set_cons_zero, List.set_cons_succ])
    refine take_first (v := undef) 13 rfl (by kernel_rfl) (by kernel_rfl) (by kernel_rfl) (fun _ _ _ h => h) (Or.inr ⟨by rfl, rfl⟩) (by assumption) ?_
    (try simp only [Act.put, List.setIfInBounds_toArray, List.set_cons_zero, List.set_cons_succ])
    refine take_first (v := undef) 14 rfl (by kernel_rfl) (by kernel_rfl) (by kernel_rfl) (fun _ _ _ h => h) (Or.inr ⟨by rfl, rfl⟩) (by assumption) ?_
    (try simp only [Act.put, List.setIfInBounds_toArray, List.set_cons_zero, List.set_cons_succ])
    refine take_first (v := undef) 15 rfl (by kernel_rfl) (by kernel_rfl) (by kernel_rfl) (fun _ _ _ h => h) (Or.inr ⟨by rfl, rfl⟩) (by assumption) ?_
    (try simp only [Act.put, List.setIfInBounds_toArray, List.set_cons_zero, List.set_cons_succ])
    refine take_first (v := undef) 16 rfl (by kernel_rfl) (by kernel_rfl) (by kernel_rfl) (fun _ _ _ h => h) (Or.inr ⟨by rfl, rfl⟩) (by assumption) ?_
    (try simp only [Act.put, List.setIfInBounds_toArray, List.set_cons_zero, List.set_cons_succ])
    refine take_first (v := undef) 17 rfl (by kernel_rfl) (by kernel_rfl) (by kernel_rfl) (fun _ _ _ h => h) (Or.inr ⟨by rfl, rfl⟩) (by assumption) ?_
    (try simp only [Act.put, List.setIfInBounds_toArray, List.set_cons_zero, List.set_cons_succ])
    refine take_first (v := undef) 18 rfl (by kernel_rfl) (by kernel_rfl) (by kernel_rfl) (fun _ _ _ h => h) (Or.inr ⟨by rfl, rfl⟩) (by assumption) ?_
    (try simp only [Act.put, List.setIfInBounds_toArray, List.set_cons_zero, List.set_cons_succ])
    refine take_first (v := undef) 19 rfl (by kernel_rfl) (by kernel_rfl) (by kernel_rfl) (fun _ _ _ h => h) (Or.inr ⟨by rfl, rfl⟩) (by assumption) ?_
    (try simp only [Act.put, List.setIfInBounds_toArray, List.set_cons_zero, List.set_cons_succ])
    refine take_first (v := ?_) 20 rfl (by kernel_rfl) (by kernel_rfl) (by kernel_rfl) (fun _ _ _ h => h) (Or.inl ⟨by rfl, ?_⟩) (by assumption) ?_
    rotate_left
    · (intro w hSw; (try dsimp only at hSw); go_simp; try with_reducible rfl)
    (try simp only [Act.put, List.setIfInBounds_toArray, List.set_cons_zero, List.set_cons_succ])
    refine take_first (v := ?_) 21 rfl (by kernel_rfl) (by kernel_rfl) (by kernel_rfl) (fun _ _ _ h => h) (Or.inl ⟨by rfl, ?_⟩) (by assumption) ?_
    rotate_left
    · (intro w hSw; (try dsimp only at hSw); go_simp; try with_reducible rfl)
    (try simp only [Act.put, List.setIfInBounds_toArray, List.set_cons_zero, List.set_cons_succ])
    refine wpAnyH_done (by kernel_rfl) ?_ _
    clear hHeld
    go_wp2
    go_ret
    exact ⟨by first | rfl | (rw [HR.out]; rfl), HM.out.bel⟩
set_option maxRecDepth 100000 in
set_option maxHeartbeats 4000000 in
theorem contains_any (a : AddrM) (bits : Int) (h : a.ok) (x : AddrM) (hx : x.ok) (w : World) :
    Calls Tryz.prog 118 #[.agg (prefC a bits).toArray, .agg x.cells.toArray] w fun e w' => e = .returned (.bool (containsM a bits x)) ∧ Below w.heap.size w w' := by
  have hcf0 := contains_first a x h hx bits
  have hvf := valid_first a h bits
  have hva := fun W : World => valid_any a bits h W
  have hsx := fun W : World => validAddress_any x hx W
  have hwl := widthM_128 a
  obtain ⟨cp, hcp⟩ : ∃ c, (prefC a bits).toArray = c := ⟨_, rfl⟩
  obtain ⟨cx, hcx⟩ : ∃ c, x.cells.toArray = c := ⟨_, rfl⟩
  obtain ⟨ca, hca⟩ : ∃ c, a.cells.toArray = c := ⟨_, rfl⟩
  obtain ⟨vv, hvv⟩ : ∃ r, containsM a bits x = r := ⟨_, rfl⟩
  obtain ⟨va, hvva⟩ : ∃ r, validM a bits = r := ⟨_, rfl⟩
  obtain ⟨sx, hsxx⟩ : ∃ r, soundM x = r := ⟨_, rfl⟩
  simp only [hcp, hcx, hvv, hvva, hsxx] at hcf0 hvf hva hsx ⊢
  have HM := Lib.hid (show Mem w [blkE (w.heap.size + 1) 53 x.cells, blkE w.heap.size 60 (prefC a bits)] ((w.alloc (.cells cp 60)).alloc (.cells cx 53)) from ((Mem.nil w).alloc rfl 60 cp (prefC a bits) hcp.symm).alloc (by simp) 53 cx x.cells hcx.symm)
  have HO := Lib.hid h
  have HOX := Lib.hid hx
  have HCA := Lib.hid hca
  have HCX := Lib.hid hcx
  have HCP := Lib.hid hcp
  clear hvv hvva hsxx
  go_enter Tryz.func118, Tryz.ntmps118
  go_upto_region 1 with fail
  generalize ((w.alloc (.cells cp 60)).alloc (.cells cx 53)) = w1 at HM ⊢
  cases va with
  | false =>
    have HVA := Lib.hid hva
    have HR := Lib.hid (show vv = false by rw [hcf0]; simp)
    clear hva hsx hcf0 hvf h hx hwl hca hcx hcp
    refine wp_region_held_drew (S := fun W' => Mem w [blkE (w.heap.size + 1) 53 x.cells, blkE w.heap.size 60 (prefC a bits)] W') (by kernel_rfl) ((HM.out).drew) (fun hHeld => ?_)
    replace HM := Lib.hid HM.out.drew
    generalize w1.drew = wd1 at HM hHeld ⊢
    refine take_first (v := .agg cp) 0 rfl (by kernel_rfl) (by kernel_rfl) (by kernel_rfl) (fun _ _ _ h => h) (by rw [← HCP.out]; exact yields_load_obj (by rfl) 60 (.tmp 2) rfl w.heap.size 0 rfl (prefC a bits) (fun w' hb => (Mem.blk hb 1 rfl).all) _ Tryz.underlying60 rfl (pref_cellsOf _ HO.out _)) (by assumption) ?_
    (try simp only [Act.put, List.setIfInBounds_toArray, List.set_cons_zero, List.set_cons_succ])
    refine step_one 1 rfl (by kernel_rfl) (fun K hK => ?_)
    clear hHeld
    go_simp
    refine (HVA.out _).mono ?_
    rintro e wy2 ⟨rfl, hb⟩
    replace HM := Lib.hid (show Mem w [blkE (w.heap.size + 1) 53 x.cells, blkE w.heap.size 60 (prefC a bits)] wy2 from HM.out.below hb)
    clear hb
    go_wp2_with fail
    refine hK.out _ _ (HM.out) (fun hHeld => ?_)
    clear hK K
    (try simp only [Act.put, List.setIfInBounds_toArray, List.set_cons_zero, List.set_cons_succ])
    refine take_first (v := ?_) 2 rfl (by kernel_rfl) (by kernel_rfl) (by kernel_rfl) (fun _ _ _ h => h) (Or.inl ⟨by rfl, ?_⟩) (by assumption) ?_
    rotate_left
    · (intro w hSw; (try dsimp only at hSw); go_simp; try with_reducible rfl)
    (try simp only [Act.put, List.setIfInBounds_toArray, List.set_cons_zero, List.set_cons_succ])
    refine take_first (v := undef) 3 rfl (by kernel_rfl) (by kernel_rfl) (by kernel_rfl) (fun _ _ _ h => h) (Or.inr ⟨by rfl, rfl⟩) (by assumption) ?_
    (try simp only [Act.put, List.setIfInBounds_toArray, List.set_cons_zero, List.set_cons_succ])
    refine take_first (v := undef) 4 rfl (by kernel_rfl) (by kernel_rfl) (by kernel_rfl) (fun _ _ _ h => h) (Or.inr ⟨by rfl, rfl⟩) (by assumption) ?_
    (try simp only [Act.put, List.setIfInBounds_toArray, List.set_cons_zero, List.set_cons_succ])
    refine take_first (v := ?_) 5 rfl (by kernel_rfl) (by kernel_rfl) (by kernel_rfl) (fun _ _ _ h => h) (Or.inl ⟨by rfl, ?_⟩) (by assumption) ?_
    rotate_left
    · (intro w hSw; (try dsimp only at hSw); go_simp; try with_reducible rfl)
    (try simp only [Act.put, List.setIfInBounds_toArray, List.set_cons_zero, List.set_cons_succ])
    refine take_first (v := ?_) 6 rfl (by kernel_rfl) (by kernel_rfl) (by kernel_rfl) (fun _ _ _ h => h) (Or.inl ⟨by rfl, ?_⟩) (by assumption) ?_
    rotate_left
    · (intro w hSw; (try dsimp only at hSw); go_simp; try with_reducible rfl)
    (try simp only [Act.put, List.setIfInBounds_toArray, List.set_cons_zero, List.set_cons_succ])
    refine take_first (v := undef) 7 rfl (by kernel_rfl) (by kernel_rfl) (by kernel_rfl) (fun _ _ _ h => h) (Or.inr ⟨by rfl, rfl⟩) (by assumption) ?_
    (try simp only [Act.put, List.setIfInBounds_toArray, List.set_cons_zero, List.set_cons_succ])
    refine take_first (v := undef) 8 rfl (by kernel_rfl) (by kernel_rfl) (by kernel_rfl) (fun _ _ _ h => h) (Or.inr ⟨by rfl, rfl⟩) (by assumption) ?_
    (try simp only [Act.put, List.setIfInBounds_toArray, List.set_cons_zero, List.set_cons_succ])
    refine take_first (v := undef) 9 rfl (by kernel_rfl) (by kernel_rfl) (by kernel_rfl) (fun _ _ _ h => h) (Or.inr ⟨by rfl, rfl⟩) (by assumption) ?_
    (try simp only [Act.put, List.setIfInBounds_toArray, List.set_cons_zero, List.set_cons_succ])
    refine take_first (v := undef) 10 rfl (by kernel_rfl) (by kernel_rfl) (by kernel_rfl) (fun _ _ _ h => h) (Or.inr ⟨by rfl, rfl⟩) (by assumption) ?_
    (try simp only [Act.put, List.setIfInBounds_toArray, List.set_cons_zero, List.set_cons_succ])
    refine take_first (v := undef) 11 rfl (by kernel_rfl) (by kernel_rfl) (by kernel_rfl) (fun _ _ _ h => h) (Or.inr ⟨by rfl, rfl⟩) (by assumption) ?_
    (try simp only [Act.put, List.setIfInBounds_toArray, List.set_cons_zero, List.set_cons_succ])
    refine take_first (v := undef) 12 rfl (by kernel_rfl) (by kernel_rfl) (by kernel_rfl) (fun _ _ _ h => h) (Or.inr ⟨by rfl, rfl⟩) (by assumption) ?_
    (try simp only [Act.put, List.setIfInBounds_toArray, List.set_cons_zero, List.set_cons_succ])
    refine take_first (v := undef) 13 rfl (by kernel_rfl) (by kernel_rfl) (by kernel_rfl) (fun _ _ _ h => h) (Or.inr ⟨by rfl, rfl⟩) (by assumption) ?_
    (try simp only [Act.put, List.setIfInBounds_toArray, List.set_cons_zero, List.set_cons_succ])
    refine take_first (v := ?_) 14 rfl (by kernel_rfl) (by kernel_rfl) (by kernel_rfl) (fun _ _ _ h => h) (Or.inl ⟨by rfl, ?_⟩) (by assumption) ?_
    rotate_left
    · (intro w hSw; (try dsimp only at hSw); go_simp; try with_reducible rfl)
    (try simp only [Act.put, List.setIfInBounds_toArray, List.set_cons_zero, List.set_cons_succ])
    refine take_first (v := ?_) 15 rfl (by kernel_rfl) (by kernel_rfl) (by kernel_rfl) (fun _ _ _ h => h) (Or.inl ⟨by rfl, ?_⟩) (by assumption) ?_
    rotate_left
    · (intro w hSw; (try dsimp only at hSw); go_simp; try with_reducible rfl)
    (try simp only [Act.put, List.setIfInBounds_toArray, List.set_cons_zero, List.set_cons_succ])
    refine wpAnyH_done (by kernel_rfl) ?_ _
    clear hHeld
    go_wp2
    go_ret
    exact ⟨by first | rfl | (rw [HR.out]; rfl), HM.out.bel⟩
  | true =>
    cases sx with
    | false =>
      have HVA := Lib.hid hva
      have HSX := Lib.hid hsx
      have HR := Lib.hid (show vv = false by rw [hcf0]; simp)
      clear hva hsx hcf0 hvf h hx hwl hca hcx hcp
      refine wp_region_held_drew (S := fun W' => Mem w [blkE (w.heap.size + 1) 53 x.cells, blkE w.heap.size 60 (prefC a bits)] W') (by kernel_rfl) ((HM.out).drew) (fun hHeld => ?_)
      replace HM := Lib.hid HM.out.drew
      generalize w1.drew = wd1 at HM hHeld ⊢
      refine take_first (v := .agg cp) 0 rfl (by kernel_rfl) (by kernel_rfl) (by kernel_rfl) (fun _ _ _ h => h) (by rw [← HCP.out]; exact yields_load_obj (by rfl) 60 (.tmp 2) rfl w.heap.size 0 rfl (prefC a bits) (fun w' hb => (Mem.blk hb 1 rfl).all) _ Tryz.underlying60 rfl (pref_cellsOf _ HO.out _)) (by assumption) ?_
      (try simp only [Act.put, List.setIfInBounds_toArray, List.set_cons_zero, List.set_cons_succ])
      refine step_one 1 rfl (by kernel_rfl) (fun K hK => ?_)
      clear hHeld
      go_simp
      refine (HVA.out _).mono ?_
      rintro e wy2 ⟨rfl, hb⟩
      replace HM := Lib.hid (show Mem w [blkE (w.heap.size + 1) 53 x.cells, blkE w.heap.size 60 (prefC a bits)] wy2 from HM.out.below hb)
      clear hb
      go_wp2_with fail
      refine hK.out _ _ (HM.out) (fun hHeld => ?_)
      clear hK K
      (try simp only [Act.put, List.setIfInBounds_toArray, List.set_cons_zero, List.set_cons_succ])
      refine take_first (v := ?_) 2 rfl (by kernel_rfl) (by kernel_rfl) (by kernel_rfl) (fun _ _ _ h => h) (Or.inl ⟨by rfl, ?_⟩) (by assumption) ?_
      rotate_left
      · (intro w hSw; (try dsimp only at hSw); go_simp; try with_reducible rfl)
      (try simp only [Act.put, List.setIfInBounds_toArray, List.set_cons_zero, List.set_cons_succ])
      refine take_first (v := .agg cx) 3 rfl (by kernel_rfl) (by kernel_rfl) (by kernel_rfl) (fun _ _ _ h => h) (by rw [← HCX.out]; exact yields_load_obj (by rfl) 53 (.tmp 3) rfl (w.heap.size + 1) 0 rfl x.cells (fun w' hb => (Mem.blk hb 0 rfl).all) _ Tryz.underlying53 rfl (addr_cellsOf _ HOX.out)) (by assumption) ?_
      (try simp only [Act.put, List.setIfInBounds_toArray, List.set_cons_zero, List.set_cons_succ])
      refine step_one 4 rfl (by kernel_rfl) (fun K hK => ?_)
      clear hHeld
      go_simp
      refine (HSX.out _).mono ?_
      rintro e wy3 ⟨rfl, hb⟩
      replace HM := Lib.hid (show Mem w [blkE (w.heap.size + 1) 53 x.cells, blkE w.heap.size 60 (prefC a bits)] wy3 from HM.out.below hb)
      clear hb
      go_wp2_with fail
      refine hK.out _ _ (HM.out) (fun hHeld => ?_)
      clear hK K
      (try simp only [Act.put, List.setIfInBounds_toArray, List.set_cons_zero, List.set_cons_succ])
      refine take_first (v := ?_) 5 rfl (by kernel_rfl) (by kernel_rfl) (by kernel_rfl) (fun _ _ _ h => h) (Or.inl ⟨by rfl, ?_⟩) (by assumption) ?_
      rotate_left
      · (intro w hSw; (try dsimp only at hSw); go_simp; try with_reducible rfl)
      (try simp only [Act.put, List.setIfInBounds_toArray, List.set_cons_zero, List.set_cons_succ])
      refine take_first (v := ?_) 6 rfl (by kernel_rfl) (by kernel_rfl) (by kernel_rfl) (fun _ _ _ h => h) (Or.inl ⟨by rfl, ?_⟩) (by assumption) ?_
      rotate_left
      · (intro w hSw; (try dsimp only at hSw); go_simp; try with_reducible rfl)
      (try simp only [Act.put, List.setIfInBounds_toArray, List.set_cons_zero, List.set_cons_succ])
      refine take_first (v := undef) 7 rfl (by kernel_rfl) (by kernel_rfl) (by kernel_rfl) (fun _ _ _ h => h) (Or.inr ⟨by rfl, rfl⟩) (by assumption) ?_
      (try simp only [Act.put, List.setIfInBounds_toArray, List.set_cons_zero, List.set_cons_succ])
      refine take_first (v := undef) 8 rfl (by kernel_rfl) (by kernel_rfl) (by kernel_rfl) (fun _ _ _ h => h) (Or.inr ⟨by rfl, rfl⟩) (by assumption) ?_
      (try simp only [Act.put, List.setIfInBounds_toArray, List.set_cons_zero, List.set_cons_succ])
      refine take_first (v := undef) 9 rfl (by kernel_rfl) (by kernel_rfl) (by kernel_rfl) (fun _ _ _ h => h) (Or.inr ⟨by rfl, rfl⟩) (by assumption) ?_
      (try simp only [Act.put, List.setIfInBounds_toArray, List.set_cons_zero, List.set_cons_succ])
      refine take_first (v := undef) 10 rfl (by kernel_rfl) (by kernel_rfl) (by kernel_rfl) (fun _ _ _ h => h) (Or.inr ⟨by rfl, rfl⟩) (by assumption) ?_
      (try simp only [Act.put, List.setIfInBounds_toArray, List.set_cons_zero, List.set_cons_succ])
      refine take_first (v := undef) 11 rfl (by kernel_rfl) (by kernel_rfl) (by kernel_rfl) (fun _ _ _ h => h) (Or.inr ⟨by rfl, rfl⟩) (by assumption) ?_
      (try simp only [Act.put, List.setIfInBounds_toArray, List.set_cons_zero, List.set_cons_succ])
      refine take_first (v := undef) 12 rfl (by kernel_rfl) (by kernel_rfl) (by kernel_rfl) (fun _ _ _ h => h) (Or.inr ⟨by rfl, rfl⟩) (by assumption) ?_
      (try simp only [Act.put, List.setIfInBounds_toArray, List.set_cons_zero, List.set_cons_succ])
      refine take_first (v := undef) 13 rfl (by kernel_rfl) (by kernel_rfl) (by kernel_rfl) (fun _ _ _ h => h) (Or.inr ⟨by rfl, rfl⟩) (by assumption) ?_
      (try simp only [Act.put, List.setIfInBounds_toArray, List.set_cons_zero, List.set_cons_succ])
      refine take_first (v := ?_) 14 rfl (by kernel_rfl) (by kernel_rfl) (by kernel_rfl) (fun _ _ _ h => h) (Or.inl ⟨by rfl, ?_⟩) (by assumption) ?_
      rotate_left
      · (intro w hSw; (try dsimp only at hSw); go_simp; try with_reducible rfl)
      (try simp only [Act.put, List.setIfInBounds_toArray, List.set_cons_zero, List.set_cons_succ])
      refine take_first (v := ?_) 15 rfl (by kernel_rfl) (by kernel_rfl) (by kernel_rfl) (fun _ _ _ h => h) (Or.inl ⟨by rfl, ?_⟩) (by assumption) ?_
      rotate_left
      · (intro w hSw; (try dsimp only at hSw); go_simp; try with_reducible rfl)
      (try simp only [Act.put, List.setIfInBounds_toArray, List.set_cons_zero, List.set_cons_succ])
      refine wpAnyH_done (by kernel_rfl) ?_ _
      clear hHeld
      go_wp2
      go_ret
      exact ⟨by first | rfl | (rw [HR.out]; rfl), HM.out.bel⟩
    | true =>
      have HVA := Lib.hid hva
      have HSX := Lib.hid hsx
      have hv2 := hvf.symm
      rw [Bool.and_eq_true, Bool.and_eq_true, decide_eq_true_iff, decide_eq_true_iff] at hv2
      rw [Bool.true_and, Bool.true_and] at hcf0
      obtain ⟨k, hk⟩ : ∃ k : Nat, bits = (k : Int) := ⟨bits.toNat, by omega⟩
      have hfs := fun W : World => first_any x hx k (by omega) W
      have heq := fun W : World => addr_eq (firstM x k) a (firstM_ok x hx _) h W
      have hkn : bits.toNat = k := by omega
      rw [hkn] at hcf0
      obtain ⟨cf, hcf⟩ : ∃ c, (firstM x k).cells.toArray = c := ⟨_, rfl⟩
      rw [← hcf0] at heq
      rw [← hk] at hfs
      simp only [hca, hcx, hcf] at hfs heq
      have HFS := Lib.hid hfs
      have HEQ := Lib.hid heq
      have HR := Lib.hid (Eq.refl vv)
      clear hva hsx hcf0 hvf h hx hwl hca hcx hcp hfs heq hv2 hkn hk hcf
      refine wp_region_held_drew (S := fun W' => Mem w [blkE (w.heap.size + 1) 53 x.cells, blkE w.heap.size 60 (prefC a bits)] W') (by kernel_rfl) ((HM.out).drew) (fun hHeld => ?_)
      replace HM := Lib.hid HM.out.drew
      generalize w1.drew = wd1 at HM hHeld ⊢
      refine take_first (v := .agg cp) 0 rfl (by kernel_rfl) (by kernel_rfl) (by kernel_rfl) (fun _ _ _ h => h) (by rw [← HCP.out]; exact yields_load_obj (by rfl) 60 (.tmp 2) rfl w.heap.size 0 rfl (prefC a bits) (fun w' hb => (Mem.blk hb 1 rfl).all) _ Tryz.underlying60 rfl (pref_cellsOf _ HO.out _)) (by assumption) ?_
      (try simp only [Act.put, List.setIfInBounds_toArray, List.set_cons_zero, List.set_cons_succ])
      refine step_one 1 rfl (by kernel_rfl) (fun K hK => ?_)
      clear hHeld
      go_simp
      refine (HVA.out _).mono ?_
      rintro e wy2 ⟨rfl, hb⟩
      replace HM := Lib.hid (show Mem w [blkE (w.heap.size + 1) 53 x.cells, blkE w.heap.size 60 (prefC a bits)] wy2 from HM.out.below hb)
      clear hb
      go_wp2_with fail
      refine hK.out _ _ (HM.out) (fun hHeld => ?_)
      clear hK K
      (try simp only [Act.put, List.setIfInBounds_toArray, List.set_cons_zero, List.set_cons_succ])
      refine take_first (v := ?_) 2 rfl (by kernel_rfl) (by kernel_rfl) (by kernel_rfl) (fun _ _ _ h => h) (Or.inl ⟨by rfl, ?_⟩) (by assumption) ?_
      rotate_left
      · (intro w hSw; (try dsimp only at hSw); go_simp; try with_reducible rfl)
      (try simp only [Act.put, List.setIfInBounds_toArray, List.set_cons_zero, List.set_cons_succ])
      refine take_first (v := .agg cx) 3 rfl (by kernel_rfl) (by kernel_rfl) (by kernel_rfl) (fun _ _ _ h => h) (by rw [← HCX.out]; exact yields_load_obj (by rfl) 53 (.tmp 3) rfl (w.heap.size + 1) 0 rfl x.cells (fun w' hb => (Mem.blk hb 0 rfl).all) _ Tryz.underlying53 rfl (addr_cellsOf _ HOX.out)) (by assumption) ?_
      (try simp only [Act.put, List.setIfInBounds_toArray, List.set_cons_zero, List.set_cons_succ])
      refine step_one 4 rfl (by kernel_rfl) (fun K hK => ?_)
      clear hHeld
      go_simp
      refine (HSX.out _).mono ?_
      rintro e wy3 ⟨rfl, hb⟩
      replace HM := Lib.hid (show Mem w [blkE (w.heap.size + 1) 53 x.cells, blkE w.heap.size 60 (prefC a bits)] wy3 from HM.out.below hb)
      clear hb
      go_wp2_with fail
      refine hK.out _ _ (HM.out) (fun hHeld => ?_)
      clear hK K
      (try simp only [Act.put, List.setIfInBounds_toArray, List.set_cons_zero, List.set_cons_succ])
      refine take_first (v := ?_) 5 rfl (by kernel_rfl) (by kernel_rfl) (by kernel_rfl) (fun _ _ _ h => h) (Or.inl ⟨by rfl, ?_⟩) (by assumption) ?_
      rotate_left
      · (intro w hSw; (try dsimp only at hSw); go_simp; try with_reducible rfl)
      (try simp only [Act.put, List.setIfInBounds_toArray, List.set_cons_zero, List.set_cons_succ])
      refine take_first (v := ?_) 6 rfl (by kernel_rfl) (by kernel_rfl) (by kernel_rfl) (fun _ _ _ h => h) (Or.inl ⟨by rfl, ?_⟩) (by assumption) ?_
      rotate_left
      · (intro w hSw; (try dsimp only at hSw); go_simp; try with_reducible rfl)
      (try simp only [Act.put, List.setIfInBounds_toArray, List.set_cons_zero, List.set_cons_succ])
      refine take_first (v := .agg cx) 7 rfl (by kernel_rfl) (by kernel_rfl) (by kernel_rfl) (fun _ _ _ h => h) (by rw [← HCX.out]; exact yields_load_obj (by rfl) 53 (.tmp 3) rfl (w.heap.size + 1) 0 rfl x.cells (fun w' hb => (Mem.blk hb 0 rfl).all) _ Tryz.underlying53 rfl (addr_cellsOf _ HOX.out)) (by assumption) ?_
      (try simp only [Act.put, List.setIfInBounds_toArray, List.set_cons_zero, List.set_cons_succ])
      refine take_first (v := ?_) 8 rfl (by kernel_rfl) (by kernel_rfl) (by kernel_rfl) (fun _ _ _ h => h) (Or.inl ⟨by rfl, ?_⟩) (by assumption) ?_
      rotate_left
      · (intro w hSw; (try dsimp only at hSw); go_simp; try with_reducible rfl)
      (try simp only [Act.put, List.setIfInBounds_toArray, List.set_cons_zero, List.set_cons_succ])
      refine take_first (v := ?_) 9 rfl (by kernel_rfl) (by kernel_rfl) (by kernel_rfl) (fun _ _ _ h => h) (Or.inl ⟨by rfl, ?_⟩) (by assumption) ?_
      rotate_left
      · (intro w hSw; (try dsimp only at hSw); have fb := (Mem.blk hSw 1 rfl).cell 17; rw [prefC_bits a HO.out bits] at fb; go_simp; try with_reducible rfl)
      (try simp only [Act.put, List.setIfInBounds_toArray, List.set_cons_zero, List.set_cons_succ])
      refine take_first (v := ?_) 11 rfl (by kernel_rfl) (by kernel_rfl) (by kernel_rfl) (fun _ _ _ h => h) (Or.inl ⟨by rfl, ?_⟩) (by assumption) ?_
      rotate_left
      · (intro w hSw; (try dsimp only at hSw); go_simp; try with_reducible rfl)
      (try simp only [Act.put, List.setIfInBounds_toArray, List.set_cons_zero, List.set_cons_succ])
      refine take_first (v := .agg ca) 12 rfl (by kernel_rfl) (by kernel_rfl) (by kernel_rfl) (fun _ _ _ h => h) (by rw [← HCA.out]; exact yields_load_obj (by rfl) 53 (.tmp 16) rfl w.heap.size 0 rfl a.cells (fun w' hb => by have h := (Mem.blk hb 1 rfl).sub 0 17; rw [prefC_addr a HO.out bits] at h; exact h) _ Tryz.underlying53 rfl (addr_cellsOf _ HO.out)) (by assumption) ?_
      (try simp only [Act.put, List.setIfInBounds_toArray, List.set_cons_zero, List.set_cons_succ])
      refine step_one 10 rfl (by kernel_rfl) (fun K hK => ?_)
      clear hHeld
      go_simp
      refine (HFS.out _).mono ?_
      rintro e wy4 ⟨rfl, hb⟩
      replace HM := Lib.hid (show Mem w [blkE (w.heap.size + 1) 53 x.cells, blkE w.heap.size 60 (prefC a bits)] wy4 from HM.out.below hb)
      clear hb
      go_wp2_with fail
      refine hK.out _ _ (HM.out) (fun hHeld => ?_)
      clear hK K
      (try simp only [Act.put, List.setIfInBounds_toArray, List.set_cons_zero, List.set_cons_succ])
      refine take_first (v := ?_) 13 rfl (by kernel_rfl) (by kernel_rfl) (by kernel_rfl) (fun _ _ _ h => h) (Or.inl ⟨by rfl, ?_⟩) (by assumption) ?_
      rotate_left
      · (intro w hSw; (try dsimp only at hSw); refine (run_eql_agg _ _ 53 53 15 17 ?_ cf ca vv w ?_ ?_ addr_noguard (HEQ.out w)).trans ?_ <;> first | with_reducible rfl | rfl)
      (try simp only [Act.put, List.setIfInBounds_toArray, List.set_cons_zero, List.set_cons_succ])
      refine take_first (v := ?_) 14 rfl (by kernel_rfl) (by kernel_rfl) (by kernel_rfl) (fun _ _ _ h => h) (Or.inl ⟨by rfl, ?_⟩) (by assumption) ?_
      rotate_left
      · (intro w hSw; (try dsimp only at hSw); go_simp; try with_reducible rfl)
      (try simp only [Act.put, List.setIfInBounds_toArray, List.set_cons_zero, List.set_cons_succ])
      refine take_first (v := ?_) 15 rfl (by kernel_rfl) (by kernel_rfl) (by kernel_rfl) (fun _ _ _ h => h) (Or.inl ⟨by rfl, ?_⟩) (by assumption) ?_
      rotate_left
      · (intro w hSw; (try dsimp only at hSw); go_simp; try with_reducible rfl)
      (try simp only [Act.put, List.setIfInBounds_toArray, List.set_cons_zero, List.set_cons_succ])
      refine wpAnyH_done (by kernel_rfl) ?_ _
      clear hHeld
      go_wp2
      go_ret
      exact ⟨by first | rfl | (rw [HR.out]; rfl), HM.out.bel⟩
end Go.Proofs.YtcbfchkhbngpkaaGreatDoor
namespace Go.Proofs.YtcbfchkhbngpkaaGreatDoor
open Go.RowKit

theorem ret_string {a b : ByteArray} (h : a.data.toList = b.data.toList) : Ending.returned (.string a) = .returned (.string b) := by rw [Go.WideShapes.bytes_inj h]
end Go.Proofs.YtcbfchkhbngpkaaGreatDoor
namespace Go.Proofs.YtcbfchkhbngpkaaGreatDoor
open Go.RowKit

theorem add_text (x y : List UInt8) (hx : x.length ≤ 1000000) (hy : y.length ≤ 1000000) (W : World) : (Op.stringOp .add ⟨x.toArray⟩ ⟨y.toArray⟩).run Tryz.prog W = .ok (.string ⟨(x ++ y).toArray⟩) W :=
  run_string_add_lists W x y (by omega) (by omega)
end Go.Proofs.YtcbfchkhbngpkaaGreatDoor
namespace Go.Proofs.YtcbfchkhbngpkaaGreatDoor
open Go.RowKit

def addrZ (b : Bool) : AddrM := ⟨b, List.replicate 16 0⟩
theorem addrZ_ok (b : Bool) : (addrZ b).ok := by simp [AddrM.ok, addrZ]
theorem bit_zero (i : Nat) : bitM (List.replicate 16 (0 : UInt8)) i = 0 := by
  rw [bitM]
  have e : (List.replicate 16 (0 : UInt8)).getD (i / 8) 0 = 0 := by
    rw [List.getD_eq_getElem?_getD, List.getElem?_replicate]
    split <;> rfl
  rw [e]
  simp
theorem contains_zero (a : AddrM) : containsM (addrZ a.six) 0 a = soundM a := by
  have hs : soundM (addrZ a.six) = true := by
    rw [soundM]
    cases a.six <;> rfl
  have hw : (0 : Int) ≤ (widthM (addrZ a.six) : Int) := by omega
  have hv : validM (addrZ a.six) 0 = true := by
    rw [validM, hs, Bool.true_and, decide_eq_true (Int.le_refl 0), decide_eq_true hw, Bool.true_and, Bool.true_and, List.all_eq_true]
    intro i _
    rw [show (addrZ a.six).ip = List.replicate 16 0 from rfl, bit_zero]
    simp
  rw [containsM, hv, Bool.true_and, show ((addrZ a.six).six) = a.six from rfl, beq_self_eq_true, Bool.true_and]
  have hall : ((List.range 128).all fun i => decide ((0 : Int) ≤ (i : Int)) || bitM a.ip i == bitM (addrZ a.six).ip i) = true := by
    rw [List.all_eq_true]
    intro i _
    rw [decide_eq_true (by omega), Bool.true_or]
  rw [hall, Bool.and_true]
set_option maxRecDepth 100000 in
set_option maxHeartbeats 4000000 in
theorem validAddr_any (a : AddrM) (ho : a.ok) (w : World) :
    Calls Tryz.prog 91 #[.agg a.cells.toArray] w fun e w' => e = .returned (.bool (soundM a)) ∧ Below w.heap.size w w' := by
  have hco := contains_any (addrZ a.six) 0 (addrZ_ok _) a ho
  rw [contains_zero] at hco
  have HCO := Lib.hid hco
  clear hco
  obtain ⟨ca, hca⟩ : ∃ z, a.cells.toArray = z := ⟨_, rfl⟩
  have HUA := Lib.hid (show (Tryz.prog.info? 53).map (·.size) = some a.cells.length from by rw [AddrM.cells_length ho]; kernel_rfl)
  rw [hca] at HCO ⊢
  have HM := Lib.hid (show Mem w [blkE w.heap.size 53 a.cells] (w.alloc (.cells ca 53)) from (Mem.nil w).alloc rfl 53 ca a.cells hca.symm)
  have HCA := Lib.hid hca
  have HZ := Lib.hid (show (prefC (addrZ a.six) 0).toArray = #[.bool a.six, .int .u8 0, .int .u8 0, .int .u8 0, .int .u8 0, .int .u8 0, .int .u8 0, .int .u8 0, .int .u8 0, .int .u8 0, .int .u8 0, .int .u8 0, .int .u8 0, .int .u8 0, .int .u8 0, .int .u8 0, .int .u8 0, .int .i64 0] from rfl)
  rw [HZ.out] at HCO
  clear hca ho HZ
  go_enter Tryz.func91, Tryz.ntmps91
  go_upto_region 1 with fail
  generalize w.alloc (.cells ca 53) = w1 at HM ⊢
  have fsix : w1.cell? ⟨w.heap.size, 0, none⟩ = some (.bool a.six) := (HM.out.blk 0 rfl).cell 0
  go_wp2_with (refine wpList_load_obj rfl 53 (.tmp 1) rfl w.heap.size 0 rfl a.cells (HM.out.blk 0 rfl).all _ Tryz.underlying53 rfl HUA.out ?_)
  rw [HCA.out]
  refine (HCO.out _).mono ?_
  rintro e w2 ⟨rfl, hb⟩
  replace HM := Lib.hid (HM.out.below hb)
  clear hb HCO
  go_wp2
  go_ret
  exact ⟨rfl, HM.out.bel⟩
theorem addr_ip_at {w : World} {g : Nat} {t : TypeId} {a : AddrM} (h : Blk w g t a.cells) : At w g 1 (a.ip.map u8v) := h.sub 1 (a.cells.length - 1) |> fun h2 => by
  have e : (a.cells.drop 1).take (a.cells.length - 1) = a.ip.map u8v := by
    rw [AddrM.cells, List.drop_one, List.tail_cons, List.length_cons, List.take_of_length_le (by omega)]
  rwa [e] at h2
set_option maxRecDepth 100000 in
set_option maxHeartbeats 4000000 in
theorem fmtAddr_any (a : AddrM) (ho : a.ok) (w : World) (hlv : LvCf w) :
    Calls Tryz.prog 69 #[.agg a.cells.toArray] w fun e w' => e = .returned (.string ⟨(addrT a).toArray⟩) ∧ Below w.heap.size w w' := by
  have HVA := Lib.hid (validAddr_any a ho)
  have HFC := Lib.hid (fun W h => formatFour_any a.ip ho W h)
  have HSC := Lib.hid (fun W h => formatSix_any a.ip ho W h)
  have HLV := Lib.hid hlv
  obtain ⟨ca, hca⟩ : ∃ z, a.cells.toArray = z := ⟨_, rfl⟩
  obtain ⟨ci, hci⟩ : ∃ z, (a.ip.map u8v).toArray = z := ⟨_, rfl⟩
  have HUA := Lib.hid (show (Tryz.prog.info? 53).map (·.size) = some a.cells.length from by rw [AddrM.cells_length ho]; kernel_rfl)
  have HUI := Lib.hid (show (Tryz.prog.info? 51).map (·.size) = some (a.ip.map u8v).length from by rw [List.length_map, ho]; kernel_rfl)
  rw [hca] at HVA ⊢
  rw [hci] at HFC HSC
  have HM := Lib.hid (show Mem w [blkE w.heap.size 53 a.cells] (w.alloc (.cells ca 53)) from (Mem.nil w).alloc rfl 53 ca a.cells hca.symm)
  have HCA := Lib.hid hca
  have HCI := Lib.hid hci
  have HV := Lib.hid (show addrT a = if soundM a = false then [] else if a.six then joinT 58 ((List.range 8).map fun i => hexT (256 * (a.ip.getD (2 * i) 0).toNat + (a.ip.getD (2 * i + 1) 0).toNat)) else joinT 46 ((List.range 4).map fun i => decT (a.ip.getD i 0).toNat) from rfl)
  clear hca hci ho hlv
  generalize joinT 58 ((List.range 8).map fun i => hexT (256 * (a.ip.getD (2 * i) 0).toNat + (a.ip.getD (2 * i + 1) 0).toNat)) = t6 at HSC HV
  generalize joinT 46 ((List.range 4).map fun i => decT (a.ip.getD i 0).toNat) = t4 at HFC HV
  generalize soundM a = sd at HVA HV
  go_enter Tryz.func69, Tryz.ntmps69
  go_upto_region 1 with fail
  generalize w.alloc (.cells ca 53) = w1 at HM ⊢
  go_wp2_with (refine wpList_load_obj rfl 53 (.tmp 1) rfl w.heap.size 0 rfl a.cells (HM.out.blk 0 rfl).all _ Tryz.underlying53 rfl HUA.out ?_)
  rw [HCA.out]
  refine (HVA.out _).mono ?_
  rintro e w2 ⟨rfl, hb⟩
  replace HM := Lib.hid (show Mem w [blkE w.heap.size 53 a.cells] w2 from HM.out.below hb)
  clear hb HVA
  cases sd
  · go_wp2
    go_ret
    exact ⟨ret_string (by rw [HV.out]; simp), HM.out.bel⟩
  replace HV := Lib.hid (HV.out.trans (if_neg (by decide)))
  have fsix : w2.cell? ⟨w.heap.size, 0, none⟩ = some (.bool a.six) := (HM.out.blk 0 rfl).cell 0
  have HL2 := Lib.hid (HLV.out.below HM.out.bel)
  cases h6 : a.six
  · rw [h6] at fsix
    replace HV := Lib.hid (HV.out.trans (if_neg (by rw [h6]; decide)))
    clear h6
    go_wp2_with (refine wpList_load_obj rfl 51 (.tmp 13) rfl w.heap.size 1 rfl (a.ip.map u8v) (addr_ip_at (HM.out.blk 0 rfl)) _ Tryz.underlying51 rfl HUI.out ?_)
    rw [HCI.out]
    refine (HFC.out _ HL2.out).mono ?_
    rintro e w3 ⟨rfl, hb⟩
    replace HM := Lib.hid (HM.out.below hb)
    clear hb
    go_wp2
    go_ret
    exact ⟨ret_string (by rw [HV.out]; try simp), HM.out.bel⟩
  · rw [h6] at fsix
    replace HV := Lib.hid (HV.out.trans (if_pos h6))
    clear h6
    go_wp2_with (refine wpList_load_obj rfl 51 (.tmp 10) rfl w.heap.size 1 rfl (a.ip.map u8v) (addr_ip_at (HM.out.blk 0 rfl)) _ Tryz.underlying51 rfl HUI.out ?_)
    rw [HCI.out]
    refine (HSC.out _ HL2.out).mono ?_
    rintro e w3 ⟨rfl, hb⟩
    replace HM := Lib.hid (HM.out.below hb)
    clear hb
    go_wp2
    go_ret
    exact ⟨ret_string (by rw [HV.out]; try simp), HM.out.bel⟩
end Go.Proofs.YtcbfchkhbngpkaaGreatDoor
namespace Go.Proofs.YtcbfchkhbngpkaaGreatDoor
open Go.RowKit

theorem pref_at {w : World} {g : Nat} {t : TypeId} {a : AddrM} {bits : Int} (h : Blk w g t (prefC a bits)) (ho : a.ok) : At w g 0 a.cells := by
  have h2 := h.sub 0 17
  rwa [prefC_addr a ho bits] at h2
end Go.Proofs.YtcbfchkhbngpkaaGreatDoor
namespace Go.Proofs.YtcbfchkhbngpkaaGreatDoor
open Go.RowKit

theorem itoa_nat (q : Nat) (h : q ≤ 9223372036854775807) (w : World) (hlv : LvCf w) :
    Calls Tryz.prog 24 #[.int .i64 (q : Int)] w fun e w' => e = .returned (.string ⟨(decT q).toArray⟩) ∧ Below w.heap.size w w' := by
  have h2 := itoa_c (q : Int) (by omega) (by omega) w hlv
  rwa [Int.toNat_natCast] at h2
set_option maxRecDepth 100000 in
set_option maxHeartbeats 4000000 in
theorem fmtEnd_any (a : AddrM) (ho : a.ok) (port : Int) (hp1 : -9223372036854775808 ≤ port) (hp2 : port ≤ 9223372036854775807) (w : World) (hlv : LvCf w) :
    Calls Tryz.prog 49 #[.agg (prefC a port).toArray] w fun e w' => e = .returned (.string ⟨(endT a port).toArray⟩) ∧ Below w.heap.size w w' := by
  have HO := Lib.hid ho
  have HFA := Lib.hid (fmtAddr_any a ho)
  have HLV := Lib.hid hlv
  clear hlv
  obtain ⟨ca, hca⟩ : ∃ z, a.cells.toArray = z := ⟨_, rfl⟩
  obtain ⟨ce, hce⟩ : ∃ z, (prefC a port).toArray = z := ⟨_, rfl⟩
  have HUA := Lib.hid (show (Tryz.prog.info? 53).map (·.size) = some a.cells.length from by rw [AddrM.cells_length ho]; kernel_rfl)
  rw [hca] at HFA
  rw [hce]
  have HM := Lib.hid (show Mem w [blkE w.heap.size 55 (prefC a port)] (w.alloc (.cells ce 55)) from (Mem.nil w).alloc rfl 55 ce (prefC a port) hce.symm)
  have HCA := Lib.hid hca
  clear hca hce
  have htl := addrT_len a
  obtain ⟨t, ht⟩ : ∃ z, addrT a = z := ⟨_, rfl⟩
  rw [ht] at HFA htl
  have HT := Lib.hid ht
  go_enter Tryz.func49, Tryz.ntmps49
  go_upto_region 1 with fail
  generalize w.alloc (.cells ce 55) = w1 at HM ⊢
  go_wp2_with (refine wpList_load_obj rfl 53 (.tmp 4) rfl w.heap.size 0 rfl a.cells (pref_at (HM.out.blk 0 rfl) HO.out) _ Tryz.underlying53 rfl HUA.out ?_)
  rw [HCA.out]
  refine (HFA.out _ (HLV.out.below HM.out.bel)).mono ?_
  rintro e w2 ⟨rfl, hb⟩
  replace HM := Lib.hid (show Mem w [blkE w.heap.size 55 (prefC a port)] w2 from HM.out.below hb)
  clear hb HFA ht ho
  have fx : w2.cell? ⟨w.heap.size, 17, none⟩ = some (.int .i64 port) := by
    have h := (HM.out.blk 0 rfl).cell 17
    rwa [prefC_bits a HO.out port] at h
  have fsix : w2.cell? ⟨w.heap.size, 0, none⟩ = some (.bool a.six) := (HM.out.blk 0 rfl).cell 0
  by_cases hn : t = []
  · have hv : endT a port = [] := by rw [endT, if_pos (.inl (by rw [HT.out, hn]))]
    have HVV := Lib.hid hv
    subst hn
    clear hv
    go_wp2
    go_ret
    exact ⟨ret_string (by rw [HVV.out]), HM.out.bel⟩
  have he : t.isEmpty = false := by cases t with | nil => exact absurd rfl hn | cons _ _ => rfl
  have hvp := validPort_any port
  by_cases h3 : 1 ≤ port ∧ port ≤ 65535
  rotate_left
  · have hv : endT a port = [] := by rw [endT, if_pos]; by_cases h1 : port < 1; exact .inr (.inl h1); exact .inr (.inr (by omega))
    have HVV := Lib.hid hv
    rw [decide_eq_false h3] at hvp
    have HVP := Lib.hid hvp
    clear hv hvp
    go_wp2_with fail
    refine (HVP.out _).mono ?_
    rintro e w3 ⟨rfl, rfl⟩
    go_wp2
    go_ret
    exact ⟨ret_string (by rw [HVV.out]), HM.out.bel⟩
  rw [decide_eq_true h3] at hvp
  have HVP := Lib.hid hvp
  obtain ⟨h1', h2'⟩ := h3
  have h1 : ¬ port < 1 := by omega
  have h2 : ¬ 65535 < port := by omega
  clear hvp
  obtain ⟨q, rfl⟩ : ∃ q : Nat, port = (q : Int) := ⟨port.toNat, by omega⟩
  have hv : endT a (q : Int) = (if a.six then 91 :: (t ++ [93]) else t) ++ 58 :: decT q := by rw [endT, if_neg (by rw [HT.out]; rintro (h | h | h); exact hn h; exact h1 h; exact h2 h), HT.out, Int.toNat_natCast]
  have HDC := Lib.hid (fun W h => itoa_nat q (by omega) W h)
  have hdl := decT_len q 5 (by omega) (by omega)
  generalize decT q = d at hv HDC hdl
  have HV := Lib.hid hv
  clear hv hn
  cases h6 : a.six
  · rw [h6] at fsix
    have HA1 := Lib.hid (fun W => add_text t [58] (by first | omega | (simp; omega)) (by simp) W)
    have ha1 := HA1.out
    have HA2 := Lib.hid (fun W => add_text (t ++ [58]) d (by simp; omega) (by omega) W)
    have ha2 := HA2.out
    replace HV := Lib.hid (show endT a (q : Int) = t ++ 58 :: d from by rw [HV.out, h6]; rfl)
    clear h6
    go_wp2_with fail
    refine (HVP.out _).mono ?_
    rintro e w3 ⟨rfl, rfl⟩
    go_wp2_with fail
    refine (HDC.out _ (HLV.out.below HM.out.bel)).mono ?_
    rintro e w4 ⟨rfl, hb⟩
    replace HM := Lib.hid (show Mem w [blkE w.heap.size 55 (prefC a (q : Int))] w4 from HM.out.below hb)
    clear hb fx
    go_wp2
    go_ret
    exact ⟨ret_string (by rw [HV.out]; try simp), HM.out.bel⟩
  · rw [h6] at fsix
    have HB1 := Lib.hid (fun W => add_text [91] t (by simp) (by omega) W)
    have HB2 := Lib.hid (fun W => add_text (91 :: t) [93] (by simp; omega) (by simp) W)
    have hb1 := HB1.out
    have hb2 := HB2.out
    have HA1 := Lib.hid (fun W => add_text (91 :: (t ++ [93])) [58] (by first | omega | (simp; omega)) (by simp) W)
    have ha1 := HA1.out
    have HA2 := Lib.hid (fun W => add_text ((91 :: (t ++ [93])) ++ [58]) d (by simp; omega) (by omega) W)
    have ha2 := HA2.out
    replace HV := Lib.hid (show endT a (q : Int) = (91 :: (t ++ [93])) ++ 58 :: d from by rw [HV.out, h6]; rfl)
    clear h6
    go_wp2_with fail
    refine (HVP.out _).mono ?_
    rintro e w3 ⟨rfl, rfl⟩
    go_wp2_with fail
    refine (HDC.out _ (HLV.out.below HM.out.bel)).mono ?_
    rintro e w4 ⟨rfl, hb⟩
    replace HM := Lib.hid (show Mem w [blkE w.heap.size 55 (prefC a (q : Int))] w4 from HM.out.below hb)
    clear hb fx
    go_wp2
    go_ret
    exact ⟨ret_string (by rw [HV.out]; try simp), HM.out.bel⟩
set_option maxRecDepth 100000 in
set_option maxHeartbeats 4000000 in
theorem fmtPref_any (a : AddrM) (ho : a.ok) (bits : Int) (h1 : -9223372036854775808 ≤ bits) (h2 : bits ≤ 9223372036854775807) (w : World) (hlv : LvCf w) :
    Calls Tryz.prog 40 #[.agg (prefC a bits).toArray] w fun e w' => e = .returned (.string ⟨(prefT a bits).toArray⟩) ∧ Below w.heap.size w w' := by
  have HO := Lib.hid ho
  have HFA := Lib.hid (fmtAddr_any a ho)
  have HLV := Lib.hid hlv
  clear hlv
  have HVA := Lib.hid (valid_any a bits ho)
  obtain ⟨ca, hca⟩ : ∃ z, a.cells.toArray = z := ⟨_, rfl⟩
  obtain ⟨ce, hce⟩ : ∃ z, (prefC a bits).toArray = z := ⟨_, rfl⟩
  have HUA := Lib.hid (show (Tryz.prog.info? 53).map (·.size) = some a.cells.length from by rw [AddrM.cells_length ho]; kernel_rfl)
  have HUP := Lib.hid (pref_cellsOf a ho bits)
  rw [hca] at HFA
  rw [hce] at HVA ⊢
  have HM := Lib.hid (show Mem w [blkE w.heap.size 60 (prefC a bits)] (w.alloc (.cells ce 60)) from (Mem.nil w).alloc rfl 60 ce (prefC a bits) hce.symm)
  have HCA := Lib.hid hca
  have HCE := Lib.hid hce
  clear hca hce ho
  have htl := addrT_len a
  have hvb := validM_bits a bits
  have HV := Lib.hid (show prefT a bits = if validM a bits = false then [] else addrT a ++ 47 :: decT bits.toNat from rfl)
  generalize addrT a = t at HFA htl HV
  generalize validM a bits = vb at HVA HV hvb
  go_enter Tryz.func40, Tryz.ntmps40
  go_upto_region 1 with fail
  generalize w.alloc (.cells ce 60) = w1 at HM ⊢
  go_wp2_with (refine wpList_load_obj rfl 60 (.tmp 1) rfl w.heap.size 0 rfl (prefC a bits) (HM.out.blk 0 rfl).all _ Tryz.underlying60 rfl HUP.out ?_)
  rw [HCE.out]
  refine (HVA.out _).mono ?_
  rintro e w2 ⟨rfl, hb⟩
  replace HM := Lib.hid (show Mem w [blkE w.heap.size 60 (prefC a bits)] w2 from HM.out.below hb)
  clear hb HVA
  cases vb
  · go_wp2
    go_ret
    exact ⟨ret_string (by rw [HV.out]; try simp), HM.out.bel⟩
  have hbb := hvb rfl
  obtain ⟨q, rfl⟩ : ∃ q : Nat, bits = (q : Int) := ⟨bits.toNat, by omega⟩
  replace HV := Lib.hid (show prefT a (q : Int) = t ++ 47 :: decT q from by rw [HV.out, if_neg (by decide), Int.toNat_natCast])
  have HDC := Lib.hid (fun W h => itoa_nat q (by omega) W h)
  have hdl := decT_len q 3 (by omega) (by omega)
  generalize decT q = d at HV HDC hdl
  have HA1 := Lib.hid (fun W => add_text t [47] (by omega) (by simp) W)
  have HA2 := Lib.hid (fun W => add_text (t ++ [47]) d (by simp; omega) (by omega) W)
  clear hvb
  go_upto_region 3 with fail
  refine wp_region_held_drew (S := fun W' => Mem w [blkE w.heap.size 60 (prefC a (q : Int))] W') (by kernel_rfl) ((HM.out).drew) (fun hHeld => ?_)
  replace HM := Lib.hid HM.out.drew
  generalize w2.drew = wd1 at HM hHeld ⊢
  refine take_first (v := ?_) 0 rfl (by kernel_rfl) (by kernel_rfl) (by kernel_rfl) (fun _ _ _ h => h) (Or.inl ⟨by rfl, ?_⟩) (by assumption) ?_
  rotate_left
  · (intro w hSw; (try dsimp only at hSw); go_simp; try with_reducible rfl)
  (try simp only [Act.put, List.setIfInBounds_toArray, List.set_cons_zero, List.set_cons_succ])
  refine take_first (v := .agg ca) 1 rfl (by kernel_rfl) (by kernel_rfl) (by kernel_rfl) (fun _ _ _ h => h) (by rw [← HCA.out]; exact yields_load_obj (by rfl) 53 (.tmp 6) rfl w.heap.size 0 rfl a.cells (fun w' hb => pref_at (Mem.blk hb 0 rfl) HO.out) _ Tryz.underlying53 rfl HUA.out) (by assumption) ?_
  (try simp only [Act.put, List.setIfInBounds_toArray, List.set_cons_zero, List.set_cons_succ])
  refine take_first (v := ?_) 4 rfl (by kernel_rfl) (by kernel_rfl) (by kernel_rfl) (fun _ _ _ h => h) (Or.inl ⟨by rfl, ?_⟩) (by assumption) ?_
  rotate_left
  · (intro w hSw; (try dsimp only at hSw); go_simp; try with_reducible rfl)
  (try simp only [Act.put, List.setIfInBounds_toArray, List.set_cons_zero, List.set_cons_succ])
  refine take_first (v := ?_) 5 rfl (by kernel_rfl) (by kernel_rfl) (by kernel_rfl) (fun _ _ _ h => h) (Or.inl ⟨by rfl, ?_⟩) (by assumption) ?_
  rotate_left
  · (intro w hSw; (try dsimp only at hSw); have hc := (Mem.blk hSw 0 rfl).cell 17; rw [prefC_bits a HO.out _] at hc; go_simp; try with_reducible rfl)
  (try simp only [Act.put, List.setIfInBounds_toArray, List.set_cons_zero, List.set_cons_succ])
  refine step_one 2 rfl (by kernel_rfl) (fun K hK => ?_)
  clear hHeld
  go_simp
  refine (HFA.out _ (HLV.out.below HM.out.bel)).mono ?_
  rintro e wy2 ⟨rfl, hb⟩
  replace HM := Lib.hid (show Mem w [blkE w.heap.size 60 (prefC a (q : Int))] wy2 from HM.out.below hb)
  clear hb
  go_wp2_with fail
  refine hK.out _ _ (HM.out) (fun hHeld => ?_)
  clear hK K
  (try simp only [Act.put, List.setIfInBounds_toArray, List.set_cons_zero, List.set_cons_succ])
  refine take_first (v := ?_) 3 rfl (by kernel_rfl) (by kernel_rfl) (by kernel_rfl) (fun _ _ _ h => h) (Or.inl ⟨by rfl, ?_⟩) (by assumption) ?_
  rotate_left
  · (intro w hSw; (try dsimp only at hSw); have ha := HA1.out w; go_simp; try with_reducible rfl)
  (try simp only [Act.put, List.setIfInBounds_toArray, List.set_cons_zero, List.set_cons_succ])
  refine step_one 6 rfl (by kernel_rfl) (fun K hK => ?_)
  clear hHeld
  go_simp
  refine (HDC.out _ (HLV.out.below HM.out.bel)).mono ?_
  rintro e wy3 ⟨rfl, hb⟩
  replace HM := Lib.hid (show Mem w [blkE w.heap.size 60 (prefC a (q : Int))] wy3 from HM.out.below hb)
  clear hb
  go_wp2_with fail
  refine hK.out _ _ (HM.out) (fun hHeld => ?_)
  clear hK K
  (try simp only [Act.put, List.setIfInBounds_toArray, List.set_cons_zero, List.set_cons_succ])
  refine take_first (v := ?_) 7 rfl (by kernel_rfl) (by kernel_rfl) (by kernel_rfl) (fun _ _ _ h => h) (Or.inl ⟨by rfl, ?_⟩) (by assumption) ?_
  rotate_left
  · (intro w hSw; (try dsimp only at hSw); have ha := HA2.out w; go_simp; try with_reducible rfl)
  (try simp only [Act.put, List.setIfInBounds_toArray, List.set_cons_zero, List.set_cons_succ])
  refine take_first (v := ?_) 8 rfl (by kernel_rfl) (by kernel_rfl) (by kernel_rfl) (fun _ _ _ h => h) (Or.inl ⟨by rfl, ?_⟩) (by assumption) ?_
  rotate_left
  · (intro w hSw; (try dsimp only at hSw); go_simp; try with_reducible rfl)
  (try simp only [Act.put, List.setIfInBounds_toArray, List.set_cons_zero, List.set_cons_succ])
  refine wpAnyH_done (by kernel_rfl) ?_ _
  clear hHeld
  go_wp2
  go_ret
  exact ⟨ret_string (by rw [HV.out]; try simp), HM.out.bel⟩
end Go.Proofs.YtcbfchkhbngpkaaGreatDoor
namespace Go.Proofs.YtcbfchkhbngpkaaGreatDoor
open Go.RowKit

def HexN (l : List UInt8) (w : World) (e : Ending) (w' : World) : Prop :=
  (hxsOk l = true ∧ (∃ A c, e = .returned (.tuple #[.slice A 2 c, .int .i64 0]) ∧ Rd w' w'.heap.size A 2 [UInt8.ofNat (hexN l / 256), UInt8.ofNat (hexN l % 256)]) ∧ Below w.heap.size w w') ∨
  (hxsOk l = false ∧ e = .returned (.tuple #[.slice none 0 0, .int .i64 5]) ∧ Below w.heap.size w w')
set_option maxRecDepth 100000 in
set_option maxHeartbeats 4000000 in
theorem hexNumber_any (l : List UInt8) (hl : l.length ≤ 1000000) (w : World) :
    Calls Tryz.prog 115 #[.string ⟨l.toArray⟩] w (HexN l w) := by
  obtain ⟨S, hS⟩ : ∃ S : ByteArray, ⟨l.toArray⟩ = S := ⟨_, rfl⟩
  have hsz : S.size = l.length := by rw [← hS]; exact text_size l
  have hS6 : S.size ≤ 1000000 := by omega
  by_cases h0 : l = []
  · subst h0
    have hv : hxsOk ([] : List UInt8) = false := rfl
    have HV := Lib.hid hv
    subst hS
    clear hv hsz hS6 hl
    go_enter Tryz.func115, Tryz.ntmps115
    go_wp2
    go_ret2
    exact .inr ⟨HV.out, rfl, Below.refl _ _⟩
  have hn0 : l.length ≠ 0 := fun h => h0 (List.eq_nil_of_length_eq_zero h)
  have hne : S.toList.isEmpty = false := by rw [← hS]; cases l with | nil => exact absurd rfl h0 | cons _ _ => simp
  by_cases h4 : 4 < S.size
  · have hv : hxsOk l = false := by rw [hxsOk, decide_eq_false (by omega)]; rfl
    have HV := Lib.hid hv
    rw [hS]
    clear hv h0 hS
    go_enter Tryz.func115, Tryz.ntmps115
    go_wp2
    go_ret2
    exact .inr ⟨HV.out, rfl, Below.refl _ _⟩
  obtain ⟨k, hk⟩ : ∃ k, 4 - l.length = k := ⟨_, rfl⟩
  have hRC := repeat_c k (by omega)
  have hPX : parseH (List.replicate k 48 ++ l) = _ := hk ▸ hex_prog l (by omega) (by omega)
  have hrl : (List.replicate k (48 : UInt8)).length = k := List.length_replicate
  generalize List.replicate k (48 : UInt8) = rep at hRC hPX hrl
  have HPC := Lib.hid (fun W => parseHex_any ⟨(rep ++ l).toArray⟩ (rep ++ l) rfl (by rw [List.length_append, hrl]; omega) W)
  have HA := Lib.hid (fun W => add_text rep l (by omega) (by omega) W)
  have HRC := Lib.hid hRC
  have HPX := Lib.hid hPX
  have hw : IntKind.i64.wrap (4 - (l.length : Int)) = (k : Int) := by rw [IntWalk.i64_in _ (by omega)]; omega
  obtain ⟨cat, hcat⟩ : ∃ z : ByteArray, ⟨(rep ++ l).toArray⟩ = z := ⟨_, rfl⟩
  rw [hcat] at HPC HA
  rw [hS] at HA ⊢
  clear h0 hk hRC hPX hrl hcat hS
  go_enter Tryz.func115, Tryz.ntmps115
  go_wp2_with fail
  refine (HRC.out _).mono ?_
  rintro e w2 ⟨rfl, hb⟩
  have HB := Lib.hid hb
  have ha := HA.out
  clear hb HRC
  go_wp2_with fail
  refine (HPC.out _).mono ?_
  rintro e w3 (⟨r, A, c, h1, rfl, h3, hb⟩ | ⟨h1, rfl, hb⟩)
  · replace HB := Lib.hid (HB.out.trans (hb.mono HB.out.size))
    have h1x := HPX.out
    rw [h1] at h1x
    have HH := Lib.hid h1x
    have H3 := Lib.hid h3
    clear h1 h3 hb h1x HPC ha
    go_wp2
    go_ret2
    cases hx : hxsOk l
    · rw [hx] at HH
      cases HH.out
    · rw [hx, if_pos rfl] at HH
      obtain rfl := Option.some.inj HH.out
      exact .inl ⟨hx, ⟨A, c, rfl, H3.out⟩, HB.out⟩
  · replace HB := Lib.hid (HB.out.trans (hb.mono HB.out.size))
    have h1x := HPX.out
    rw [h1] at h1x
    have HH := Lib.hid h1x
    clear h1 hb h1x HPC ha
    go_wp2
    go_ret2
    cases hx : hxsOk l
    · exact .inr ⟨hx, rfl, HB.out⟩
    · rw [hx, if_pos rfl] at HH
      cases HH.out
end Go.Proofs.YtcbfchkhbngpkaaGreatDoor
