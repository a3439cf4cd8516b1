/-
  The contract of blake.blockOf: the words of at most 64 bytes, with zero bytes behind them. The contracts of the reference's initial words and permutations. No statement is proved here.
-/
import Derived.Deep.DeepCutAuto
import Derived.Test.YtlddafkikkaonaaDoorMacsCookiesB3
namespace Go.Proofs.YtlddafkikkaonaaDoor
open Go.RowKit

theorem cellsBk (l : List UInt32) (h : l.length = 16) : (Tryd.prog.info? 121).map (·.size) = some (l.map u32v).length := by
  rw [List.length_map, h]; kernel_rfl
theorem bpFill16 (b : List UInt8) : fillW (List.replicate 16 (0 : UInt32)) 0 (wordL b) 16 = wordsL b := by
  simp [fillW, wordsL, List.range_succ]
/-- at most 64 bytes, filled with zero bytes -/
def to64 (l : List UInt8) : List UInt8 := l ++ List.replicate (64 - l.length) 0
theorem to64_length (l : List UInt8) (h : l.length ≤ 64) : (to64 l).length = 64 := by
  rw [to64, List.length_append, List.length_replicate]; omega
theorem putL_zeros (l : List UInt8) (_h : l.length ≤ 64) : putL (List.replicate 64 (0 : UInt8)) 0 l = to64 l := by
  rw [putL, to64, List.take_zero, List.nil_append, List.drop_replicate, Nat.zero_add]

set_option maxRecDepth 100000 in
set_option maxHeartbeats 8000000 in
theorem bpBlock_any (A : Option Addr) (n cap : Nat) (l : List UInt8) (hn : n ≤ 64) (w : World) (hr : Rd w w.heap.size A n l) :
    Calls Tryd.prog 84 #[.slice A n cap] w fun e w' => e = .returned (.agg ((wordsL (to64 l)).map u32v).toArray) ∧ Below w.heap.size w w' := by
  have HM := Lib.hid (show Mem w [blkE (w.heap.size + 1) 123 ((List.replicate 64 (0 : UInt8)).map u8v), blkE w.heap.size 121 (zw 16)] ((w.alloc (.cells #[.int .u32 0, .int .u32 0, .int .u32 0, .int .u32 0, .int .u32 0, .int .u32 0, .int .u32 0, .int .u32 0, .int .u32 0, .int .u32 0, .int .u32 0, .int .u32 0, .int .u32 0, .int .u32 0, .int .u32 0, .int .u32 0] 121)).alloc (.cells #[.int .u8 0, .int .u8 0, .int .u8 0, .int .u8 0, .int .u8 0, .int .u8 0, .int .u8 0, .int .u8 0, .int .u8 0, .int .u8 0, .int .u8 0, .int .u8 0, .int .u8 0, .int .u8 0, .int .u8 0, .int .u8 0, .int .u8 0, .int .u8 0, .int .u8 0, .int .u8 0, .int .u8 0, .int .u8 0, .int .u8 0, .int .u8 0, .int .u8 0, .int .u8 0, .int .u8 0, .int .u8 0, .int .u8 0, .int .u8 0, .int .u8 0, .int .u8 0, .int .u8 0, .int .u8 0, .int .u8 0, .int .u8 0, .int .u8 0, .int .u8 0, .int .u8 0, .int .u8 0, .int .u8 0, .int .u8 0, .int .u8 0, .int .u8 0, .int .u8 0, .int .u8 0, .int .u8 0, .int .u8 0, .int .u8 0, .int .u8 0, .int .u8 0, .int .u8 0, .int .u8 0, .int .u8 0, .int .u8 0, .int .u8 0, .int .u8 0, .int .u8 0, .int .u8 0, .int .u8 0, .int .u8 0, .int .u8 0, .int .u8 0, .int .u8 0] 123)) from ((Mem.nil w).alloc rfl 121 #[.int .u32 0, .int .u32 0, .int .u32 0, .int .u32 0, .int .u32 0, .int .u32 0, .int .u32 0, .int .u32 0, .int .u32 0, .int .u32 0, .int .u32 0, .int .u32 0, .int .u32 0, .int .u32 0, .int .u32 0, .int .u32 0] (zw 16) rfl).alloc (by simp) 123 #[.int .u8 0, .int .u8 0, .int .u8 0, .int .u8 0, .int .u8 0, .int .u8 0, .int .u8 0, .int .u8 0, .int .u8 0, .int .u8 0, .int .u8 0, .int .u8 0, .int .u8 0, .int .u8 0, .int .u8 0, .int .u8 0, .int .u8 0, .int .u8 0, .int .u8 0, .int .u8 0, .int .u8 0, .int .u8 0, .int .u8 0, .int .u8 0, .int .u8 0, .int .u8 0, .int .u8 0, .int .u8 0, .int .u8 0, .int .u8 0, .int .u8 0, .int .u8 0, .int .u8 0, .int .u8 0, .int .u8 0, .int .u8 0, .int .u8 0, .int .u8 0, .int .u8 0, .int .u8 0, .int .u8 0, .int .u8 0, .int .u8 0, .int .u8 0, .int .u8 0, .int .u8 0, .int .u8 0, .int .u8 0, .int .u8 0, .int .u8 0, .int .u8 0, .int .u8 0, .int .u8 0, .int .u8 0, .int .u8 0, .int .u8 0, .int .u8 0, .int .u8 0, .int .u8 0, .int .u8 0, .int .u8 0, .int .u8 0, .int .u8 0, .int .u8 0] ((List.replicate 64 (0 : UInt8)).map u8v) rfl)
  have HL := Lib.hid (show l.length ≤ 64 by rw [hr.1]; exact hn)
  have HR := Lib.hid hr
  have HL64 := Lib.hid (to64_length l HL.out)
  obtain ⟨b, hb⟩ : ∃ b, to64 l = b := ⟨_, rfl⟩
  rw [hb] at HL64 ⊢
  have HBE := Lib.hid hb
  obtain ⟨wz, hwz⟩ : ∃ x, wordsL b = x := ⟨_, rfl⟩
  rw [hwz]
  have HWZ := Lib.hid hwz
  have HZL := Lib.hid (show wz.length = 16 by rw [← hwz]; exact wordsL_length b)
  clear hr hb hwz
  go_enter Tryd.func84, Tryd.ntmps84
  go_upto_region 2 with fail
  generalize ((w.alloc (.cells #[.int .u32 0, .int .u32 0, .int .u32 0, .int .u32 0, .int .u32 0, .int .u32 0, .int .u32 0, .int .u32 0, .int .u32 0, .int .u32 0, .int .u32 0, .int .u32 0, .int .u32 0, .int .u32 0, .int .u32 0, .int .u32 0] 121)).alloc (.cells #[.int .u8 0, .int .u8 0, .int .u8 0, .int .u8 0, .int .u8 0, .int .u8 0, .int .u8 0, .int .u8 0, .int .u8 0, .int .u8 0, .int .u8 0, .int .u8 0, .int .u8 0, .int .u8 0, .int .u8 0, .int .u8 0, .int .u8 0, .int .u8 0, .int .u8 0, .int .u8 0, .int .u8 0, .int .u8 0, .int .u8 0, .int .u8 0, .int .u8 0, .int .u8 0, .int .u8 0, .int .u8 0, .int .u8 0, .int .u8 0, .int .u8 0, .int .u8 0, .int .u8 0, .int .u8 0, .int .u8 0, .int .u8 0, .int .u8 0, .int .u8 0, .int .u8 0, .int .u8 0, .int .u8 0, .int .u8 0, .int .u8 0, .int .u8 0, .int .u8 0, .int .u8 0, .int .u8 0, .int .u8 0, .int .u8 0, .int .u8 0, .int .u8 0, .int .u8 0, .int .u8 0, .int .u8 0, .int .u8 0, .int .u8 0, .int .u8 0, .int .u8 0, .int .u8 0, .int .u8 0, .int .u8 0, .int .u8 0, .int .u8 0, .int .u8 0] 123)) = w1 at HM ⊢
  go_upto_region 3 with (refine wpList_copy_rd _ rfl (.tmp 6) (.tmp 7) 24 24 rfl 5 Tryd.underlying24 (by kernel_rfl) (w.heap.size + 1) 64 64 A n cap rfl rfl (List.replicate 64 (0 : UInt8)) 123 (HM.out.blk 0 rfl) _ l (HM.out.arg HR.out) hn (by simp) ?_; intro w2 hb hg)
  rw [putL_zeros l HL.out, HBE.out] at hb
  replace HM := Lib.hid (show Mem w [blkE (w.heap.size + 1) 123 ((b).map u8v), blkE w.heap.size 121 (zw 16)] w2 from HM.out.put 0 rfl _ hg hb)
  clear hb hg HR HL HBE
  replace HM := Lib.hid (show Mem w [blkE w2.heap.size 121 ((List.replicate 16 (0 : UInt32)).map u32v), blkE (w.heap.size + 1) 123 ((b).map u8v), blkE w.heap.size 121 (zw 16)] (w2.alloc (.cells #[.int .u32 0, .int .u32 0, .int .u32 0, .int .u32 0, .int .u32 0, .int .u32 0, .int .u32 0, .int .u32 0, .int .u32 0, .int .u32 0, .int .u32 0, .int .u32 0, .int .u32 0, .int .u32 0, .int .u32 0, .int .u32 0] 121)) from HM.out.alloc rfl 121 #[.int .u32 0, .int .u32 0, .int .u32 0, .int .u32 0, .int .u32 0, .int .u32 0, .int .u32 0, .int .u32 0, .int .u32 0, .int .u32 0, .int .u32 0, .int .u32 0, .int .u32 0, .int .u32 0, .int .u32 0, .int .u32 0] _ rfl)
  go_upto_region 4 with fail
  generalize w2.alloc (.cells #[.int .u32 0, .int .u32 0, .int .u32 0, .int .u32 0, .int .u32 0, .int .u32 0, .int .u32 0, .int .u32 0, .int .u32 0, .int .u32 0, .int .u32 0, .int .u32 0, .int .u32 0, .int .u32 0, .int .u32 0, .int .u32 0] 121) = w3 at HM ⊢
  generalize w2.heap.size = G at HM ⊢
  go_wp2_with fail
  go_loopw [9] (fun i wr => ∃ j : Nat, j ≤ 16 ∧ i = .int .i64 (j : Int) ∧ Mem w [blkE G 121 ((fillW (List.replicate 16 (0 : UInt32)) 0 (wordL b) j).map u32v), blkE (w.heap.size + 1) 123 ((b).map u8v), blkE w.heap.size 121 (zw 16)] wr) (fun i _ => 16 - (intOf i).toNat)
  case atStart => exact ⟨0, by omega, rfl, HM.out⟩
  case round =>
    clear HM
    obtain ⟨j, hj, rfl, hM⟩ := hrel
    have HM := Lib.hid hM
    clear hM
    by_cases hlt : j < 16
    · have d16 : decide ((j : Int) < 16) = true := by simp; omega
      have rd := ((blk_all (HM.out.blk 1 rfl) HL64.out).drop (4 * j) (w.heap.size + 1) 0 rfl (by omega)).take (m := 4) (by omega)
      rw [Nat.zero_add] at rd
      have RL := Lib.hid (readLittle_any _ _ 4 (64 - 4 * j) _ (by omega) wr rd)
      have hlen : (fillW (List.replicate 16 (0 : UInt32)) 0 (wordL b) j).length = 16 := by rw [fillW_length]; rfl
      have fx := (HM.out.blk 0 rfl).word j (by omega)
      have zx := (HM.out.blk 0 rfl).frozen j
      have WW := Lib.hid (word_wrap b j)
      have HN := Lib.hid (show Mem w [blkE G 121 ((fillW (List.replicate 16 (0 : UInt32)) 0 (wordL b) (j + 1)).map u32v), blkE (w.heap.size + 1) 123 ((b).map u8v), blkE w.heap.size 121 (zw 16)] (wr.setCell ⟨G, j, none⟩ (.int .u32 ((wordL b j).toNat : Int))) from by
        have h := HM.out.setCell 0 rfl j (u32v (wordL b j))
        rw [← List.map_set] at h
        rw [fillW, Nat.zero_add]
        exact h)
      clear rd hlen HM
      have e1 : (j : Int) * 4 = ((4 * j : Nat) : Int) := by omega
      have e2 : ((j : Int) + 1) * 4 = ((4 * j + 4 : Nat) : Int) := by omega
      have b1 : 4 * (j : Int) + 4 ≤ 64 := by omega
      have q5 : (0 : Int) ≤ 4 * (j : Int) := by omega
      have q6 : (4 * (j : Int)).toNat = 4 * j := by omega
      have q7 : (4 * (j : Int) + 4).toNat = 4 * j + 4 := by omega
      have q8 : (4 * (j : Int)) ≤ 4 * (j : Int) + 4 := by omega
      have b2 : ¬ 64 = 4 * j := by omega
      have b3 : ¬ 4 * j = 64 := by omega
      go_wp2_with fail
      try rw [show 4 * j + 4 - 4 * j = 4 by omega]
      refine RL.out.mono ?_
      rintro e w1 ⟨rfl, rfl⟩
      clear RL
      obtain ⟨M, hM⟩ : ∃ M, numL (((b.drop (4 * j)).take 4).take 8) = M := ⟨_, rfl⟩
      have WN := WW.out
      rw [hM] at WN ⊢
      clear hM WW
      go_wp2
      refine ⟨⟨j + 1, by omega, by go_num, HN.out⟩, ?_⟩
      simp [intOf]
      omega
    · obtain rfl : j = 16 := by omega
      rw [bpFill16, HWZ.out] at HM
      obtain ⟨cz, hcz⟩ : ∃ c, (wz.map u32v).toArray = c := ⟨_, rfl⟩
      have HCZ := Lib.hid hcz
      clear hcz
      rw [show ((16 : Nat) : Int) = 16 from rfl]
      go_wp2_with (first | (refine wpList_load_blk rfl 121 (.tmp 4) rfl G rfl 121 (wz.map u32v) (HM.out.blk 0 rfl) 16 31 Tryd.underlying121 (cellsBk wz HZL.out) ?_; rw [HCZ.out]) | (refine wpList_store_blk rfl 121 (.tmp 2) (.tmp 23) rfl w.heap.size (wz.map u32v) rfl (by show Value.agg cz = _; rw [HCZ.out]) 121 (zw 16) (HM.out.blk 2 rfl) (cellsBk wz HZL.out) (by rw [List.length_map, HZL.out]; rfl) (u32v_one _) ?_; intro w9 hb9 hg9))
      exact bodyPost_ret (results_blk rfl _ _ w.heap.size 121 (wz.map u32v) 16 31 rfl hb9 Tryd.underlying121 (cellsBk wz HZL.out)) rfl ⟨rfl, (HM.out.put 2 rfl _ hg9 hb9).bel⟩
end Go.Proofs.YtlddafkikkaonaaDoor
namespace Go.Proofs.YtlddafkikkaonaaDoor
open Go.RowKit

theorem run_index_row {P : Program} (t e e2 : TypeId) (n m : Nat) (ht : P.underlying t = some (.array n e)) (he : P.underlying e = some (.array m e2)) (i : TypeInfo) (hi : P.info? e = some i) (hs : i.size = m) (cs : Array Value) (r : Nat) (hr : r < n) (w : World) :
    (Instr.index t (.agg cs) (.int .i64 (r : Int))).run P w = .ok (.agg (cs.extract (r * m) (r * m + m))) w := by
  have h2 : (0 : Int) ≤ (r : Int) ∧ (r : Int) < (n : Int) := by omega
  simp [Instr.index, asIntOf, run_underlying ht, part, isAgg, run_underlying he, sizeOf, typeInfo, hi, hs, hr]
theorem wpList_index_row {P : Program} {w : World} {ops : Array Oper} {rest : List Oper} {o : Oper} {act : Act} {Q : Exit → Act → World → Prop} (hgd : o.guard = none) (t e e2 : TypeId) (x y : Operand) (ho : o.op = .index t x y)
    (cs : Array Value) (hx : act.eval x = .agg cs) (r : Nat) (hy : act.eval y = .int .i64 (r : Int)) (n m : Nat) (ht : P.underlying t = some (.array n e)) (he : P.underlying e = some (.array m e2)) (i : TypeInfo) (hi : P.info? e = some i) (hs : i.size = m) (hr : r < n)
    (h : wpList P ops Q rest (act.put o.dst (.agg (cs.extract (r * m) (r * m + m)))) w) : wpList P ops Q (o :: rest) act w :=
  wpList_plain hgd fun K hK => by
    unfold Oper.wp execOp
    simp only [ho, hx, hy, run_index_row t e e2 n m ht he i hi hs cs r hr, Sem.run_bind, Result.andThen_ok]
    exact hK _ _ h
end Go.Proofs.YtlddafkikkaonaaDoor
