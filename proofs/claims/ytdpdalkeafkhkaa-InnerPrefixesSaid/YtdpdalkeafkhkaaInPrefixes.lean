/-
  InnerPrefixes returns true for every input, and changes nothing that was there: the walk, over what is asked of inner.Valid, Contains and Less. No statement is proved here.
-/
import Derived.Test.YtdpdalkeafkhkaaInBegun
import Derived.Test.YtdpdalkeafkhkaaInMask
import Derived.Test.YtdpdalkeafkhkaaLow
import Derived.Test.YtdpdalkeafkhkaaBuildRows
namespace Go.Proofs.Ytdpdalkeafkhkaa
open Go.RowKit

theorem prefC_set (a : AddrM) (ha : a.ok) (bits : Int) (q : Nat) (hq : q < 16) (y : UInt8) : (prefC a bits).set (1 + q) (u8v y) = prefC ⟨a.six, a.ip.set q y⟩ bits := by
  rw [prefC, List.set_append_left _ _ (by rw [AddrM.cells_length ha]; omega), AddrM.set_cell]
  rfl
theorem prefC_cell (a : AddrM) (ha : a.ok) (bits : Int) (q : Nat) (hq : q < 16) : (prefC a bits)[1 + q]? = some (.int .u8 ((a.ip.getD q 0).toNat : Int)) := by
  rw [prefC, List.getElem?_append_left (by rw [AddrM.cells_length ha]; omega)]
  exact AddrM.ip_cell a ha q hq
theorem bytesLess_self : ∀ l : List UInt8, Op.bytesLess l l = false
  | [] => rfl
  | x :: l => by
    unfold Op.bytesLess
    simp [bytesLess_self l]
theorem lessM_self (a : AddrM) : lessM a a = false := by
  rw [lessM, if_pos rfl, bytesLess_self]
theorem rows4_eq {r1 r2 r3 r4 : List Value} {c1 c2 c3 c4 : Array Value} (h1 : r1.toArray = c1) (h2 : r2.toArray = c2) (h3 : r3.toArray = c3) (h4 : r4.toArray = c4) : (([r1, r2, r3, r4].zipIdx 0).map fun x => (x.2, Value.agg x.1.toArray)) = [(0, .agg c1), (1, .agg c2), (2, .agg c3), (3, .agg c4)] := by
  subst h1 h2 h3 h4
  rfl
theorem rows5_eq {r1 r2 r3 r4 r5 : List Value} {c1 c2 c3 c4 c5 : Array Value} (h1 : r1.toArray = c1) (h2 : r2.toArray = c2) (h3 : r3.toArray = c3) (h4 : r4.toArray = c4) (h5 : r5.toArray = c5) : (([r1, r2, r3, r4, r5].zipIdx 0).map fun x => (x.2, Value.agg x.1.toArray)) = [(0, .agg c1), (1, .agg c2), (2, .agg c3), (3, .agg c4), (4, .agg c5)] := by
  subst h1 h2 h3 h4 h5
  rfl
theorem flatten_row (n : Nat) : ∀ (rows : List (List Value)) (k : Nat) (h : k < rows.length), (∀ r ∈ rows, r.length = n) → (rows.flatten.drop (k * n)).take n = rows[k]
  | [], k, h, _ => absurd h (by simp)
  | r :: rows, 0, _, hr => by
    have h1 := hr r (by simp)
    rw [Nat.zero_mul, List.drop_zero, List.flatten_cons, List.take_append_of_le_length (by omega), List.take_of_length_le (by omega)]
    rfl
  | r :: rows, k + 1, h, hr => by
    have h1 := hr r (by simp)
    have ih := flatten_row n rows k (by simpa using h) (fun x hx => hr x (List.mem_cons_of_mem _ hx))
    have e : (k + 1) * n = n + k * n := by rw [Nat.succ_mul, Nat.add_comm]
    have e2 : n + k * n - r.length = k * n := by omega
    rw [List.flatten_cons, e, List.drop_append, List.drop_of_length_le (by omega), List.nil_append, e2, ih]
    rfl
theorem prefInfo : ∃ i, Try.prog.info? 42 = some i ∧ i.size = 18 ∧ ∃ z, i.zero = some z := by
  have h : (Try.prog.info? 42).map (fun i => (i.size, i.zero.isSome)) = some (18, true) := by kernel_rfl
  cases hi : Try.prog.info? 42 with
  | none => rw [hi] at h; cases h
  | some i =>
    rw [hi] at h
    simp only [Option.map_some, Option.some.injEq, Prod.mk.injEq] at h
    exact ⟨i, rfl, h.1, Option.isSome_iff_exists.1 h.2⟩
theorem addrInfo : ∃ i, Try.prog.info? 29 = some i ∧ i.size = 17 ∧ ∃ z, i.zero = some z := by
  have h : (Try.prog.info? 29).map (fun i => (i.size, i.zero.isSome)) = some (17, true) := by kernel_rfl
  cases hi : Try.prog.info? 29 with
  | none => rw [hi] at h; cases h
  | some i =>
    rw [hi] at h
    simp only [Option.map_some, Option.some.injEq, Prod.mk.injEq] at h
    exact ⟨i, rfl, h.1, Option.isSome_iff_exists.1 h.2⟩
theorem shr_byte (s : Nat) (h : s < 8) : ∃ v : UInt8, (128 : Int) / 2 ^ s = (v.toNat : Int) := by
  match s, h with
  | 0, _ => exact ⟨128, by decide⟩
  | 1, _ => exact ⟨64, by decide⟩
  | 2, _ => exact ⟨32, by decide⟩
  | 3, _ => exact ⟨16, by decide⟩
  | 4, _ => exact ⟨8, by decide⟩
  | 5, _ => exact ⟨4, by decide⟩
  | 6, _ => exact ⟨2, by decide⟩
  | 7, _ => exact ⟨1, by decide⟩
  | s + 8, h => exact absurd h (by omega)

set_option maxRecDepth 100000 in
set_option maxHeartbeats 16000000 in
set_option linter.unusedSimpArgs false in
theorem in_prefixes_walk (HKC0 : InCheckC) (HPD0 : InPadC) (HVC0 : InValidC) (HNC0 : InContainsC) (HLC0 : InLessC) (w : World) (a0 : AddrM) (b0 : Int) (a b : AddrM) (Ac : Option Addr) (nc cc : Nat) (lc : List UInt8) (ia : Nat) (ha0 : a0.ok) (hb0 : -9223372036854775808 ≤ b0 ∧ b0 ≤ 9223372036854775807) (ha : a.ok) (hb : b.ok) (hnc : nc ≤ cc) (hcm : cc ≤ maxLen) (hr : Rd w w.heap.size Ac nc lc) (hia : ia ≤ 255) :
    Calls Try.prog 5 #[.agg (prefC a0 b0).toArray, .agg a.cells.toArray, .agg b.cells.toArray, .slice Ac nc cc, .int .u8 (ia : Int)] w fun e w' => e = .returned (.bool true) ∧ Below w.heap.size w w' := by
  have HBG := Lib.hid (in_begun_any HKC0 HPD0)
  have HVC := Lib.hid HVC0
  have HNC := Lib.hid HNC0
  have HLC := Lib.hid HLC0
  clear HKC0 HPD0 HVC0 HNC0 HLC0
  obtain ⟨cp, hcp⟩ : ∃ z, (prefC a0 b0).toArray = z := ⟨_, rfl⟩
  obtain ⟨ca, hca⟩ : ∃ z, a.cells.toArray = z := ⟨_, rfl⟩
  obtain ⟨cb, hcb⟩ : ∃ z, b.cells.toArray = z := ⟨_, rfl⟩
  rw [hcp, hca, hcb]
  have HCP := Lib.hid hcp
  have HCA := Lib.hid hca
  have HCB := Lib.hid hcb
  have HOP := Lib.hid (And.intro ha0 (And.intro hb0 (And.intro ha hb)))
  have HM := Lib.hid (show Lows w [blkL (w.heap.size + 1 + 1) 29 b.cells, blkL (w.heap.size + 1) 29 a.cells, blkL w.heap.size 42 (prefC a0 b0)] (((w.alloc (.cells cp 42)).alloc (.cells ca 29)).alloc (.cells cb 29)) from by
    have h := ((((Lows.nil w).alloc 42 cp _ hcp.symm).alloc 29 ca _ hca.symm).alloc 29 cb _ hcb.symm)
    simpa using h)
  obtain ⟨k, hk⟩ : ∃ k, min nc 60 = k := ⟨_, rfl⟩
  have HR := Lib.hid (hr.take (show k ≤ nc by omega))
  have HW1 := Lib.hid (caseNew_any Ac nc cc 60 k (by omega) hnc hcm hk)
  have HK60 := Lib.hid (And.intro (show k ≤ 60 by omega) hia)
  clear hcp hca hcb ha0 hb0 ha hb hr hk hnc hcm hia
  go_enter Try.func5, Try.ntmps5
  go_upto_region 1 with fail
  generalize (((w.alloc (.cells cp 42)).alloc (.cells ca 29)).alloc (.cells cb 29)) = w0 at HM ⊢
  go_wp2_with fail
  refine (HW1.out w0).mono ?_
  rintro e w1 ⟨rfl, hm⟩
  have hc : CodesAt w1 w0.heap.size Ac k cc (lc.take k) w0.heap.size 0 := ⟨hm.blk 0 rfl, ((HR.out.below HM.out.bel).mono HM.out.size).below hm.bel, Nat.le_refl _, (hm.blk 0 rfl).lt, by have := HK60.out.1; omega, Nat.zero_le _⟩
  have HPC := Lib.hid (casePrefix_any w0.heap.size Ac k cc (lc.take k) w0.heap.size 0 w1 hc)
  have HB1 := Lib.hid hm.bel
  have hqa := codeM_ok (lc.take k) 0
  have hqb := codePb_le (lc.take k) 0
  have hxo := codeA_ok (lc.take k) (codePP (lc.take k) 0)
  have HAC := Lib.hid (fun W (h : CodesAt W w0.heap.size Ac k cc (lc.take k) w0.heap.size (codePP (lc.take k) 0)) => caseAddr_any w0.heap.size Ac k cc (lc.take k) w0.heap.size (codePP (lc.take k) 0) W h)
  clear hm hc HR HW1
  generalize codeM (lc.take k) 0 = qa at HPC hqa
  generalize codePb (lc.take k) 0 = qb at HPC hqb
  generalize codePP (lc.take k) 0 = p2 at HPC HAC hxo
  generalize codeA (lc.take k) p2 = x at HAC hxo
  obtain ⟨cq, hcq⟩ : ∃ z, (prefC qa (qb : Int)).toArray = z := ⟨_, rfl⟩
  obtain ⟨cx, hcx⟩ : ∃ z, x.cells.toArray = z := ⟨_, rfl⟩
  obtain ⟨cqa, hcqa⟩ : ∃ z, qa.cells.toArray = z := ⟨_, rfl⟩
  rw [hcq] at HPC
  rw [hcx] at HAC
  have HCQ := Lib.hid hcq
  have HCX := Lib.hid hcx
  have HCQA := Lib.hid hcqa
  have HOQ := Lib.hid (And.intro hqa hxo)
  have HQB := Lib.hid hqb
  clear hcq hcx hcqa hqa hqb hxo
  go_upto_region 2 with fail
  go_wp2_with fail
  refine HPC.out.mono ?_
  rintro e w2 ⟨rfl, hc2, hg2⟩
  have hb2 : Below w0.heap.size w0 w2 := HB1.out.grown hg2 HB1.out.size (by intro q hq; injection hq with hq; omega)
  have HB2 := Lib.hid hb2
  have HC2 := Lib.hid hc2
  clear hg2 hb2 hc2 HPC HB1
  go_wp2_with fail
  refine (HAC.out _ HC2.out).mono ?_
  rintro e w3 ⟨rfl, -, hg3⟩
  have hb3 : Below w0.heap.size w0 w3 := HB2.out.grown hg3 HB2.out.size (by intro q hq; injection hq with hq; omega)
  have HM3 := Lib.hid (HM.out.below hb3)
  replace HM := HM3
  clear HM3 hg3 hb3 HB2 HC2 HAC
  have HA := Lib.hid (show Mem w3 [blkE (w3.heap.size + 1) 29 addr0.cells, blkE w3.heap.size 42 pref0] ((w3.alloc (.cells #[.bool false, .int .u8 0, .int .u8 0, .int .u8 0, .int .u8 0, .int .u8 0, .int .u8 0, .int .u8 0, .int .u8 0, .int .u8 0, .int .u8 0, .int .u8 0, .int .u8 0, .int .u8 0, .int .u8 0, .int .u8 0, .int .u8 0, .int .i64 0] 42)).alloc (.cells #[.bool false, .int .u8 0, .int .u8 0, .int .u8 0, .int .u8 0, .int .u8 0, .int .u8 0, .int .u8 0, .int .u8 0, .int .u8 0, .int .u8 0, .int .u8 0, .int .u8 0, .int .u8 0, .int .u8 0, .int .u8 0, .int .u8 0] 29)) from ((Mem.nil w3).alloc rfl 42 #[.bool false, .int .u8 0, .int .u8 0, .int .u8 0, .int .u8 0, .int .u8 0, .int .u8 0, .int .u8 0, .int .u8 0, .int .u8 0, .int .u8 0, .int .u8 0, .int .u8 0, .int .u8 0, .int .u8 0, .int .u8 0, .int .u8 0, .int .i64 0] pref0 rfl).alloc (by simp) 29 #[.bool false, .int .u8 0, .int .u8 0, .int .u8 0, .int .u8 0, .int .u8 0, .int .u8 0, .int .u8 0, .int .u8 0, .int .u8 0, .int .u8 0, .int .u8 0, .int .u8 0, .int .u8 0, .int .u8 0, .int .u8 0, .int .u8 0] addr0.cells rfl)
  go_upto_region 3 with (first | (refine wpList_store_blk rfl 42 (.tmp 12) (.tmp 23) rfl w3.heap.size (prefC qa (qb : Int)) rfl (by show Value.agg cq = _; rw [HCQ.out]) 42 pref0 (HA.out.blk 1 rfl) (pref_cellsOf qa (HOQ.out.1) (qb : Int)) (by rw [prefC_length _ (HOQ.out.1)]; rfl) (prefC_one _ _) ?_; intro w4 hb4 hg4) | (refine wpList_store_blk rfl 29 (.tmp 13) (.tmp 25) rfl (w3.heap.size + 1) x.cells rfl (by show Value.agg cx = _; rw [HCX.out]) 29 addr0.cells ((HA.out.put 1 rfl _ hg4 hb4).blk 0 rfl) (addr_cellsOf x (HOQ.out.2)) (by rw [AddrM.cells_length (HOQ.out.2)]; rfl) (AddrM.one _) ?_; intro w5 hb5 hg5))
  (try simp only [Act.put])
  have hM := (HA.out.put 1 rfl _ hg4 hb4).put 0 rfl _ hg5 hb5
  replace HM := Lib.hid (show Lows w [blkL (w3.heap.size + 1) 29 x.cells, blkL w3.heap.size 42 (prefC qa (qb : Int)), blkL (w.heap.size + 1 + 1) 29 b.cells, blkL (w.heap.size + 1) 29 a.cells, blkL w.heap.size 42 (prefC a0 b0)] w5 from ((HM.out.below hM.bel).cons (blkL _ _ _) (hM.blk 1 rfl)).cons (blkL _ _ _) (hM.blk 0 rfl))
  clear HA hM hb4 hg4 hb5 hg5
  generalize w3.heap.size + 1 = P13 at HM ⊢
  generalize w3.heap.size = P12 at HM ⊢
  have HA := Lib.hid (show Mem w5 [blkE w5.heap.size 42 pref0] (w5.alloc (.cells #[.bool false, .int .u8 0, .int .u8 0, .int .u8 0, .int .u8 0, .int .u8 0, .int .u8 0, .int .u8 0, .int .u8 0, .int .u8 0, .int .u8 0, .int .u8 0, .int .u8 0, .int .u8 0, .int .u8 0, .int .u8 0, .int .u8 0, .int .i64 0] 42)) from (Mem.nil w5).alloc rfl 42 #[.bool false, .int .u8 0, .int .u8 0, .int .u8 0, .int .u8 0, .int .u8 0, .int .u8 0, .int .u8 0, .int .u8 0, .int .u8 0, .int .u8 0, .int .u8 0, .int .u8 0, .int .u8 0, .int .u8 0, .int .u8 0, .int .u8 0, .int .i64 0] pref0 rfl)
  go_upto_region 4 with (first | (refine wpList_load_obj rfl 42 (.tmp 12) rfl P12 0 rfl (prefC qa (qb : Int)) (HM.out.blk 1 rfl).all _ Try.underlying42 rfl (pref_cellsOf qa (HOQ.out.1) (qb : Int)) ?_; rw [HCQ.out]) | (refine wpList_store_blk rfl 42 (.tmp 14) (.tmp 26) rfl w5.heap.size (prefC qa (qb : Int)) rfl (by show Value.agg cq = _; rw [HCQ.out]) 42 pref0 (HA.out.blk 0 rfl) (pref_cellsOf qa (HOQ.out.1) (qb : Int)) (by rw [prefC_length _ (HOQ.out.1)]; rfl) (prefC_one _ _) ?_; intro w6 hb4 hg4))
  (try simp only [Act.put])
  have HX := Lib.hid (HA.out.put 0 rfl _ hg4 hb4)
  generalize w5.heap.size = P14 at HX ⊢
  replace HX := Lib.hid (show Mem w5 [blkE P14 42 (prefC qa (qb : Int))] w6 from HX.out)
  clear HA hb4 hg4
  obtain ⟨i, hii⟩ : ∃ i, ia % 16 = i := ⟨_, rfl⟩
  have hia := HK60.out.2
  have hiI : (ia : Int) % 16 = (i : Int) := by omega
  have hi16 : i < 16 := by omega
  have hib : (i : Int) < 16 := by omega
  obtain ⟨s, hs⟩ : ∃ s, ia / 16 % 8 = s := ⟨_, rfl⟩
  have hsI : (ia : Int) / 16 % 8 = (s : Int) := by omega
  have hs8 : s < 8 := by omega
  have hmin : min s 8 = s := by omega
  obtain ⟨v, hv⟩ := shr_byte s hs8
  have fx := ((HX.out.blk 0 rfl).cell (1 + i)).trans (prefC_cell qa (HOQ.out.1) (qb : Int) i hi16)
  have zx := (HX.out.blk 0 rfl).frozen (1 + i)
  have hxor := xor_bits (qa.ip.getD i 0) v
  have hset := prefC_set qa (HOQ.out.1) (qb : Int) i hi16
  generalize qa.ip.getD i 0 = x0 at fx hxor
  generalize x0 ^^^ v = y0 at hxor
  have HX2 := Lib.hid (show Mem w5 [blkE P14 42 (prefC ⟨qa.six, qa.ip.set i y0⟩ (qb : Int))] (w6.setCell ⟨P14, 1 + i, none⟩ (.int .u8 (y0.toNat : Int))) from by have h := HX.out.setCell 0 rfl (1 + i) (u8v y0); rw [hset] at h; exact h)
  have HOR := Lib.hid (show (AddrM.mk qa.six (qa.ip.set i y0)).ok from by show (qa.ip.set i y0).length = 16; rw [List.length_set]; exact HOQ.out.1)
  obtain ⟨ra, hra⟩ : ∃ z, AddrM.mk qa.six (qa.ip.set i y0) = z := ⟨_, rfl⟩
  rw [hra] at HX2 HOR
  clear hset hra hii hs HX
  go_upto_region 5 with fail
  generalize w6.setCell ⟨P14, 1 + i, none⟩ (.int .u8 (y0.toNat : Int)) = w7 at HX2 ⊢
  replace HM := Lib.hid (show Lows w [blkL P14 42 (prefC ra (qb : Int)), blkL P13 29 x.cells, blkL P12 42 (prefC qa (qb : Int)), blkL (w.heap.size + 1 + 1) 29 b.cells, blkL (w.heap.size + 1) 29 a.cells, blkL w.heap.size 42 (prefC a0 b0)] w7 from (HM.out.below HX2.out.bel).cons (blkL _ _ _) (HX2.out.blk 0 rfl))
  obtain ⟨cr, hcr⟩ : ∃ z, (prefC ra (qb : Int)).toArray = z := ⟨_, rfl⟩
  have HCR := Lib.hid hcr
  clear HX2 fx zx hxor hcr
  have HA := Lib.hid (show Mem w7 [blkE w7.heap.size 29 addr0.cells] (w7.alloc (.cells #[.bool false, .int .u8 0, .int .u8 0, .int .u8 0, .int .u8 0, .int .u8 0, .int .u8 0, .int .u8 0, .int .u8 0, .int .u8 0, .int .u8 0, .int .u8 0, .int .u8 0, .int .u8 0, .int .u8 0, .int .u8 0, .int .u8 0] 29)) from (Mem.nil w7).alloc rfl 29 #[.bool false, .int .u8 0, .int .u8 0, .int .u8 0, .int .u8 0, .int .u8 0, .int .u8 0, .int .u8 0, .int .u8 0, .int .u8 0, .int .u8 0, .int .u8 0, .int .u8 0, .int .u8 0, .int .u8 0, .int .u8 0, .int .u8 0] addr0.cells rfl)
  go_upto_region 6 with (first | (refine wpList_load_obj rfl 29 (.tmp 41) rfl P12 0 rfl qa.cells (by have h := (HM.out.blk 2 rfl).sub 0 17; rw [prefC_addr qa (HOQ.out.1) (qb : Int)] at h; exact h) _ Try.underlying29 rfl (addr_cellsOf qa (HOQ.out.1)) ?_; rw [HCQA.out]) | (refine wpList_store_blk rfl 29 (.tmp 15) (.tmp 42) rfl w7.heap.size qa.cells rfl (by show Value.agg cqa = _; rw [HCQA.out]) 29 addr0.cells (HA.out.blk 0 rfl) (addr_cellsOf qa (HOQ.out.1)) (by rw [AddrM.cells_length (HOQ.out.1)]; rfl) (AddrM.one _) ?_; intro w8 hb4 hg4))
  (try simp only [Act.put])
  have HX := Lib.hid (HA.out.put 0 rfl _ hg4 hb4)
  generalize w7.heap.size = P15 at HX ⊢
  replace HX := Lib.hid (show Mem w7 [blkE P15 29 qa.cells] w8 from HX.out)
  clear HA hb4 hg4
  have fx := ((HX.out.blk 0 rfl).cell (1 + i)).trans (AddrM.ip_cell qa (HOQ.out.1) i hi16)
  have zx := (HX.out.blk 0 rfl).frozen (1 + i)
  have hxor := xor_bits (qa.ip.getD i 0) v
  have hset := AddrM.set_cell qa i
  generalize qa.ip.getD i 0 = x1 at fx hxor
  generalize x1 ^^^ v = y1 at hxor
  have HX2 := Lib.hid (show Mem w7 [blkE P15 29 (AddrM.mk qa.six (qa.ip.set i y1)).cells] (w8.setCell ⟨P15, 1 + i, none⟩ (.int .u8 (y1.toNat : Int))) from by have h := HX.out.setCell 0 rfl (1 + i) (u8v y1); rw [hset] at h; exact h)
  have HOY := Lib.hid (show (AddrM.mk qa.six (qa.ip.set i y1)).ok from by show (qa.ip.set i y1).length = 16; rw [List.length_set]; exact HOQ.out.1)
  obtain ⟨y, hy⟩ : ∃ z, AddrM.mk qa.six (qa.ip.set i y1) = z := ⟨_, rfl⟩
  rw [hy] at HX2 HOY
  clear hset hy HX
  go_upto_region 7 with fail
  generalize w8.setCell ⟨P15, 1 + i, none⟩ (.int .u8 (y1.toNat : Int)) = w9 at HX2 ⊢
  replace HM := Lib.hid (show Lows w [blkL P15 29 y.cells, blkL P14 42 (prefC ra (qb : Int)), blkL P13 29 x.cells, blkL P12 42 (prefC qa (qb : Int)), blkL (w.heap.size + 1 + 1) 29 b.cells, blkL (w.heap.size + 1) 29 a.cells, blkL w.heap.size 42 (prefC a0 b0)] w9 from (HM.out.below HX2.out.bel).cons (blkL _ _ _) (HX2.out.blk 0 rfl))
  obtain ⟨cy, hcy⟩ : ∃ z, y.cells.toArray = z := ⟨_, rfl⟩
  have HCY := Lib.hid hcy
  clear HX2 fx zx hxor hcy hiI hi16 hib hsI hs8 hmin hv hia
  obtain ⟨q1, hq1⟩ : ∃ q, qb + 1 = q := ⟨_, rfl⟩
  have hqb := HQB.out
  have hq1I : (qb : Int) + 1 = (q1 : Int) := by omega
  have hq1w : IntKind.i64.wrap (q1 : Int) = (q1 : Int) := IntWalk.i64_in _ (by omega)
  have fq := ((HM.out.blk 3 rfl).cell 17).trans (prefC_bits qa (HOQ.out.1) (qb : Int))
  obtain ⟨cq1, hcq1⟩ : ∃ z, (prefC qa (q1 : Int)).toArray = z := ⟨_, rfl⟩
  have hbu := pref_built qa (HOQ.out.1) (q1 : Int)
  rw [hcq1, HCQA.out] at hbu
  have HBU := Lib.hid hbu
  have HCQ1 := Lib.hid hcq1
  obtain ⟨ixp, hixp, hsxp, zxp, hzxp⟩ := prefInfo
  have hrl : ∀ r ∈ ([prefC a0 b0, prefC qa (qb : Int), prefC ra (qb : Int), prefC qa (q1 : Int)] : List (List Value)), r.length = 18 := by
    intro r hr
    simp only [List.mem_cons, List.not_mem_nil, or_false] at hr
    rcases hr with rfl | rfl | rfl | rfl
    · exact prefC_length _ HOP.out.1 _
    · exact prefC_length _ (HOQ.out.1) _
    · exact prefC_length _ HOR.out _
    · exact prefC_length _ (HOQ.out.1) _
  obtain ⟨ixa, hixa, hsxa, zxa, hzxa⟩ := addrInfo
  have hrl5 : ∀ r ∈ ([a.cells, b.cells, x.cells, y.cells, qa.cells] : List (List Value)), r.length = 17 := by
    intro r hr
    simp only [List.mem_cons, List.not_mem_nil, or_false] at hr
    rcases hr with rfl | rfl | rfl | rfl | rfl
    · exact AddrM.cells_length HOP.out.2.2.1
    · exact AddrM.cells_length HOP.out.2.2.2
    · exact AddrM.cells_length (HOQ.out.2)
    · exact AddrM.cells_length HOY.out
    · exact AddrM.cells_length (HOQ.out.1)
  have HRL5 := Lib.hid hrl5
  have HAI := Lib.hid (And.intro hixa (And.intro hsxa hzxa))
  clear hrl5 hixa hsxa hzxa
  have HRL := Lib.hid hrl
  have HPI := Lib.hid (And.intro hixp (And.intro hsxp hzxp))
  clear hcq1 hbu hrl hqb hixp hsxp hzxp
  go_wp2_with (first | (refine wpList_load_obj rfl 42 (.tmp 5) rfl w.heap.size 0 rfl (prefC a0 b0) (HM.out.blk 6 rfl).all _ Try.underlying42 rfl (pref_cellsOf a0 HOP.out.1 b0) ?_; rw [HCP.out]) | (refine wpList_load_obj rfl 42 (.tmp 12) rfl P12 0 rfl (prefC qa (qb : Int)) (HM.out.blk 3 rfl).all _ Try.underlying42 rfl (pref_cellsOf qa (HOQ.out.1) (qb : Int)) ?_; rw [HCQ.out]) | (refine wpList_load_obj rfl 42 (.tmp 14) rfl P14 0 rfl (prefC ra (qb : Int)) (HM.out.blk 1 rfl).all _ Try.underlying42 rfl (pref_cellsOf ra HOR.out (qb : Int)) ?_; rw [HCR.out]) | (refine wpList_load_obj rfl 29 (.tmp 58) rfl P12 0 rfl qa.cells (by have h := (HM.out.blk 3 rfl).sub 0 17; rw [prefC_addr qa (HOQ.out.1) (qb : Int)] at h; exact h) _ Try.underlying29 rfl (addr_cellsOf qa (HOQ.out.1)) ?_; rw [HCQA.out]) | (refine wpList_build_as rfl 42 [(0, .tmp 59), (1, .tmp 62)] rfl cq1 ?_ ?_; exact HBU.out) | (refine wpList_buildRows rfl 47 42 4 [(0, .tmp 55), (1, .tmp 56), (2, .tmp 57), (3, .tmp 63)] rfl [prefC a0 b0, prefC qa (qb : Int), prefC ra (qb : Int), prefC qa (q1 : Int)] rfl (rows4_eq HCP.out HCQ.out HCR.out HCQ1.out).symm 18 Try.underlying47 ixp HPI.out.1 HPI.out.2.1 zxp HPI.out.2.2 (by omega) (by omega) (by omega) HRL.out ?_; generalize hfl4 : List.flatten [prefC a0 b0, prefC qa (qb : Int), prefC ra (qb : Int), prefC qa (q1 : Int)] = fl4))
  clear hq1I hq1w fq
  have HI := Lib.hid (show ∀ k, k < 4 → ∃ sa sb, AddrM.ok sa ∧ -9223372036854775808 ≤ sb ∧ sb ≤ 9223372036854775807 ∧ (fl4.drop (k * 18)).take 18 = prefC sa sb from by
    intro k hk
    have hf := flatten_row 18 [prefC a0 b0, prefC qa (qb : Int), prefC ra (qb : Int), prefC qa (q1 : Int)] k hk HRL.out
    rw [hfl4] at hf
    have hq := HQB.out
    match k, hk with
    | 0, _ => exact ⟨a0, b0, HOP.out.1, HOP.out.2.1.1, HOP.out.2.1.2, hf⟩
    | 1, _ => exact ⟨qa, (qb : Int), HOQ.out.1, by omega, by omega, hf⟩
    | 2, _ => exact ⟨ra, (qb : Int), HOR.out, by omega, by omega, hf⟩
    | 3, _ => exact ⟨qa, (q1 : Int), HOQ.out.1, by omega, by omega, hf⟩
    | k + 4, hk => exact absurd hk (by omega))
  have hm9 := HM.out.alloc 42 fl4.toArray fl4 rfl
  generalize w9.alloc (.cells fl4.toArray 42) = wq at hm9 ⊢
  generalize w9.heap.size = P64 at hm9 ⊢
  replace HM := Lib.hid (show Lows w [blkL P64 42 fl4, blkL P15 29 y.cells, blkL P14 42 (prefC ra (qb : Int)), blkL P13 29 x.cells, blkL P12 42 (prefC qa (qb : Int)), blkL (w.heap.size + 1 + 1) 29 b.cells, blkL (w.heap.size + 1) 29 a.cells, blkL w.heap.size 42 (prefC a0 b0)] wq from hm9)
  clear hm9 hfl4 HRL HPI HBU HCQ1 hq1
  go_loopw [66] (fun iv wr => ∃ k : Nat, k ≤ 4 ∧ iv = .int .i64 (k : Int) ∧ Lows w [blkL P64 42 fl4, blkL P15 29 y.cells, blkL P14 42 (prefC ra (qb : Int)), blkL P13 29 x.cells, blkL P12 42 (prefC qa (qb : Int)), blkL (w.heap.size + 1 + 1) 29 b.cells, blkL (w.heap.size + 1) 29 a.cells, blkL w.heap.size 42 (prefC a0 b0)] wr) (fun iv _ => 4 - (intOf iv).toNat)
  case atStart => exact ⟨0, by omega, rfl, HM.out⟩
  case round =>
    clear HM
    obtain ⟨k, hk, rfl, hM⟩ := hrel
    have HM := Lib.hid hM
    clear hM
    by_cases hk4 : k < 4
    · obtain ⟨sa, sb, hso, hs1, hs2, hrow⟩ := HI.out k hk4
      have dk : decide ((k : Int) < 4) = true := by simp; omega
      have HRW := Lib.hid (show At wr P64 (k * 18) (prefC sa sb) from by have h := (HM.out.blk 0 rfl).sub (k * 18) 18; rw [hrow] at h; exact h)
      obtain ⟨cs, hcs⟩ : ∃ z, (prefC sa sb).toArray = z := ⟨_, rfl⟩
      have HCS := Lib.hid hcs
      have HSO := Lib.hid hso
      have VP := Lib.hid (HVC.out sa sb hso hs1 hs2)
      have VR := Lib.hid (refValid_any sa hso sb hs1 hs2)
      have NP := Lib.hid (HNC.out sa sb hso hs1 hs2)
      have NR := Lib.hid (refContains_any sa hso sb hs1 hs2)
      rw [hcs] at VP VR NP NR
      have HKK := Lib.hid hk
      have hHA : Blk (wr.alloc (.cells #[.bool false, .int .u8 0, .int .u8 0, .int .u8 0, .int .u8 0, .int .u8 0, .int .u8 0, .int .u8 0, .int .u8 0, .int .u8 0, .int .u8 0, .int .u8 0, .int .u8 0, .int .u8 0, .int .u8 0, .int .u8 0, .int .u8 0, .int .i64 0] 42)) wr.heap.size 42 pref0 := Blk.new wr 42 pref0
      clear hrow hcs hso hs1 hs2 hk
      go_upto_region 10 with (first | (refine wpList_load_obj rfl 42 (.tmp 68) rfl P64 (k * 18) rfl (prefC sa sb) HRW.out _ Try.underlying42 rfl (pref_cellsOf _ HSO.out _) ?_; rw [HCS.out]) | (refine wpList_store_blk rfl 42 (.tmp 17) (.tmp 69) rfl wr.heap.size (prefC sa sb) rfl (by show Value.agg cs = _; rw [HCS.out]) 42 pref0 (hHA) (pref_cellsOf sa HSO.out sb) (by rw [prefC_length _ (HSO.out)]; rfl) (prefC_one _ _) ?_; intro w10 hb4 hg4))
      (try simp only [Act.put])
      have hm9 := HM.out.stored (arr := #[.bool false, .int .u8 0, .int .u8 0, .int .u8 0, .int .u8 0, .int .u8 0, .int .u8 0, .int .u8 0, .int .u8 0, .int .u8 0, .int .u8 0, .int .u8 0, .int .u8 0, .int .u8 0, .int .u8 0, .int .u8 0, .int .u8 0, .int .i64 0]) hg4 hb4
      generalize wr.heap.size = P17 at hm9 ⊢
      replace HM := Lib.hid (show Lows w [blkL P17 42 (prefC sa sb), blkL P64 42 fl4, blkL P15 29 y.cells, blkL P14 42 (prefC ra (qb : Int)), blkL P13 29 x.cells, blkL P12 42 (prefC qa (qb : Int)), blkL (w.heap.size + 1 + 1) 29 b.cells, blkL (w.heap.size + 1) 29 a.cells, blkL w.heap.size 42 (prefC a0 b0)] w10 from hm9)
      clear hm9 hb4 hg4 HRW dk
      go_wp2_with (first | (refine wpList_load_obj rfl 29 (.tmp 6) rfl (w.heap.size + 1) 0 rfl a.cells (HM.out.blk 7 rfl).all _ Try.underlying29 rfl (addr_cellsOf a HOP.out.2.2.1) ?_; rw [HCA.out]) | (refine wpList_load_obj rfl 29 (.tmp 7) rfl (w.heap.size + 1 + 1) 0 rfl b.cells (HM.out.blk 6 rfl).all _ Try.underlying29 rfl (addr_cellsOf b HOP.out.2.2.2) ?_; rw [HCB.out]) | (refine wpList_load_obj rfl 29 (.tmp 13) rfl P13 0 rfl x.cells (HM.out.blk 4 rfl).all _ Try.underlying29 rfl (addr_cellsOf x (HOQ.out.2)) ?_; rw [HCX.out]) | (refine wpList_load_obj rfl 29 (.tmp 15) rfl P15 0 rfl y.cells (HM.out.blk 2 rfl).all _ Try.underlying29 rfl (addr_cellsOf y HOY.out) ?_; rw [HCY.out]) | (refine wpList_load_obj rfl 29 (.tmp 74) rfl P12 0 rfl qa.cells (by have h := (HM.out.blk 5 rfl).sub 0 17; rw [prefC_addr qa (HOQ.out.1) (qb : Int)] at h; exact h) _ Try.underlying29 rfl (addr_cellsOf qa (HOQ.out.1)) ?_; rw [HCQA.out]) | (refine wpList_buildRows rfl 48 29 5 [(0, .tmp 70), (1, .tmp 71), (2, .tmp 72), (3, .tmp 73), (4, .tmp 75)] rfl [a.cells, b.cells, x.cells, y.cells, qa.cells] rfl (rows5_eq HCA.out HCB.out HCX.out HCY.out HCQA.out).symm 17 Try.underlying48 ixa HAI.out.1 HAI.out.2.1 zxa HAI.out.2.2 (by omega) (by omega) (by omega) HRL5.out ?_; generalize hfl5 : List.flatten [a.cells, b.cells, x.cells, y.cells, qa.cells] = fl5))
      have HI5 := Lib.hid (show ∀ k, k < 5 → ∃ z, AddrM.ok z ∧ (fl5.drop (k * 17)).take 17 = z.cells from by
        intro k hk
        have hf := flatten_row 17 [a.cells, b.cells, x.cells, y.cells, qa.cells] k hk HRL5.out
        rw [hfl5] at hf
        match k, hk with
        | 0, _ => exact ⟨a, HOP.out.2.2.1, hf⟩
        | 1, _ => exact ⟨b, HOP.out.2.2.2, hf⟩
        | 2, _ => exact ⟨x, HOQ.out.2, hf⟩
        | 3, _ => exact ⟨y, HOY.out, hf⟩
        | 4, _ => exact ⟨qa, HOQ.out.1, hf⟩
        | k + 5, hk => exact absurd hk (by omega))
      have hm9 := HM.out.alloc 29 fl5.toArray fl5 rfl
      generalize w10.alloc (.cells fl5.toArray 29) = wq5 at hm9 ⊢
      generalize w10.heap.size = P76 at hm9 ⊢
      replace HM := Lib.hid (show Lows w [blkL P76 29 fl5, blkL P17 42 (prefC sa sb), blkL P64 42 fl4, blkL P15 29 y.cells, blkL P14 42 (prefC ra (qb : Int)), blkL P13 29 x.cells, blkL P12 42 (prefC qa (qb : Int)), blkL (w.heap.size + 1 + 1) 29 b.cells, blkL (w.heap.size + 1) 29 a.cells, blkL w.heap.size 42 (prefC a0 b0)] wq5 from hm9)
      clear hm9 hfl5
      go_loopw [78] (fun iv wr => ∃ k : Nat, k ≤ 5 ∧ iv = .int .i64 (k : Int) ∧ Lows w [blkL P76 29 fl5, blkL P17 42 (prefC sa sb), blkL P64 42 fl4, blkL P15 29 y.cells, blkL P14 42 (prefC ra (qb : Int)), blkL P13 29 x.cells, blkL P12 42 (prefC qa (qb : Int)), blkL (w.heap.size + 1 + 1) 29 b.cells, blkL (w.heap.size + 1) 29 a.cells, blkL w.heap.size 42 (prefC a0 b0)] wr) (fun iv _ => 5 - (intOf iv).toNat)
      case atStart => exact ⟨0, by omega, rfl, HM.out⟩
      case round =>
        clear HM
        obtain ⟨k5, hk5, rfl, hM⟩ := hrel
        have HM := Lib.hid hM
        clear hM
        by_cases hk55 : k5 < 5
        · obtain ⟨z, hzo, hrow⟩ := HI5.out k5 hk55
          have dk : decide ((k5 : Int) < 5) = true := by simp; omega
          have HRW := Lib.hid (show At wr P76 (k5 * 17) z.cells from by have h := (HM.out.blk 0 rfl).sub (k5 * 17) 17; rw [hrow] at h; exact h)
          obtain ⟨cz, hcz⟩ : ∃ q, z.cells.toArray = q := ⟨_, rfl⟩
          have HCZ := Lib.hid hcz
          have HZO := Lib.hid hzo
          have NP5 := Lib.hid (NP.out z hzo)
          have NR5 := Lib.hid (NR.out z hzo)
          rw [hcz] at NP5 NR5
          generalize containsM sa sb z = bz at NP5 NR5
          have hHA : Blk (wr.alloc (.cells #[.bool false, .int .u8 0, .int .u8 0, .int .u8 0, .int .u8 0, .int .u8 0, .int .u8 0, .int .u8 0, .int .u8 0, .int .u8 0, .int .u8 0, .int .u8 0, .int .u8 0, .int .u8 0, .int .u8 0, .int .u8 0, .int .u8 0] 29)) wr.heap.size 29 addr0.cells := Blk.new wr 29 addr0.cells
          clear hrow hcz hzo
          go_upto_region 13 with (first | (refine wpList_load_obj rfl 29 (.tmp 80) rfl P76 (k5 * 17) rfl z.cells HRW.out _ Try.underlying29 rfl (addr_cellsOf _ HZO.out) ?_; rw [HCZ.out]) | (refine wpList_store_blk rfl 29 (.tmp 19) (.tmp 81) rfl wr.heap.size z.cells rfl (by show Value.agg cz = _; rw [HCZ.out]) 29 addr0.cells (hHA) (addr_cellsOf z HZO.out) (by rw [AddrM.cells_length (HZO.out)]; rfl) (AddrM.one _) ?_; intro w13 hb4 hg4))
          (try simp only [Act.put])
          have hm9 := HM.out.stored (arr := #[.bool false, .int .u8 0, .int .u8 0, .int .u8 0, .int .u8 0, .int .u8 0, .int .u8 0, .int .u8 0, .int .u8 0, .int .u8 0, .int .u8 0, .int .u8 0, .int .u8 0, .int .u8 0, .int .u8 0, .int .u8 0, .int .u8 0]) hg4 hb4
          generalize wr.heap.size = P19 at hm9 ⊢
          replace HM := Lib.hid (show Lows w [blkL P19 29 z.cells, blkL P76 29 fl5, blkL P17 42 (prefC sa sb), blkL P64 42 fl4, blkL P15 29 y.cells, blkL P14 42 (prefC ra (qb : Int)), blkL P13 29 x.cells, blkL P12 42 (prefC qa (qb : Int)), blkL (w.heap.size + 1 + 1) 29 b.cells, blkL (w.heap.size + 1) 29 a.cells, blkL w.heap.size 42 (prefC a0 b0)] w13 from hm9)
          clear hm9 hb4 hg4 HRW dk
          refine wp_region_held_drew (S := fun W' => Lows w [blkL P19 29 z.cells, blkL P76 29 fl5, blkL P17 42 (prefC sa sb), blkL P64 42 fl4, blkL P15 29 y.cells, blkL P14 42 (prefC ra (qb : Int)), blkL P13 29 x.cells, blkL P12 42 (prefC qa (qb : Int)), blkL (w.heap.size + 1 + 1) 29 b.cells, blkL (w.heap.size + 1) 29 a.cells, blkL w.heap.size 42 (prefC a0 b0)] W') (by kernel_rfl) (HM.out.drew) (fun hHeld => ?_)
          replace HM := Lib.hid HM.out.drew
          generalize w13.drew = wd1 at HM hHeld ⊢
          refine take_first (v := .agg cs) 0 rfl (by kernel_rfl) (by kernel_rfl) (by kernel_rfl) (fun _ _ _ h => h) (by rw [← HCS.out]; exact yields_load_obj (by rfl) 42 (.tmp 17) rfl P17 0 rfl (prefC sa sb) (fun w' hb => (Lows.blk hb 2 rfl).all) _ Try.underlying42 rfl (pref_cellsOf sa HSO.out sb)) (by assumption) ?_
          (try simp only [Act.put, List.setIfInBounds_toArray, List.set_cons_zero, List.set_cons_succ])
          refine take_first (v := .agg cz) 1 rfl (by kernel_rfl) (by kernel_rfl) (by kernel_rfl) (fun _ _ _ h => h) (by rw [← HCZ.out]; exact yields_load_obj (by rfl) 29 (.tmp 19) rfl P19 0 rfl z.cells (fun w' hb => (Lows.blk hb 0 rfl).all) _ Try.underlying29 rfl (addr_cellsOf z HZO.out)) (by assumption) ?_
          (try simp only [Act.put, List.setIfInBounds_toArray, List.set_cons_zero, List.set_cons_succ])
          refine take_first (v := .agg cs) 3 rfl (by kernel_rfl) (by kernel_rfl) (by kernel_rfl) (fun _ _ _ h => h) (by rw [← HCS.out]; exact yields_load_obj (by rfl) 42 (.tmp 17) rfl P17 0 rfl (prefC sa sb) (fun w' hb => (Lows.blk hb 2 rfl).all) _ Try.underlying42 rfl (pref_cellsOf sa HSO.out sb)) (by assumption) ?_
          (try simp only [Act.put, List.setIfInBounds_toArray, List.set_cons_zero, List.set_cons_succ])
          refine take_first (v := .agg cz) 4 rfl (by kernel_rfl) (by kernel_rfl) (by kernel_rfl) (fun _ _ _ h => h) (by rw [← HCZ.out]; exact yields_load_obj (by rfl) 29 (.tmp 19) rfl P19 0 rfl z.cells (fun w' hb => (Lows.blk hb 0 rfl).all) _ Try.underlying29 rfl (addr_cellsOf z HZO.out)) (by assumption) ?_
          (try simp only [Act.put, List.setIfInBounds_toArray, List.set_cons_zero, List.set_cons_succ])
          refine step_one 2 rfl (by kernel_rfl) (fun K hK => ?_)
          clear hHeld
          go_simp
          refine (NP5.out _).mono ?_
          rintro e wy2 ⟨rfl, hb⟩
          replace HM := Lib.hid (show Lows w [blkL P19 29 z.cells, blkL P76 29 fl5, blkL P17 42 (prefC sa sb), blkL P64 42 fl4, blkL P15 29 y.cells, blkL P14 42 (prefC ra (qb : Int)), blkL P13 29 x.cells, blkL P12 42 (prefC qa (qb : Int)), blkL (w.heap.size + 1 + 1) 29 b.cells, blkL (w.heap.size + 1) 29 a.cells, blkL w.heap.size 42 (prefC a0 b0)] wy2 from HM.out.below hb)
          clear hb
          go_wp2_with fail
          refine hK.out _ _ (HM.out) (fun hHeld => ?_)
          clear hK K
          (try simp only [Act.put, List.setIfInBounds_toArray, List.set_cons_zero, List.set_cons_succ])
          refine step_one 5 rfl (by kernel_rfl) (fun K hK => ?_)
          clear hHeld
          go_simp
          refine (NR5.out _).mono ?_
          rintro e wy3 ⟨rfl, hb⟩
          replace HM := Lib.hid (show Lows w [blkL P19 29 z.cells, blkL P76 29 fl5, blkL P17 42 (prefC sa sb), blkL P64 42 fl4, blkL P15 29 y.cells, blkL P14 42 (prefC ra (qb : Int)), blkL P13 29 x.cells, blkL P12 42 (prefC qa (qb : Int)), blkL (w.heap.size + 1 + 1) 29 b.cells, blkL (w.heap.size + 1) 29 a.cells, blkL w.heap.size 42 (prefC a0 b0)] wy3 from HM.out.below hb)
          clear hb
          go_wp2_with fail
          refine hK.out _ _ (HM.out) (fun hHeld => ?_)
          clear hK K
          (try simp only [Act.put, List.setIfInBounds_toArray, List.set_cons_zero, List.set_cons_succ])
          refine take_first (v := ?_) 6 rfl (by kernel_rfl) (by kernel_rfl) (by kernel_rfl) (fun _ _ _ h => h) (Or.inl ⟨by rfl, ?_⟩) (by assumption) ?_
          rotate_left
          · (intro w hSw; (try dsimp only at hSw); go_simp; try with_reducible rfl)
          (try simp only [Act.put, List.setIfInBounds_toArray, List.set_cons_zero, List.set_cons_succ])
          refine wpAnyH_done (by kernel_rfl) ?_ _
          have HB5 := Lib.hid (show Lows w [blkL P76 29 fl5, blkL P17 42 (prefC sa sb), blkL P64 42 fl4, blkL P15 29 y.cells, blkL P14 42 (prefC ra (qb : Int)), blkL P13 29 x.cells, blkL P12 42 (prefC qa (qb : Int)), blkL (w.heap.size + 1 + 1) 29 b.cells, blkL (w.heap.size + 1) 29 a.cells, blkL w.heap.size 42 (prefC a0 b0)] wy3 from HM.out.tail 0)
          clear hHeld HM
          go_wp2_with fail
          go_roundw
          case rel => exact ⟨k5 + 1, by omega, by go_num, HB5.out⟩
          case measure => simp [intOf]; omega
        · obtain rfl : k5 = 5 := by omega
          have dk : decide ((5 : Int) < 5) = false := by simp
          go_upto_region 16 with fail
          clear hk5 hk55 dk
          refine wp_region_held_drew (S := fun W' => Lows w [blkL P76 29 fl5, blkL P17 42 (prefC sa sb), blkL P64 42 fl4, blkL P15 29 y.cells, blkL P14 42 (prefC ra (qb : Int)), blkL P13 29 x.cells, blkL P12 42 (prefC qa (qb : Int)), blkL (w.heap.size + 1 + 1) 29 b.cells, blkL (w.heap.size + 1) 29 a.cells, blkL w.heap.size 42 (prefC a0 b0)] W') (by kernel_rfl) (HM.out.drew) (fun hHeld => ?_)
          replace HM := Lib.hid HM.out.drew
          generalize wr.drew = wd1 at HM hHeld ⊢
          refine take_first (v := .agg cs) 0 rfl (by kernel_rfl) (by kernel_rfl) (by kernel_rfl) (fun _ _ _ h => h) (by rw [← HCS.out]; exact yields_load_obj (by rfl) 42 (.tmp 17) rfl P17 0 rfl (prefC sa sb) (fun w' hb => (Lows.blk hb 1 rfl).all) _ Try.underlying42 rfl (pref_cellsOf sa HSO.out sb)) (by assumption) ?_
          (try simp only [Act.put, List.setIfInBounds_toArray, List.set_cons_zero, List.set_cons_succ])
          refine take_first (v := .agg cs) 2 rfl (by kernel_rfl) (by kernel_rfl) (by kernel_rfl) (fun _ _ _ h => h) (by rw [← HCS.out]; exact yields_load_obj (by rfl) 42 (.tmp 17) rfl P17 0 rfl (prefC sa sb) (fun w' hb => (Lows.blk hb 1 rfl).all) _ Try.underlying42 rfl (pref_cellsOf sa HSO.out sb)) (by assumption) ?_
          (try simp only [Act.put, List.setIfInBounds_toArray, List.set_cons_zero, List.set_cons_succ])
          refine step_one 1 rfl (by kernel_rfl) (fun K hK => ?_)
          clear hHeld
          go_simp
          refine (VP.out _).mono ?_
          rintro e wy2 ⟨rfl, hb⟩
          replace HM := Lib.hid (show Lows w [blkL P76 29 fl5, blkL P17 42 (prefC sa sb), blkL P64 42 fl4, blkL P15 29 y.cells, blkL P14 42 (prefC ra (qb : Int)), blkL P13 29 x.cells, blkL P12 42 (prefC qa (qb : Int)), blkL (w.heap.size + 1 + 1) 29 b.cells, blkL (w.heap.size + 1) 29 a.cells, blkL w.heap.size 42 (prefC a0 b0)] wy2 from HM.out.below hb)
          clear hb
          go_wp2_with fail
          refine hK.out _ _ (HM.out) (fun hHeld => ?_)
          clear hK K
          (try simp only [Act.put, List.setIfInBounds_toArray, List.set_cons_zero, List.set_cons_succ])
          refine step_one 3 rfl (by kernel_rfl) (fun K hK => ?_)
          clear hHeld
          go_simp
          refine (VR.out _).mono ?_
          rintro e wy3 ⟨rfl, hb⟩
          replace HM := Lib.hid (show Lows w [blkL P76 29 fl5, blkL P17 42 (prefC sa sb), blkL P64 42 fl4, blkL P15 29 y.cells, blkL P14 42 (prefC ra (qb : Int)), blkL P13 29 x.cells, blkL P12 42 (prefC qa (qb : Int)), blkL (w.heap.size + 1 + 1) 29 b.cells, blkL (w.heap.size + 1) 29 a.cells, blkL w.heap.size 42 (prefC a0 b0)] wy3 from HM.out.below hb)
          clear hb
          go_wp2_with fail
          refine hK.out _ _ (HM.out) (fun hHeld => ?_)
          clear hK K
          (try simp only [Act.put, List.setIfInBounds_toArray, List.set_cons_zero, List.set_cons_succ])
          refine take_first (v := ?_) 4 rfl (by kernel_rfl) (by kernel_rfl) (by kernel_rfl) (fun _ _ _ h => h) (Or.inl ⟨by rfl, ?_⟩) (by assumption) ?_
          rotate_left
          · (intro w hSw; (try dsimp only at hSw); go_simp; try with_reducible rfl)
          (try simp only [Act.put, List.setIfInBounds_toArray, List.set_cons_zero, List.set_cons_succ])
          refine wpAnyH_done (by kernel_rfl) ?_ _
          have HB5 := Lib.hid (show Lows w [blkL P64 42 fl4, blkL P15 29 y.cells, blkL P14 42 (prefC ra (qb : Int)), blkL P13 29 x.cells, blkL P12 42 (prefC qa (qb : Int)), blkL (w.heap.size + 1 + 1) 29 b.cells, blkL (w.heap.size + 1) 29 a.cells, blkL w.heap.size 42 (prefC a0 b0)] wy3 from (HM.out.tail 0).tail 0)
          clear hHeld HM
          have hkk := HKK.out
          go_wp2_with fail
          go_roundw
          case rel => exact ⟨k + 1, by omega, by go_num, HB5.out⟩
          case measure => simp [intOf]; omega
    · obtain rfl : k = 4 := by omega
      have dk : decide ((4 : Int) < 4) = false := by simp
      go_upto_region 19 with fail
      clear hk hk4 dk
      have LP := Lib.hid (HLC.out a b HOP.out.2.2.1 HOP.out.2.2.2)
      have LR := Lib.hid (refLess_any a b HOP.out.2.2.1 HOP.out.2.2.2)
      have LP2 := Lib.hid (HLC.out x y (HOQ.out.2) HOY.out)
      have LR2 := Lib.hid (refLess_any x y (HOQ.out.2) HOY.out)
      have LP3 := Lib.hid (HLC.out a a HOP.out.2.2.1 HOP.out.2.2.1)
      rw [HCA.out, HCB.out] at LP LR
      rw [HCX.out, HCY.out] at LP2 LR2
      rw [HCA.out, lessM_self] at LP3
      generalize lessM a b = l1 at LP LR
      generalize lessM x y = l2 at LP2 LR2
      refine wp_region_held_drew (S := fun W' => Lows w [blkL P64 42 fl4, blkL P15 29 y.cells, blkL P14 42 (prefC ra (qb : Int)), blkL P13 29 x.cells, blkL P12 42 (prefC qa (qb : Int)), blkL (w.heap.size + 1 + 1) 29 b.cells, blkL (w.heap.size + 1) 29 a.cells, blkL w.heap.size 42 (prefC a0 b0)] W') (by kernel_rfl) (HM.out.drew) (fun hHeld => ?_)
      replace HM := Lib.hid HM.out.drew
      generalize wr.drew = wd1 at HM hHeld ⊢
      refine take_first (v := .agg ca) 0 rfl (by kernel_rfl) (by kernel_rfl) (by kernel_rfl) (fun _ _ _ h => h) (by rw [← HCA.out]; exact yields_load_obj (by rfl) 29 (.tmp 6) rfl (w.heap.size + 1) 0 rfl a.cells (fun w' hb => (Lows.blk hb 6 rfl).all) _ Try.underlying29 rfl (addr_cellsOf a HOP.out.2.2.1)) (by assumption) ?_
      (try simp only [Act.put, List.setIfInBounds_toArray, List.set_cons_zero, List.set_cons_succ])
      refine take_first (v := .agg cb) 1 rfl (by kernel_rfl) (by kernel_rfl) (by kernel_rfl) (fun _ _ _ h => h) (by rw [← HCB.out]; exact yields_load_obj (by rfl) 29 (.tmp 7) rfl (w.heap.size + 1 + 1) 0 rfl b.cells (fun w' hb => (Lows.blk hb 5 rfl).all) _ Try.underlying29 rfl (addr_cellsOf b HOP.out.2.2.2)) (by assumption) ?_
      (try simp only [Act.put, List.setIfInBounds_toArray, List.set_cons_zero, List.set_cons_succ])
      refine take_first (v := .agg ca) 3 rfl (by kernel_rfl) (by kernel_rfl) (by kernel_rfl) (fun _ _ _ h => h) (by rw [← HCA.out]; exact yields_load_obj (by rfl) 29 (.tmp 6) rfl (w.heap.size + 1) 0 rfl a.cells (fun w' hb => (Lows.blk hb 6 rfl).all) _ Try.underlying29 rfl (addr_cellsOf a HOP.out.2.2.1)) (by assumption) ?_
      (try simp only [Act.put, List.setIfInBounds_toArray, List.set_cons_zero, List.set_cons_succ])
      refine take_first (v := .agg cb) 4 rfl (by kernel_rfl) (by kernel_rfl) (by kernel_rfl) (fun _ _ _ h => h) (by rw [← HCB.out]; exact yields_load_obj (by rfl) 29 (.tmp 7) rfl (w.heap.size + 1 + 1) 0 rfl b.cells (fun w' hb => (Lows.blk hb 5 rfl).all) _ Try.underlying29 rfl (addr_cellsOf b HOP.out.2.2.2)) (by assumption) ?_
      (try simp only [Act.put, List.setIfInBounds_toArray, List.set_cons_zero, List.set_cons_succ])
      refine step_one 2 rfl (by kernel_rfl) (fun K hK => ?_)
      clear hHeld
      go_simp
      refine (LP.out _).mono ?_
      rintro e wy2 ⟨rfl, hb⟩
      replace HM := Lib.hid (show Lows w [blkL P64 42 fl4, blkL P15 29 y.cells, blkL P14 42 (prefC ra (qb : Int)), blkL P13 29 x.cells, blkL P12 42 (prefC qa (qb : Int)), blkL (w.heap.size + 1 + 1) 29 b.cells, blkL (w.heap.size + 1) 29 a.cells, blkL w.heap.size 42 (prefC a0 b0)] wy2 from HM.out.below hb)
      clear hb
      go_wp2_with fail
      refine hK.out _ _ (HM.out) (fun hHeld => ?_)
      clear hK K
      (try simp only [Act.put, List.setIfInBounds_toArray, List.set_cons_zero, List.set_cons_succ])
      refine step_one 5 rfl (by kernel_rfl) (fun K hK => ?_)
      clear hHeld
      go_simp
      refine (LR.out _).mono ?_
      rintro e wy3 ⟨rfl, hb⟩
      replace HM := Lib.hid (show Lows w [blkL P64 42 fl4, blkL P15 29 y.cells, blkL P14 42 (prefC ra (qb : Int)), blkL P13 29 x.cells, blkL P12 42 (prefC qa (qb : Int)), blkL (w.heap.size + 1 + 1) 29 b.cells, blkL (w.heap.size + 1) 29 a.cells, blkL w.heap.size 42 (prefC a0 b0)] wy3 from HM.out.below hb)
      clear hb
      go_wp2_with fail
      refine hK.out _ _ (HM.out) (fun hHeld => ?_)
      clear hK K
      (try simp only [Act.put, List.setIfInBounds_toArray, List.set_cons_zero, List.set_cons_succ])
      refine take_first (v := ?_) 6 rfl (by kernel_rfl) (by kernel_rfl) (by kernel_rfl) (fun _ _ _ h => h) (Or.inl ⟨by rfl, ?_⟩) (by assumption) ?_
      rotate_left
      · (intro w hSw; (try dsimp only at hSw); go_simp; try with_reducible rfl)
      (try simp only [Act.put, List.setIfInBounds_toArray, List.set_cons_zero, List.set_cons_succ])
      refine take_first (v := ?_) 7 rfl (by kernel_rfl) (by kernel_rfl) (by kernel_rfl) (fun _ _ _ h => h) (Or.inl ⟨by rfl, ?_⟩) (by assumption) ?_
      rotate_left
      · (intro w hSw; (try dsimp only at hSw); go_simp; try with_reducible rfl)
      (try simp only [Act.put, List.setIfInBounds_toArray, List.set_cons_zero, List.set_cons_succ])
      refine take_first (v := .agg cx) 8 rfl (by kernel_rfl) (by kernel_rfl) (by kernel_rfl) (fun _ _ _ h => h) (by rw [← HCX.out]; exact yields_load_obj (by rfl) 29 (.tmp 13) rfl P13 0 rfl x.cells (fun w' hb => (Lows.blk hb 3 rfl).all) _ Try.underlying29 rfl (addr_cellsOf x (HOQ.out.2))) (by assumption) ?_
      (try simp only [Act.put, List.setIfInBounds_toArray, List.set_cons_zero, List.set_cons_succ])
      refine take_first (v := .agg cy) 9 rfl (by kernel_rfl) (by kernel_rfl) (by kernel_rfl) (fun _ _ _ h => h) (by rw [← HCY.out]; exact yields_load_obj (by rfl) 29 (.tmp 15) rfl P15 0 rfl y.cells (fun w' hb => (Lows.blk hb 1 rfl).all) _ Try.underlying29 rfl (addr_cellsOf y HOY.out)) (by assumption) ?_
      (try simp only [Act.put, List.setIfInBounds_toArray, List.set_cons_zero, List.set_cons_succ])
      refine take_first (v := .agg cx) 11 rfl (by kernel_rfl) (by kernel_rfl) (by kernel_rfl) (fun _ _ _ h => h) (by rw [← HCX.out]; exact yields_load_obj (by rfl) 29 (.tmp 13) rfl P13 0 rfl x.cells (fun w' hb => (Lows.blk hb 3 rfl).all) _ Try.underlying29 rfl (addr_cellsOf x (HOQ.out.2))) (by assumption) ?_
      (try simp only [Act.put, List.setIfInBounds_toArray, List.set_cons_zero, List.set_cons_succ])
      refine take_first (v := .agg cy) 12 rfl (by kernel_rfl) (by kernel_rfl) (by kernel_rfl) (fun _ _ _ h => h) (by rw [← HCY.out]; exact yields_load_obj (by rfl) 29 (.tmp 15) rfl P15 0 rfl y.cells (fun w' hb => (Lows.blk hb 1 rfl).all) _ Try.underlying29 rfl (addr_cellsOf y HOY.out)) (by assumption) ?_
      (try simp only [Act.put, List.setIfInBounds_toArray, List.set_cons_zero, List.set_cons_succ])
      refine step_one 10 rfl (by kernel_rfl) (fun K hK => ?_)
      clear hHeld
      go_simp
      refine (LP2.out _).mono ?_
      rintro e wy4 ⟨rfl, hb⟩
      replace HM := Lib.hid (show Lows w [blkL P64 42 fl4, blkL P15 29 y.cells, blkL P14 42 (prefC ra (qb : Int)), blkL P13 29 x.cells, blkL P12 42 (prefC qa (qb : Int)), blkL (w.heap.size + 1 + 1) 29 b.cells, blkL (w.heap.size + 1) 29 a.cells, blkL w.heap.size 42 (prefC a0 b0)] wy4 from HM.out.below hb)
      clear hb
      go_wp2_with fail
      refine hK.out _ _ (HM.out) (fun hHeld => ?_)
      clear hK K
      (try simp only [Act.put, List.setIfInBounds_toArray, List.set_cons_zero, List.set_cons_succ])
      refine step_one 13 rfl (by kernel_rfl) (fun K hK => ?_)
      clear hHeld
      go_simp
      refine (LR2.out _).mono ?_
      rintro e wy5 ⟨rfl, hb⟩
      replace HM := Lib.hid (show Lows w [blkL P64 42 fl4, blkL P15 29 y.cells, blkL P14 42 (prefC ra (qb : Int)), blkL P13 29 x.cells, blkL P12 42 (prefC qa (qb : Int)), blkL (w.heap.size + 1 + 1) 29 b.cells, blkL (w.heap.size + 1) 29 a.cells, blkL w.heap.size 42 (prefC a0 b0)] wy5 from HM.out.below hb)
      clear hb
      go_wp2_with fail
      refine hK.out _ _ (HM.out) (fun hHeld => ?_)
      clear hK K
      (try simp only [Act.put, List.setIfInBounds_toArray, List.set_cons_zero, List.set_cons_succ])
      refine take_first (v := ?_) 14 rfl (by kernel_rfl) (by kernel_rfl) (by kernel_rfl) (fun _ _ _ h => h) (Or.inl ⟨by rfl, ?_⟩) (by assumption) ?_
      rotate_left
      · (intro w hSw; (try dsimp only at hSw); go_simp; try with_reducible rfl)
      (try simp only [Act.put, List.setIfInBounds_toArray, List.set_cons_zero, List.set_cons_succ])
      refine take_first (v := ?_) 15 rfl (by kernel_rfl) (by kernel_rfl) (by kernel_rfl) (fun _ _ _ h => h) (Or.inl ⟨by rfl, ?_⟩) (by assumption) ?_
      rotate_left
      · (intro w hSw; (try dsimp only at hSw); go_simp; try with_reducible rfl)
      (try simp only [Act.put, List.setIfInBounds_toArray, List.set_cons_zero, List.set_cons_succ])
      refine take_first (v := ?_) 16 rfl (by kernel_rfl) (by kernel_rfl) (by kernel_rfl) (fun _ _ _ h => h) (Or.inl ⟨by rfl, ?_⟩) (by assumption) ?_
      rotate_left
      · (intro w hSw; (try dsimp only at hSw); go_simp; try with_reducible rfl)
      (try simp only [Act.put, List.setIfInBounds_toArray, List.set_cons_zero, List.set_cons_succ])
      refine take_first (v := .agg ca) 17 rfl (by kernel_rfl) (by kernel_rfl) (by kernel_rfl) (fun _ _ _ h => h) (by rw [← HCA.out]; exact yields_load_obj (by rfl) 29 (.tmp 6) rfl (w.heap.size + 1) 0 rfl a.cells (fun w' hb => (Lows.blk hb 6 rfl).all) _ Try.underlying29 rfl (addr_cellsOf a HOP.out.2.2.1)) (by assumption) ?_
      (try simp only [Act.put, List.setIfInBounds_toArray, List.set_cons_zero, List.set_cons_succ])
      refine take_first (v := .agg ca) 18 rfl (by kernel_rfl) (by kernel_rfl) (by kernel_rfl) (fun _ _ _ h => h) (by rw [← HCA.out]; exact yields_load_obj (by rfl) 29 (.tmp 6) rfl (w.heap.size + 1) 0 rfl a.cells (fun w' hb => (Lows.blk hb 6 rfl).all) _ Try.underlying29 rfl (addr_cellsOf a HOP.out.2.2.1)) (by assumption) ?_
      (try simp only [Act.put, List.setIfInBounds_toArray, List.set_cons_zero, List.set_cons_succ])
      refine step_one 19 rfl (by kernel_rfl) (fun K hK => ?_)
      clear hHeld
      go_simp
      refine (LP3.out _).mono ?_
      rintro e wy6 ⟨rfl, hb⟩
      replace HM := Lib.hid (show Lows w [blkL P64 42 fl4, blkL P15 29 y.cells, blkL P14 42 (prefC ra (qb : Int)), blkL P13 29 x.cells, blkL P12 42 (prefC qa (qb : Int)), blkL (w.heap.size + 1 + 1) 29 b.cells, blkL (w.heap.size + 1) 29 a.cells, blkL w.heap.size 42 (prefC a0 b0)] wy6 from HM.out.below hb)
      clear hb
      go_wp2_with fail
      refine hK.out _ _ (HM.out) (fun hHeld => ?_)
      clear hK K
      (try simp only [Act.put, List.setIfInBounds_toArray, List.set_cons_zero, List.set_cons_succ])
      refine take_first (v := ?_) 20 rfl (by kernel_rfl) (by kernel_rfl) (by kernel_rfl) (fun _ _ _ h => h) (Or.inl ⟨by rfl, ?_⟩) (by assumption) ?_
      rotate_left
      · (intro w hSw; (try dsimp only at hSw); go_simp; try with_reducible rfl)
      (try simp only [Act.put, List.setIfInBounds_toArray, List.set_cons_zero, List.set_cons_succ])
      refine take_first (v := ?_) 21 rfl (by kernel_rfl) (by kernel_rfl) (by kernel_rfl) (fun _ _ _ h => h) (Or.inl ⟨by rfl, ?_⟩) (by assumption) ?_
      rotate_left
      · (intro w hSw; (try dsimp only at hSw); go_simp; try with_reducible rfl)
      (try simp only [Act.put, List.setIfInBounds_toArray, List.set_cons_zero, List.set_cons_succ])
      refine take_first (v := ?_) 22 rfl (by kernel_rfl) (by kernel_rfl) (by kernel_rfl) (fun _ _ _ h => h) (Or.inl ⟨by rfl, ?_⟩) (by assumption) ?_
      rotate_left
      · (intro w hSw; (try dsimp only at hSw); go_simp; try with_reducible rfl)
      (try simp only [Act.put, List.setIfInBounds_toArray, List.set_cons_zero, List.set_cons_succ])
      refine step_one 23 rfl (by kernel_rfl) (fun K hK => ?_)
      clear hHeld
      go_simp
      refine (HBG.out _).mono ?_
      rintro e wy7 ⟨rfl, hb⟩
      replace HM := Lib.hid (show Lows w [blkL P64 42 fl4, blkL P15 29 y.cells, blkL P14 42 (prefC ra (qb : Int)), blkL P13 29 x.cells, blkL P12 42 (prefC qa (qb : Int)), blkL (w.heap.size + 1 + 1) 29 b.cells, blkL (w.heap.size + 1) 29 a.cells, blkL w.heap.size 42 (prefC a0 b0)] wy7 from HM.out.below hb)
      clear hb
      go_wp2_with fail
      refine hK.out _ _ (HM.out) (fun hHeld => ?_)
      clear hK K
      (try simp only [Act.put, List.setIfInBounds_toArray, List.set_cons_zero, List.set_cons_succ])
      refine take_first (v := ?_) 24 rfl (by kernel_rfl) (by kernel_rfl) (by kernel_rfl) (fun _ _ _ h => h) (Or.inl ⟨by rfl, ?_⟩) (by assumption) ?_
      rotate_left
      · (intro w hSw; (try dsimp only at hSw); go_simp; try with_reducible rfl)
      (try simp only [Act.put, List.setIfInBounds_toArray, List.set_cons_zero, List.set_cons_succ])
      refine take_first (v := ?_) 25 rfl (by kernel_rfl) (by kernel_rfl) (by kernel_rfl) (fun _ _ _ h => h) (Or.inl ⟨by rfl, ?_⟩) (by assumption) ?_
      rotate_left
      · (intro w hSw; (try dsimp only at hSw); go_simp; try with_reducible rfl)
      (try simp only [Act.put, List.setIfInBounds_toArray, List.set_cons_zero, List.set_cons_succ])
      refine wpAnyH_done (by kernel_rfl) ?_ _
      have HB5 := Lib.hid HM.out.bel
      clear hHeld HM
      go_wp2_with fail
      go_ret
      exact ⟨rfl, HB5.out⟩
end Go.Proofs.Ytdpdalkeafkhkaa
