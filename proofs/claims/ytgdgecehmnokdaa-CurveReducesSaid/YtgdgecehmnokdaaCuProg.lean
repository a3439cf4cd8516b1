/-
  The contracts of the program's Clamp, Mul, Public and Share. No statement is proved here.
-/
import Derived.Test.YtgdgecehmnokdaaCoEqual
import Derived.Test.YtgdgecehmnokdaaCuC
import Derived.Test.YtgdgecehmnokdaaCvBytes
import Derived.Test.YtgdgecehmnokdaaCvStep
namespace Go.Proofs.Ytgdgecehmnokdaa
open Go.RowKit Cv

theorem len32 {l : List UInt8} (h : l.length = 32) {cs : List Value} (hc : cs.length = 32) : cs.length = (l.map u8v).length := by rw [List.length_map, h, hc]
theorem andNot_bytes : (∀ n : Fin 256, bits BinOp.andNot IntKind.u8 (n.val : Int) 7 = ((n.val &&& 248 : Nat) : Int)) ∧ ∀ n : Fin 256, bits BinOp.andNot IntKind.u8 (n.val : Int) 128 = ((n.val &&& 127 : Nat) : Int) := by decide +kernel
theorem andNot_low (x : UInt8) : bits BinOp.andNot IntKind.u8 (x.toNat : Int) 7 = ((x &&& 248).toNat : Int) := by
  rw [UInt8.toNat_and]
  exact andNot_bytes.1 ⟨x.toNat, x.toNat_lt⟩
theorem andNot_high (x : UInt8) : bits BinOp.andNot IntKind.u8 (x.toNat : Int) 128 = ((x &&& 127).toNat : Int) := by
  rw [UInt8.toNat_and]
  exact andNot_bytes.2 ⟨x.toNat, x.toNat_lt⟩

set_option maxRecDepth 100000 in
theorem cuClampC : CuClampC := by
  intro k hk w
  obtain ⟨ck, hck⟩ : ∃ c, (k.map u8v).toArray = c := ⟨_, rfl⟩
  rw [hck]
  have HM := Lib.hid (show Mem w [blkE (w.heap.size + 1) 23 (aeZ 32), blkE w.heap.size 23 (k.map u8v)] ((w.alloc (.cells ck 23)).alloc (.cells #[.int .u8 0, .int .u8 0, .int .u8 0, .int .u8 0, .int .u8 0, .int .u8 0, .int .u8 0, .int .u8 0, .int .u8 0, .int .u8 0, .int .u8 0, .int .u8 0, .int .u8 0, .int .u8 0, .int .u8 0, .int .u8 0, .int .u8 0, .int .u8 0, .int .u8 0, .int .u8 0, .int .u8 0, .int .u8 0, .int .u8 0, .int .u8 0, .int .u8 0, .int .u8 0, .int .u8 0, .int .u8 0, .int .u8 0, .int .u8 0, .int .u8 0, .int .u8 0] 23)) from ((Mem.nil w).alloc rfl 23 ck (k.map u8v) hck.symm).alloc (by simp) 23 #[.int .u8 0, .int .u8 0, .int .u8 0, .int .u8 0, .int .u8 0, .int .u8 0, .int .u8 0, .int .u8 0, .int .u8 0, .int .u8 0, .int .u8 0, .int .u8 0, .int .u8 0, .int .u8 0, .int .u8 0, .int .u8 0, .int .u8 0, .int .u8 0, .int .u8 0, .int .u8 0, .int .u8 0, .int .u8 0, .int .u8 0, .int .u8 0, .int .u8 0, .int .u8 0, .int .u8 0, .int .u8 0, .int .u8 0, .int .u8 0, .int .u8 0, .int .u8 0] (aeZ 32) rfl)
  have HL := Lib.hid hk
  have HC := Lib.hid hck
  clear hck hk
  go_enter Try.func14, Try.ntmps14
  go_upto_region 1 with fail
  generalize ((w.alloc (.cells ck 23)).alloc (.cells #[.int .u8 0, .int .u8 0, .int .u8 0, .int .u8 0, .int .u8 0, .int .u8 0, .int .u8 0, .int .u8 0, .int .u8 0, .int .u8 0, .int .u8 0, .int .u8 0, .int .u8 0, .int .u8 0, .int .u8 0, .int .u8 0, .int .u8 0, .int .u8 0, .int .u8 0, .int .u8 0, .int .u8 0, .int .u8 0, .int .u8 0, .int .u8 0, .int .u8 0, .int .u8 0, .int .u8 0, .int .u8 0, .int .u8 0, .int .u8 0, .int .u8 0, .int .u8 0] 23)) = w1 at HM ⊢
  have HA := Lib.hid (show Mem w [blkE w1.heap.size 23 (aeZ 32), blkE (w.heap.size + 1) 23 (aeZ 32), blkE w.heap.size 23 (k.map u8v)] (w1.alloc (.cells #[.int .u8 0, .int .u8 0, .int .u8 0, .int .u8 0, .int .u8 0, .int .u8 0, .int .u8 0, .int .u8 0, .int .u8 0, .int .u8 0, .int .u8 0, .int .u8 0, .int .u8 0, .int .u8 0, .int .u8 0, .int .u8 0, .int .u8 0, .int .u8 0, .int .u8 0, .int .u8 0, .int .u8 0, .int .u8 0, .int .u8 0, .int .u8 0, .int .u8 0, .int .u8 0, .int .u8 0, .int .u8 0, .int .u8 0, .int .u8 0, .int .u8 0, .int .u8 0] 23)) from HM.out.alloc rfl 23 #[.int .u8 0, .int .u8 0, .int .u8 0, .int .u8 0, .int .u8 0, .int .u8 0, .int .u8 0, .int .u8 0, .int .u8 0, .int .u8 0, .int .u8 0, .int .u8 0, .int .u8 0, .int .u8 0, .int .u8 0, .int .u8 0, .int .u8 0, .int .u8 0, .int .u8 0, .int .u8 0, .int .u8 0, .int .u8 0, .int .u8 0, .int .u8 0, .int .u8 0, .int .u8 0, .int .u8 0, .int .u8 0, .int .u8 0, .int .u8 0, .int .u8 0, .int .u8 0] (aeZ 32) rfl)
  go_upto_region 2 with (first | (refine wpList_load_blk rfl 23 (.tmp 1) rfl w.heap.size rfl 23 (k.map u8v) (HM.out.blk 1 rfl) 32 5 Try.underlying23 (cells32 k (HL.out)) ?_; rw [HC.out]) | (refine wpList_store_blk rfl 23 (.tmp 3) (.tmp 4) rfl w1.heap.size (k.map u8v) rfl (by show Value.agg ck = _; rw [HC.out]) 23 (aeZ 32) (HA.out.blk 0 rfl) (cells32 k (HL.out)) (len32 (HL.out) (rfl)) (u8v_one _) ?_; intro w2 hb9 hg9))
  (try simp only [Act.put])
  replace HM := Lib.hid (show Mem w [blkE w1.heap.size 23 (k.map u8v), blkE (w.heap.size + 1) 23 (aeZ 32)] w2 from (HA.out.put 0 rfl _ hg9 hb9).erase 2)
  clear HA hb9 hg9
  generalize w1.heap.size = G at HM ⊢
  have fx := (HM.out.blk 0 rfl).byt 0 (by rw [HL.out]; omega)
  have zx := (HM.out.blk 0 rfl).frozen 0
  obtain ⟨x, hx⟩ : ∃ x, k.getD 0 0 = x := ⟨_, rfl⟩
  rw [hx] at fx
  have ha := andNot_low x
  have HN := Lib.hid (show Mem w [blkE G 23 ((k.set 0 (x &&& 248)).map u8v), blkE (w.heap.size + 1) 23 (aeZ 32)] (w2.setCell ⟨G, 0, none⟩ (.int .u8 ((x &&& 248).toNat : Int))) from by have h := HM.out.setCell 0 rfl 0 (u8v (x &&& 248)); rw [← List.map_set] at h; exact h)
  generalize hm : x &&& 248 = m at *
  go_upto_region 3 with fail
  clear fx zx ha HM
  generalize w2.setCell ⟨G, 0, none⟩ (.int .u8 (m.toNat : Int)) = w3 at HN ⊢
  have fx := (HN.out.blk 0 rfl).byt 31 (by rw [List.length_set, HL.out]; omega)
  have zx := (HN.out.blk 0 rfl).frozen 31
  have e31 : (k.set 0 m).getD 31 0 = k.getD 31 0 := by rw [List.getD_eq_getElem?_getD, List.getElem?_set_ne (by omega), ← List.getD_eq_getElem?_getD]
  rw [e31] at fx
  obtain ⟨y, hy⟩ : ∃ x, k.getD 31 0 = x := ⟨_, rfl⟩
  rw [hy] at fx
  have ha := andNot_high y
  have HP := Lib.hid (show Mem w [blkE G 23 (((k.set 0 m).set 31 (y &&& 127)).map u8v), blkE (w.heap.size + 1) 23 (aeZ 32)] (w3.setCell ⟨G, 31, none⟩ (.int .u8 ((y &&& 127).toNat : Int))) from by have h := HN.out.setCell 0 rfl 31 (u8v (y &&& 127)); rw [← List.map_set] at h; exact h)
  have ho := u8_or_lit (y &&& 127) 64
  rw [show ((64 : UInt8).toNat : Int) = 64 from rfl] at ho
  have hcl : (k.set 0 m).set 31 (y &&& 127 ||| 64) = clampL k := by rw [clampL, hx, hy, hm]
  clear HN e31 hx hy hm
  generalize y &&& 127 = n at *
  have HO := Lib.hid ho
  clear ho
  go_upto_region 4 with fail
  clear fx zx ha
  generalize w3.setCell ⟨G, 31, none⟩ (.int .u8 (n.toNat : Int)) = w4 at HP ⊢
  have fx := (HP.out.blk 0 rfl).byt 31 (by rw [List.length_set, List.length_set, HL.out]; omega)
  have zx := (HP.out.blk 0 rfl).frozen 31
  rw [show ((k.set 0 m).set 31 n).getD 31 0 = n by rw [List.getD_eq_getElem?_getD, List.getElem?_set_self (by rw [List.length_set, HL.out]; omega)]; rfl] at fx
  have ho := HO.out
  generalize n ||| 64 = o at *
  have HQ := Lib.hid (show Mem w [blkE G 23 ((clampL k).map u8v), blkE (w.heap.size + 1) 23 (aeZ 32)] (w4.setCell ⟨G, 31, none⟩ (.int .u8 (o.toNat : Int))) from by have h := HP.out.setCell 0 rfl 31 (u8v o); rw [← List.map_set, List.set_set, hcl] at h; exact h)
  clear HP hcl HO
  go_upto_region 5 with fail
  clear fx zx ho
  generalize w4.setCell ⟨G, 31, none⟩ (.int .u8 (o.toNat : Int)) = w5 at HQ ⊢
  have HLz := Lib.hid (show (clampL k).length = 32 by rw [clampL_length]; exact HL.out)
  obtain ⟨lz, hlz⟩ : ∃ z, clampL k = z := ⟨_, rfl⟩
  rw [hlz] at HQ HLz
  have HSZ := Lib.hid hlz
  obtain ⟨cz, hcz⟩ : ∃ c, (lz.map u8v).toArray = c := ⟨_, rfl⟩
  have HCZ := Lib.hid hcz
  clear hcz hlz
  go_wp2_with (first | (refine wpList_load_blk rfl 23 (.tmp 3) rfl G rfl 23 (lz.map u8v) (HQ.out.blk 0 rfl) 32 5 Try.underlying23 (cells32 lz (HLz.out)) ?_; rw [HCZ.out]) | (refine wpList_store_blk rfl 23 (.tmp 2) (.tmp 17) rfl (w.heap.size + 1) (lz.map u8v) rfl (by show Value.agg cz = _; rw [HCZ.out]) 23 (aeZ 32) (HQ.out.blk 1 rfl) (cells32 lz (HLz.out)) (len32 (HLz.out) (rfl)) (u8v_one _) ?_; intro w9 hb9 hg9))
  exact bodyPost_ret (results_blk rfl _ _ (w.heap.size + 1) 23 (lz.map u8v) 32 5 rfl hb9 Try.underlying23 (cells32 lz HLz.out)) rfl ⟨by rw [HSZ.out], (HQ.out.put 1 rfl _ hg9 hb9).bel⟩

theorem clamp_last (k : List UInt8) (h : k.length = 32) : bitAt (clampL k) 0 = false := by
  have h0 : (clampL k).getD (0 / 8) 0 = k.getD 0 0 &&& 248 := by
    cases k with
    | nil => simp at h
    | cons a r => simp [clampL]
  unfold bitAt
  rw [h0]
  have hf : ∀ n : Fin 256, ((n.val &&& 248) / 2 ^ (0 % 8) % 2 == 1) = false := by decide +kernel
  rw [UInt8.toNat_and]
  exact hf ⟨(k.getD 0 0).toNat, (k.getD 0 0).toNat_lt⟩
def oneN : List Nat := [1, 0, 0, 0, 0]
def zeroN : List Nat := List.replicate 5 0
theorem oneN_built : Try.prog.built 51 [(0, .int .u64 1)] = some (oneN.map uv).toArray := by kernel_rfl
theorem oneN_small : SmallN oneN := ⟨rfl, by decide, fun i hi => by
  by_cases h : i < 5
  · have hi : i = 1 ∨ i = 2 ∨ i = 3 ∨ i = 4 := by omega
    rcases hi with rfl | rfl | rfl | rfl <;> decide
  · rw [dg_high _ _ (by simp [oneN]; omega)]; omega⟩
theorem zeroN_small : SmallN zeroN := ⟨rfl, by decide, fun i hi => by
  by_cases h : i < 5
  · have hi : i = 1 ∨ i = 2 ∨ i = 3 ∨ i = 4 := by omega
    rcases hi with rfl | rfl | rfl | rfl <;> decide
  · rw [dg_high _ _ (by simp [zeroN]; omega)]; omega⟩
theorem oneN_val : Cu.fq (val oneN : Int) = 1 := by decide +kernel
theorem zeroN_val : Cu.fq (val zeroN : Int) = 0 := by decide +kernel
theorem swap1_xor (a b : Bool) : bits BinOp.xor IntKind.u64 (swap1 a : Int) (swap1 b : Int) = (swap1 (a != b) : Int) := by cases a <;> cases b <;> rfl
theorem swL_small (s : Bool) (a c : List Nat) (ha : SmallN a) (hc : SmallN c) : SmallN (swL s a c) := by cases s <;> assumption
theorem ite_ne {α : Type} (bit b : Bool) (X Y : α) : (if (bit != b) = true then X else Y) = if bit ≠ b then X else Y := by cases bit <;> cases b <;> rfl
theorem swL_lad (sb : Bool) (x2 z2 x3 z3 : List Nat) : LadN (swL sb x2 x3) (swL sb z2 z3) (swL sb x3 x2) (swL sb z3 z2) = if sb = true then Cu.ladSwap (LadN x2 z2 x3 z3) else LadN x2 z2 x3 z3 := by cases sb <;> rfl
theorem lad_round (c u : Cu.Fq) (bit b : Bool) (x2 z2 x3 z3 p q r t : List Nat) (h : LadN p q r t = Cu.ladStep c u (LadN (swL (bit != b) x2 x3) (swL (bit != b) z2 z3) (swL (bit != b) x3 x2) (swL (bit != b) z3 z2))) :
    LadS bit (LadN p q r t) = Cu.ladBit c u (LadS b (LadN x2 z2 x3 z3)) bit := by
  rw [h, swL_lad, ite_ne]
  exact ladS_step c u b bit _
theorem step_load_rung {w : World} {ops : Array Oper} {o : Oper} {a : Act} {K : Act → World → Prop} {Q : Exit → Act → World → Prop} {E : Prop} (hgd : o.guard = none) (x : Operand) (ho : o.op = .load 54 x)
    (g : Nat) (hx : a.eval x = .pointer (some ⟨g, 0, none⟩)) (t : TypeId) (cs : List Value) (hg : Blk w g t cs) (hi : (Try.prog.info? 54).map (·.size) = some cs.length)
    (h : K (a.put o.dst (.agg cs.toArray)) w) : if Region.wanted o (yielded ops a.tmps) = true then Oper.wp Try.prog o a w K Q else E := by
  have hw : Region.wanted o (yielded ops a.tmps) = true := by simp [Region.wanted, hgd]
  rw [if_pos hw]
  exact wp_load_row 54 x ho g hx t cs.toArray (0, 0) _ hg Try.underlying54 rfl (by simpa using hi) h

set_option maxRecDepth 100000 in
set_option maxHeartbeats 8000000 in
theorem cuMulC : CuMulC := by
  intro k u hk hu w
  have CC := fun W : World => cuClampC k hk W
  have CR := fun W : World => numberOf_any u hu W
  have hcl : (clampL k).length = 32 := by rw [clampL_length]; exact hk
  have hb0 := clamp_last k hk
  have hx1 := nofL_small u
  have hv1 := nofL_val u hu
  have hmul : mulL k u = fqB (Cu.ladU Cu.fqC (Cu.fq (val (nofL u) : Int)) (bitsOf (clampL k))) := by rw [mulL, hv1]
  rw [hmul]
  clear hmul hv1
  generalize clampL k = cl at CC hcl hb0 ⊢
  generalize nofL u = x1 at CR hx1 ⊢
  obtain ⟨ck, hck⟩ : ∃ c, (k.map u8v).toArray = c := ⟨_, rfl⟩
  obtain ⟨cu, hcu⟩ : ∃ c, (u.map u8v).toArray = c := ⟨_, rfl⟩
  obtain ⟨ccl, hccl⟩ : ∃ c, (cl.map u8v).toArray = c := ⟨_, rfl⟩
  obtain ⟨cx1, hcx1⟩ : ∃ c, (x1.map uv).toArray = c := ⟨_, rfl⟩
  rw [hck, hccl] at CC
  rw [hcu, hcx1] at CR
  rw [hck, hcu]
  have HM := Lib.hid (show Mem w [blkE (w.heap.size + 1 + 1) 23 (aeZ 32), blkE (w.heap.size + 1) 23 (u.map u8v), blkE w.heap.size 23 (k.map u8v)] (((w.alloc (.cells ck 23)).alloc (.cells cu 23)).alloc (.cells #[.int .u8 0, .int .u8 0, .int .u8 0, .int .u8 0, .int .u8 0, .int .u8 0, .int .u8 0, .int .u8 0, .int .u8 0, .int .u8 0, .int .u8 0, .int .u8 0, .int .u8 0, .int .u8 0, .int .u8 0, .int .u8 0, .int .u8 0, .int .u8 0, .int .u8 0, .int .u8 0, .int .u8 0, .int .u8 0, .int .u8 0, .int .u8 0, .int .u8 0, .int .u8 0, .int .u8 0, .int .u8 0, .int .u8 0, .int .u8 0, .int .u8 0, .int .u8 0] 23)) from (((Mem.nil w).alloc rfl 23 ck (k.map u8v) hck.symm).alloc (by simp) 23 cu (u.map u8v) hcu.symm).alloc (by simp) 23 #[.int .u8 0, .int .u8 0, .int .u8 0, .int .u8 0, .int .u8 0, .int .u8 0, .int .u8 0, .int .u8 0, .int .u8 0, .int .u8 0, .int .u8 0, .int .u8 0, .int .u8 0, .int .u8 0, .int .u8 0, .int .u8 0, .int .u8 0, .int .u8 0, .int .u8 0, .int .u8 0, .int .u8 0, .int .u8 0, .int .u8 0, .int .u8 0, .int .u8 0, .int .u8 0, .int .u8 0, .int .u8 0, .int .u8 0, .int .u8 0, .int .u8 0, .int .u8 0] (aeZ 32) rfl)
  have HC := Lib.hid (And.intro hck hcu)
  have HX := Lib.hid (And.intro hccl hcx1)
  have HL := Lib.hid (And.intro hk (And.intro hu (And.intro hcl (And.intro hx1 hb0))))
  have KC := Lib.hid CC
  have KR := Lib.hid CR
  have hbt := built_first oneN x1 oneN rfl hx1.1 rfl
  have hbo := oneN_built
  have hlb := rungV_length oneN (List.replicate 5 0) x1 oneN rfl rfl hx1.1 rfl
  obtain ⟨co, hco⟩ : ∃ c, (oneN.map uv).toArray = c := ⟨_, rfl⟩
  obtain ⟨cr, hcr⟩ : ∃ c, (rungV oneN (List.replicate 5 0) x1 oneN).toArray = c := ⟨_, rfl⟩
  rw [hco, hcx1, hcr] at hbt
  rw [hco] at hbo
  have HBT := Lib.hid (And.intro hbt (And.intro hbo (And.intro hcr hlb)))
  clear hck hcu hccl hcx1 hk hu hcl hx1 hb0 CC CR hbt hbo hco hcr hlb
  go_enter Try.func12, Try.ntmps12
  go_upto_region 1 with fail
  generalize (((w.alloc (.cells ck 23)).alloc (.cells cu 23)).alloc (.cells #[.int .u8 0, .int .u8 0, .int .u8 0, .int .u8 0, .int .u8 0, .int .u8 0, .int .u8 0, .int .u8 0, .int .u8 0, .int .u8 0, .int .u8 0, .int .u8 0, .int .u8 0, .int .u8 0, .int .u8 0, .int .u8 0, .int .u8 0, .int .u8 0, .int .u8 0, .int .u8 0, .int .u8 0, .int .u8 0, .int .u8 0, .int .u8 0, .int .u8 0, .int .u8 0, .int .u8 0, .int .u8 0, .int .u8 0, .int .u8 0, .int .u8 0, .int .u8 0] 23)) = w1 at HM ⊢
  go_wp2_with (refine wpList_load_blk rfl 23 (.tmp 2) rfl w.heap.size rfl 23 (k.map u8v) (HM.out.blk 2 rfl) 32 5 Try.underlying23 (cells32 k (HL.out.1)) ?_; rw [HC.out.1])
  refine (KC.out _).mono ?_
  rintro e w2 ⟨rfl, hb⟩
  replace HM := Lib.hid (HM.out.below hb)
  clear hb
  have HA := Lib.hid (show Mem w [blkE w2.heap.size 23 (aeZ 32), blkE (w.heap.size + 1 + 1) 23 (aeZ 32), blkE (w.heap.size + 1) 23 (u.map u8v), blkE w.heap.size 23 (k.map u8v)] (w2.alloc (.cells #[.int .u8 0, .int .u8 0, .int .u8 0, .int .u8 0, .int .u8 0, .int .u8 0, .int .u8 0, .int .u8 0, .int .u8 0, .int .u8 0, .int .u8 0, .int .u8 0, .int .u8 0, .int .u8 0, .int .u8 0, .int .u8 0, .int .u8 0, .int .u8 0, .int .u8 0, .int .u8 0, .int .u8 0, .int .u8 0, .int .u8 0, .int .u8 0, .int .u8 0, .int .u8 0, .int .u8 0, .int .u8 0, .int .u8 0, .int .u8 0, .int .u8 0, .int .u8 0] 23)) from HM.out.alloc rfl 23 #[.int .u8 0, .int .u8 0, .int .u8 0, .int .u8 0, .int .u8 0, .int .u8 0, .int .u8 0, .int .u8 0, .int .u8 0, .int .u8 0, .int .u8 0, .int .u8 0, .int .u8 0, .int .u8 0, .int .u8 0, .int .u8 0, .int .u8 0, .int .u8 0, .int .u8 0, .int .u8 0, .int .u8 0, .int .u8 0, .int .u8 0, .int .u8 0, .int .u8 0, .int .u8 0, .int .u8 0, .int .u8 0, .int .u8 0, .int .u8 0, .int .u8 0, .int .u8 0] (aeZ 32) rfl)
  go_upto_region 2 with (refine wpList_store_blk rfl 23 (.tmp 5) (.tmp 12) rfl w2.heap.size (cl.map u8v) rfl (by show Value.agg ccl = _; rw [HX.out.1]) 23 (aeZ 32) (HA.out.blk 0 rfl) (cells32 cl (HL.out.2.2.1)) (len32 (HL.out.2.2.1) (rfl)) (u8v_one _) ?_; intro w3 hb9 hg9)
  (try simp only [Act.put])
  replace HM := Lib.hid (show Mem w [blkE w2.heap.size 23 (cl.map u8v), blkE (w.heap.size + 1 + 1) 23 (aeZ 32), blkE (w.heap.size + 1) 23 (u.map u8v)] w3 from (HA.out.put 0 rfl _ hg9 hb9).erase 3)
  clear HA hb9 hg9
  generalize w2.heap.size = P5 at HM ⊢
  go_wp2_with (refine wpList_load_blk rfl 23 (.tmp 3) rfl (w.heap.size + 1) rfl 23 (u.map u8v) (HM.out.blk 2 rfl) 32 5 Try.underlying23 (cells32 u (HL.out.2.1)) ?_; rw [HC.out.2])
  refine (KR.out _).mono ?_
  rintro e w4 ⟨rfl, hb⟩
  replace HM := Lib.hid (HM.out.below hb)
  clear hb
  have HA := Lib.hid (show Mem w [blkE w4.heap.size 51 z5, blkE P5 23 (cl.map u8v), blkE (w.heap.size + 1 + 1) 23 (aeZ 32), blkE (w.heap.size + 1) 23 (u.map u8v)] (w4.alloc (.cells #[.int .u64 0, .int .u64 0, .int .u64 0, .int .u64 0, .int .u64 0] 51)) from HM.out.alloc rfl 51 #[.int .u64 0, .int .u64 0, .int .u64 0, .int .u64 0, .int .u64 0] z5 rfl)
  go_upto_region 3 with (refine wpList_store_blk rfl 51 (.tmp 6) (.tmp 14) rfl w4.heap.size (x1.map uv) rfl (by show Value.agg cx1 = _; rw [HX.out.2]) 51 (z5) (HA.out.blk 0 rfl) (cells5 x1 (HL.out.2.2.2.1.1)) (len5 (HL.out.2.2.2.1.1) (rfl)) (uv_one _) ?_; intro w5 hb9 hg9)
  (try simp only [Act.put])
  replace HM := Lib.hid (show Mem w [blkE w4.heap.size 51 (x1.map uv), blkE P5 23 (cl.map u8v), blkE (w.heap.size + 1 + 1) 23 (aeZ 32)] w5 from (HA.out.put 0 rfl _ hg9 hb9).erase 3)
  clear HA hb9 hg9
  generalize w4.heap.size = P6 at HM ⊢
  have HA := Lib.hid (show Mem w [blkE w5.heap.size 54 zr, blkE P6 51 (x1.map uv), blkE P5 23 (cl.map u8v), blkE (w.heap.size + 1 + 1) 23 (aeZ 32)] (w5.alloc (.cells #[.int .u64 0, .int .u64 0, .int .u64 0, .int .u64 0, .int .u64 0, .int .u64 0, .int .u64 0, .int .u64 0, .int .u64 0, .int .u64 0, .int .u64 0, .int .u64 0, .int .u64 0, .int .u64 0, .int .u64 0, .int .u64 0, .int .u64 0, .int .u64 0, .int .u64 0, .int .u64 0] 54)) from HM.out.alloc rfl 54 #[.int .u64 0, .int .u64 0, .int .u64 0, .int .u64 0, .int .u64 0, .int .u64 0, .int .u64 0, .int .u64 0, .int .u64 0, .int .u64 0, .int .u64 0, .int .u64 0, .int .u64 0, .int .u64 0, .int .u64 0, .int .u64 0, .int .u64 0, .int .u64 0, .int .u64 0, .int .u64 0] zr rfl)
  go_upto_region 4 with (first
    | (refine wpList_load_blk rfl 51 (.tmp 6) rfl P6 rfl 51 (x1.map uv) (HM.out.blk 0 rfl) 5 49 Try.underlying51 (cells5 x1 (HL.out.2.2.2.1.1)) ?_; rw [HX.out.2])
    | (refine wpList_build_as rfl 51 [(0, .const (.int .u64 1))] rfl co ?_ ?_; exact HBT.out.2.1)
    | (refine wpList_build_as rfl 54 [(0, .tmp 15), (2, .tmp 16), (3, .tmp 17)] rfl cr ?_ ?_; exact HBT.out.1)
    | (refine wpList_store_blk rfl 54 (.tmp 7) (.tmp 18) rfl w5.heap.size (rungV oneN (List.replicate 5 0) x1 oneN) rfl (by show Value.agg cr = _; rw [HBT.out.2.2.1]) 54 zr (HA.out.blk 0 rfl) (rungL _ HBT.out.2.2.2) (by rw [HBT.out.2.2.2]; rfl) (rungV_one _ _ _ _) ?_; intro w6 hb9 hg9))
  (try simp only [Act.put])
  replace HM := Lib.hid (show Mem w [blkE w5.heap.size 54 (rungV oneN (List.replicate 5 0) x1 oneN), blkE P6 51 (x1.map uv), blkE P5 23 (cl.map u8v), blkE (w.heap.size + 1 + 1) 23 (aeZ 32)] w6 from HA.out.put 0 rfl _ hg9 hb9)
  clear HA hb9 hg9
  generalize w5.heap.size = P7 at HM ⊢
  go_wp2_with fail
  go_loopw [8, 9, 10] (fun f z _ wr => ∃ (n : Nat) (b : Bool), n ≤ 255 ∧ f = .int .u64 (swap1 b : Int) ∧ z = .int .i64 (254 - (n : Int)) ∧ (0 < n → b = bitAt cl (255 - n)) ∧ (n = 0 → b = false) ∧ ∃ x2 z2 x3 z3, SmallN x2 ∧ SmallN z2 ∧ SmallN x3 ∧ SmallN z3 ∧ LadS b (LadN x2 z2 x3 z3) = Cu.ladN Cu.fqC (Cu.fq (val x1 : Int)) ((bitsOf cl).take n) ∧ Mem w [blkE P7 54 (rungV x2 z2 x3 z3), blkE P6 51 (x1.map uv), blkE P5 23 (cl.map u8v), blkE (w.heap.size + 1 + 1) 23 (aeZ 32)] wr) (fun _ z _ _ => (intOf z + 1).toNat)
  case atStart => exact ⟨0, false, by omega, rfl, rfl, fun h => by omega, fun _ => rfl, oneN, zeroN, x1, oneN, oneN_small, zeroN_small, HL.out.2.2.2.1, oneN_small, by rw [LadN, oneN_val, zeroN_val]; rfl, HM.out⟩
  case round =>
    clear HM
    obtain ⟨n, b, hn, rfl, rfl, hbn, hbz, x2, z2, x3, z3, s1, s2, s3, s4, hlad, hM⟩ := hrel
    have HM := Lib.hid hM
    have HLD := Lib.hid (And.intro s1 (And.intro s2 (And.intro s3 (And.intro s4 hlad))))
    clear hM hlad
    by_cases hlt : n < 255
    · obtain ⟨t, ht⟩ : ∃ t : Nat, 254 - n = t := ⟨_, rfl⟩
      have htI : (254 : Int) - (n : Int) = (t : Int) := by omega
      rw [htI]
      have ht8 : t / 8 < 32 := by omega
      have fx := (HM.out.blk 2 rfl).byt (t / 8) (by rw [HL.out.2.2.1]; exact ht8)
      have hbit : bitAt cl t = ((cl.getD (t / 8) 0).toNat / 2 ^ (t % 8) % 2 == 1) := rfl
      generalize cl.getD (t / 8) 0 = x at fx hbit
      obtain ⟨bit, hbt⟩ : ∃ q, bitAt cl t = q := ⟨_, rfl⟩
      have HBI := Lib.hid hbt.symm
      rw [hbt] at hbit
      obtain ⟨m, hm⟩ : ∃ m, x.toNat / 2 ^ (t % 8) = m := ⟨_, rfl⟩
      have hml : m < 256 := by rw [← hm]; exact Nat.lt_of_le_of_lt (Nat.div_le_self _ _) x.toNat_lt
      have e1 : (x.toNat : Int) / 2 ^ (t % 8) = (m : Int) := by rw [← hm, Int.natCast_ediv, Int.natCast_pow]; rfl
      have ew : IntKind.u64.wrap (m : Int) = (m : Int) := by rw [IntKind.wrap_u64]; omega
      have hand : bits BinOp.and IntKind.u64 (m : Int) 1 = (swap1 bit : Int) := by
        have h := u64_and_nat m 1 (by omega) (by omega)
        rw [show ((1 : Nat) : Int) = 1 from rfl] at h
        rw [h, Nat.and_one_is_mod, hbit, hm]
        by_cases h1 : m % 2 = 1
        · rw [h1]; rfl
        · have h0 : m % 2 = 0 := by omega
          rw [h0]; rfl
      have HBT := Lib.hid (show (bitsOf cl).take (n + 1) = (bitsOf cl).take n ++ [bit] by rw [bitsOf_take cl n hlt, ht, hbt])
      have HTT := Lib.hid (show t + n = 254 by omega)
      clear hbit hm hml hbn hbz hbt ht
      go_upto_region 9 with fail
      clear fx hand e1 ew
      have HXB := Lib.hid (swap1_xor bit b)
      obtain ⟨sb, hsb⟩ : ∃ q, (bit != b) = q := ⟨_, rfl⟩
      rw [hsb] at HXB
      have HSB := Lib.hid hsb
      have EX := fun W : World => exchange_any sb x2 z2 x3 z3 s1 s2 s3 s4 W
      have ST := fun W : World => step_any (swL sb x2 x3) (swL sb z2 z3) (swL sb x3 x2) (swL sb z3 z2) x1 (swL_small sb _ _ s1 s3) (swL_small sb _ _ s2 s4) (swL_small sb _ _ s3 s1) (swL_small sb _ _ s4 s2) HL.out.2.2.2.1 W
      have hl1 := rungV_length x2 z2 x3 z3 s1.1 s2.1 s3.1 s4.1
      obtain ⟨ca, hca⟩ : ∃ c, (rungV x2 z2 x3 z3).toArray = c := ⟨_, rfl⟩
      obtain ⟨cs, hcs⟩ : ∃ c, (rungV (swL sb x2 x3) (swL sb z2 z3) (swL sb x3 x2) (swL sb z3 z2)).toArray = c := ⟨_, rfl⟩
      rw [hca, hcs] at EX
      rw [hcs, HX.out.2] at ST
      have HS := Lib.hid (And.intro hca (And.intro hcs (And.intro hl1 True.intro)))
      have HST := Lib.hid ST
      have HEX := Lib.hid EX
      clear EX ST hca hcs hl1 hsb s1 s2 s3 s4
      refine wp_region_held_drew (S := fun W' => Mem w [blkE P6 51 (x1.map uv), blkE P5 23 (cl.map u8v), blkE (w.heap.size + 1 + 1) 23 (aeZ 32)] W') (by kernel_rfl) (((HM.out.erase 0)).drew) (fun hHeld => ?_)
      replace HM := Lib.hid HM.out.drew
      generalize wr.drew = wd1 at HM hHeld ⊢
      refine take_first (v := ?_) 1 rfl (by kernel_rfl) (by kernel_rfl) (by kernel_rfl) (fun _ _ _ h => h) (Or.inl ⟨by rfl, ?_⟩) (by assumption) ?_
      rotate_left
      · (intro w hSw; (try dsimp only at hSw); go_simp; try with_reducible rfl)
      (try simp only [Act.put, List.setIfInBounds_toArray, List.set_cons_zero, List.set_cons_succ])
      refine take_first (v := ?_) 2 rfl (by kernel_rfl) (by kernel_rfl) (by kernel_rfl) (fun _ _ _ h => h) (Or.inl ⟨by rfl, ?_⟩) (by assumption) ?_
      rotate_left
      · (intro w hSw; (try dsimp only at hSw); go_simp; try with_reducible rfl)
      (try simp only [Act.put, List.setIfInBounds_toArray, List.set_cons_zero, List.set_cons_succ])
      refine take_first (v := ?_) 3 rfl (by kernel_rfl) (by kernel_rfl) (by kernel_rfl) (fun _ _ _ h => h) (Or.inl ⟨by rfl, ?_⟩) (by assumption) ?_
      rotate_left
      · (intro w hSw; (try dsimp only at hSw); have hx := HXB.out; go_simp; try with_reducible rfl)
      (try simp only [Act.put, List.setIfInBounds_toArray, List.set_cons_zero, List.set_cons_succ])
      refine take_first (v := .agg cx1) 5 rfl (by kernel_rfl) (by kernel_rfl) (by kernel_rfl) (fun _ _ _ h => h) (by rw [← HX.out.2]; exact yields_load_blk (by rfl) 51 (.tmp 6) rfl P6 rfl 51 (x1.map uv) (fun w' hb => Mem.blk hb 0 rfl) 5 49 Try.underlying51 (cells5 x1 HL.out.2.2.2.1.1)) (by assumption) ?_
      (try simp only [Act.put, List.setIfInBounds_toArray, List.set_cons_zero, List.set_cons_succ])
      refine step_one 0 rfl (by kernel_rfl) (fun K hK => ?_)
      clear hHeld
      refine step_load_rung rfl (.tmp 7) rfl P7 rfl 54 (rungV x2 z2 x3 z3) (HM.out.blk 0 rfl) (rungL _ HS.out.2.2.1) ?_
      rw [HS.out.1]
      refine hK.out _ _ ((HM.out.erase 0)) (fun hHeld => ?_)
      clear hK K
      (try simp only [Act.put, List.setIfInBounds_toArray, List.set_cons_zero, List.set_cons_succ])
      refine step_one 4 rfl (by kernel_rfl) (fun K hK => ?_)
      clear hHeld
      go_simp
      refine (HEX.out _).mono ?_
      rintro e wy2 ⟨rfl, hb⟩
      replace HM := Lib.hid (show Mem w [blkE P7 54 (rungV x2 z2 x3 z3), blkE P6 51 (x1.map uv), blkE P5 23 (cl.map u8v), blkE (w.heap.size + 1 + 1) 23 (aeZ 32)] wy2 from HM.out.below hb)
      clear hb
      go_wp2_with fail
      refine hK.out _ _ ((HM.out.erase 0)) (fun hHeld => ?_)
      clear hK K
      (try simp only [Act.put, List.setIfInBounds_toArray, List.set_cons_zero, List.set_cons_succ])
      refine step_one 6 rfl (by kernel_rfl) (fun K hK => ?_)
      clear hHeld
      go_simp
      refine (HST.out _).mono ?_
      rintro e wy3 ⟨p, q, r, t4, g1, g2, g3, g4, hlf, rfl, hb⟩
      replace HM := Lib.hid (show Mem w [blkE P7 54 (rungV x2 z2 x3 z3), blkE P6 51 (x1.map uv), blkE P5 23 (cl.map u8v), blkE (w.heap.size + 1 + 1) 23 (aeZ 32)] wy3 from HM.out.below hb)
      have hl2 := rungV_length p q r t4 g1.1 g2.1 g3.1 g4.1
      obtain ⟨cb, hcb⟩ : ∃ c, (rungV p q r t4).toArray = c := ⟨_, rfl⟩
      rw [hcb]
      clear hb
      go_wp2_with fail
      refine hK.out _ _ ((HM.out.erase 0)) (fun hHeld => ?_)
      clear hK K
      (try simp only [Act.put, List.setIfInBounds_toArray, List.set_cons_zero, List.set_cons_succ])
      refine step_one 7 rfl (by kernel_rfl) (fun K hK => ?_)
      clear hHeld
      refine step_store_blk _ rfl 54 (.tmp 7) (.tmp 38) rfl P7 (rungV p q r t4) rfl (by show Value.agg cb = _; rw [hcb]) 54 (rungV x2 z2 x3 z3) (HM.out.blk 0 rfl) (rungL _ hl2) (by rw [HS.out.2.2.1, hl2]) (rungV_one _ _ _ _) ?_
      intro wy4 hb hg
      replace HM := Lib.hid (show Mem w [blkE P7 54 (rungV p q r t4), blkE P6 51 (x1.map uv), blkE P5 23 (cl.map u8v), blkE (w.heap.size + 1 + 1) 23 (aeZ 32)] wy4 from HM.out.put 0 rfl _ hg hb)
      clear hb hg
      refine hK.out _ _ ((HM.out.erase 0)) (fun hHeld => ?_)
      clear hK K
      (try simp only [Act.put])
      refine wpAnyH_done (by kernel_rfl) ?_ _
      clear hHeld
      have hlad := lad_round _ _ bit b x2 z2 x3 z3 p q r t4 (by rw [HSB.out]; exact hlf)
      rw [HLD.out.2.2.2.2, ← Cu.ladN_snoc, ← HBT.out] at hlad
      have HT := Lib.hid (And.intro g1 (And.intro g2 (And.intro g3 (And.intro g4 hlad))))
      clear hlad g1 g2 g3 g4 hlf hcb hl2
      have e2 : IntKind.i64.wrap ((t : Int) - 1) = 254 - ((n + 1 : Nat) : Int) := by rw [IntWalk.i64_in _ (by omega)]; omega
      have e3 : (t : Int) - 1 = 254 - ((n + 1 : Nat) : Int) := by omega
      have HE2 := Lib.hid (And.intro e2 e3)
      clear e2 e3
      go_wp2_with fail
      go_roundw
      case rel => exact ⟨n + 1, bit, by omega, rfl, by first | (rw [HE2.out.1]) | (rw [HE2.out.2]) | go_num, fun _ => by rw [HBI.out, show 255 - (n + 1) = t by have := HTT.out; omega], fun h => by omega, p, q, r, t4, HT.out.1, HT.out.2.1, HT.out.2.2.1, HT.out.2.2.2.1, HT.out.2.2.2.2, HM.out⟩
      case measure => first | (rw [HE2.out.1]; simp [intOf]; have := HTT.out; omega) | (rw [HE2.out.2]; simp [intOf]; have := HTT.out; omega) | (simp [intOf]; have := HTT.out; omega)
    · obtain rfl : n = 255 := by omega
      have d1 : decide ((254 : Int) - ((255 : Nat) : Int) ≥ 0) = false := by decide
      have hall : (bitsOf cl).take 255 = bitsOf cl := List.take_of_length_le (by rw [bitsOf_length]; omega)
      have hbf : b = false := by rw [hbn (by omega)]; exact HL.out.2.2.2.2
      have hl := HLD.out.2.2.2.2
      rw [hall, hbf] at hl
      have HRES := Lib.hid (show fqB (Cu.ladU Cu.fqC (Cu.fq (val x1 : Int)) (bitsOf cl)) = fqB (Cu.fq (val x2 : Int) * Cu.finv (Cu.fq (val z2 : Int))) by rw [Cu.ladU, ← hl]; rfl)
      have INV := fun W : World => invert_any z2 s2 W
      obtain ⟨cx2, hcx2⟩ : ∃ c, (x2.map uv).toArray = c := ⟨_, rfl⟩
      obtain ⟨cz2, hcz2⟩ : ∃ c, (z2.map uv).toArray = c := ⟨_, rfl⟩
      rw [hcz2] at INV
      have HINV := Lib.hid INV
      have HF := Lib.hid (And.intro hcx2 (And.intro hcz2 True.intro))
      clear hall hbf hl INV hcx2 hcz2 hbn hbz s1 s2 s3 s4
      go_upto_region 11 with fail
      clear d1
      refine wp_region_held_drew (S := fun W' => Mem w [blkE P7 54 (rungV x2 z2 x3 z3), blkE P6 51 (x1.map uv), blkE P5 23 (cl.map u8v)] W') (by kernel_rfl) (((HM.out.erase 3)).drew) (fun hHeld => ?_)
      replace HM := Lib.hid HM.out.drew
      generalize wr.drew = wd1 at HM hHeld ⊢
      refine take_first (v := ?_) 0 rfl (by kernel_rfl) (by kernel_rfl) (by kernel_rfl) (fun _ _ _ h => h) (Or.inl ⟨by rfl, ?_⟩) (by assumption) ?_
      rotate_left
      · (intro w hSw; (try dsimp only at hSw); go_simp; try with_reducible rfl)
      (try simp only [Act.put, List.setIfInBounds_toArray, List.set_cons_zero, List.set_cons_succ])
      refine take_first (v := .agg cx2) 1 rfl (by kernel_rfl) (by kernel_rfl) (by kernel_rfl) (fun _ _ _ h => h) (by rw [← HF.out.1]; exact cu_yields_off (by rfl) 51 (.tmp 40) rfl P7 0 rfl (x2.map uv) (fun w' hb => by have h := (Mem.blk hb 0 rfl).row 0 5; rw [rungV_row0 _ _ _ _ HLD.out.1.1 HLD.out.2.1.1 HLD.out.2.2.1.1 HLD.out.2.2.2.1.1] at h; exact h) 5 49 Try.underlying51 (cells5 x2 HLD.out.1.1)) (by assumption) ?_
      (try simp only [Act.put, List.setIfInBounds_toArray, List.set_cons_zero, List.set_cons_succ])
      refine take_first (v := ?_) 2 rfl (by kernel_rfl) (by kernel_rfl) (by kernel_rfl) (fun _ _ _ h => h) (Or.inl ⟨by rfl, ?_⟩) (by assumption) ?_
      rotate_left
      · (intro w hSw; (try dsimp only at hSw); go_simp; try with_reducible rfl)
      (try simp only [Act.put, List.setIfInBounds_toArray, List.set_cons_zero, List.set_cons_succ])
      refine take_first (v := .agg cz2) 3 rfl (by kernel_rfl) (by kernel_rfl) (by kernel_rfl) (fun _ _ _ h => h) (by rw [← HF.out.2.1]; exact cu_yields_off (by rfl) 51 (.tmp 42) rfl P7 5 rfl (z2.map uv) (fun w' hb => by have h := (Mem.blk hb 0 rfl).row 5 5; rw [rungV_row1 _ _ _ _ HLD.out.1.1 HLD.out.2.1.1 HLD.out.2.2.1.1 HLD.out.2.2.2.1.1] at h; exact h) 5 49 Try.underlying51 (cells5 z2 HLD.out.2.1.1)) (by assumption) ?_
      (try simp only [Act.put, List.setIfInBounds_toArray, List.set_cons_zero, List.set_cons_succ])
      refine step_one 4 rfl (by kernel_rfl) (fun K hK => ?_)
      clear hHeld
      go_simp
      refine (HINV.out _).mono ?_
      rintro e wy2 ⟨ri, gi, vi, rfl, hb⟩
      replace HM := Lib.hid (show Mem w [blkE P7 54 (rungV x2 z2 x3 z3), blkE P6 51 (x1.map uv), blkE P5 23 (cl.map u8v), blkE (w.heap.size + 1 + 1) 23 (aeZ 32)] wy2 from HM.out.below hb)
      have MX := multiply_ex x2 ri HLD.out.1.loose gi.loose
      rw [vi, HF.out.1] at MX
      obtain ⟨ci, hci⟩ : ∃ c, (ri.map uv).toArray = c := ⟨_, rfl⟩
      rw [hci] at MX ⊢
      have HMX := Lib.hid MX
      clear MX
      clear hb
      go_wp2_with fail
      refine hK.out _ _ ((HM.out.erase 3)) (fun hHeld => ?_)
      clear hK K
      (try simp only [Act.put, List.setIfInBounds_toArray, List.set_cons_zero, List.set_cons_succ])
      refine step_one 5 rfl (by kernel_rfl) (fun K hK => ?_)
      clear hHeld
      go_simp
      refine (HMX.out _).mono ?_
      rintro e wy3 ⟨rm, gm, vm, rfl, hb⟩
      replace HM := Lib.hid (show Mem w [blkE P7 54 (rungV x2 z2 x3 z3), blkE P6 51 (x1.map uv), blkE P5 23 (cl.map u8v), blkE (w.heap.size + 1 + 1) 23 (aeZ 32)] wy3 from HM.out.below hb)
      have BX := bytesOf_any rm gm
      rw [vm] at BX
      obtain ⟨cm, hcm⟩ : ∃ c, (rm.map uv).toArray = c := ⟨_, rfl⟩
      rw [hcm] at BX ⊢
      have hfl := fqB_length (Cu.fq (val x2 : Int) * Cu.finv (Cu.fq (val z2 : Int)))
      obtain ⟨z, hz⟩ : ∃ z, fqB (Cu.fq (val x2 : Int) * Cu.finv (Cu.fq (val z2 : Int))) = z := ⟨_, rfl⟩
      rw [hz] at BX hfl
      have HZ := Lib.hid hz
      obtain ⟨cz, hcz⟩ : ∃ c, (z.map u8v).toArray = c := ⟨_, rfl⟩
      rw [hcz] at BX
      have HBX := Lib.hid BX
      have HCZ := Lib.hid (And.intro hcz hfl)
      clear BX hz hcz hfl
      clear hb
      go_wp2_with fail
      refine hK.out _ _ ((HM.out.erase 3)) (fun hHeld => ?_)
      clear hK K
      (try simp only [Act.put, List.setIfInBounds_toArray, List.set_cons_zero, List.set_cons_succ])
      refine step_one 6 rfl (by kernel_rfl) (fun K hK => ?_)
      clear hHeld
      go_simp
      refine (HBX.out _).mono ?_
      rintro e wy4 ⟨rfl, hb⟩
      replace HM := Lib.hid (show Mem w [blkE P7 54 (rungV x2 z2 x3 z3), blkE P6 51 (x1.map uv), blkE P5 23 (cl.map u8v), blkE (w.heap.size + 1 + 1) 23 (aeZ 32)] wy4 from HM.out.below hb)
      clear hb
      go_wp2_with fail
      refine hK.out _ _ ((HM.out.erase 3)) (fun hHeld => ?_)
      clear hK K
      (try simp only [Act.put, List.setIfInBounds_toArray, List.set_cons_zero, List.set_cons_succ])
      refine step_one 7 rfl (by kernel_rfl) (fun K hK => ?_)
      clear hHeld
      refine step_store_blk _ rfl 23 (.tmp 4) (.tmp 46) rfl (w.heap.size + 1 + 1) (z.map u8v) rfl (by show Value.agg cz = _; rw [HCZ.out.1]) 23 (aeZ 32) (HM.out.blk 3 rfl) (cells32 z HCZ.out.2) (len32 HCZ.out.2 rfl) (u8v_one _) ?_
      intro wy5 hb hg
      replace HM := Lib.hid (show Mem w [blkE P7 54 (rungV x2 z2 x3 z3), blkE P6 51 (x1.map uv), blkE P5 23 (cl.map u8v), blkE (w.heap.size + 1 + 1) 23 (z.map u8v)] wy5 from HM.out.put 3 rfl _ hg hb)
      clear hb hg
      refine hK.out _ _ ((HM.out.erase 3)) (fun hHeld => ?_)
      clear hK K
      (try simp only [Act.put])
      refine wpAnyH_done (by kernel_rfl) ?_ _
      go_wp2_with fail
      exact bodyPost_ret (results_blk rfl _ _ (w.heap.size + 1 + 1) 23 (z.map u8v) 32 5 rfl (HM.out.blk 3 rfl) Try.underlying23 (cells32 z HCZ.out.2)) rfl ⟨by rw [HRES.out, HZ.out], HM.out.bel⟩


set_option maxRecDepth 100000 in
theorem cuPublicC : CuPublicC := by
  intro k hk w
  have MC := fun W : World => cuMulC k nineL hk rfl W
  have hl := mulL_length k nineL
  have hb9 := nine_built
  generalize mulL k nineL = r at MC hl ⊢
  obtain ⟨ck, hck⟩ : ∃ c, (k.map u8v).toArray = c := ⟨_, rfl⟩
  obtain ⟨cn, hcn⟩ : ∃ c, (nineL.map u8v).toArray = c := ⟨_, rfl⟩
  obtain ⟨cr, hcr⟩ : ∃ c, (r.map u8v).toArray = c := ⟨_, rfl⟩
  rw [hck, hcn, hcr] at MC
  rw [hcn] at hb9
  rw [hck, hcr]
  have HM := Lib.hid (show Mem w [blkE (w.heap.size + 1) 23 (aeZ 32), blkE w.heap.size 23 (k.map u8v)] ((w.alloc (.cells ck 23)).alloc (.cells #[.int .u8 0, .int .u8 0, .int .u8 0, .int .u8 0, .int .u8 0, .int .u8 0, .int .u8 0, .int .u8 0, .int .u8 0, .int .u8 0, .int .u8 0, .int .u8 0, .int .u8 0, .int .u8 0, .int .u8 0, .int .u8 0, .int .u8 0, .int .u8 0, .int .u8 0, .int .u8 0, .int .u8 0, .int .u8 0, .int .u8 0, .int .u8 0, .int .u8 0, .int .u8 0, .int .u8 0, .int .u8 0, .int .u8 0, .int .u8 0, .int .u8 0, .int .u8 0] 23)) from ((Mem.nil w).alloc rfl 23 ck (k.map u8v) hck.symm).alloc (by simp) 23 #[.int .u8 0, .int .u8 0, .int .u8 0, .int .u8 0, .int .u8 0, .int .u8 0, .int .u8 0, .int .u8 0, .int .u8 0, .int .u8 0, .int .u8 0, .int .u8 0, .int .u8 0, .int .u8 0, .int .u8 0, .int .u8 0, .int .u8 0, .int .u8 0, .int .u8 0, .int .u8 0, .int .u8 0, .int .u8 0, .int .u8 0, .int .u8 0, .int .u8 0, .int .u8 0, .int .u8 0, .int .u8 0, .int .u8 0, .int .u8 0, .int .u8 0, .int .u8 0] (aeZ 32) rfl)
  have HC := Lib.hid (And.intro hck (And.intro hcr hb9))
  have HL := Lib.hid (And.intro hk hl)
  have HMC := Lib.hid MC
  clear hck hcn hcr hb9 hk hl MC
  go_enter Try.func16, Try.ntmps16
  go_upto_region 1 with fail
  generalize ((w.alloc (.cells ck 23)).alloc (.cells #[.int .u8 0, .int .u8 0, .int .u8 0, .int .u8 0, .int .u8 0, .int .u8 0, .int .u8 0, .int .u8 0, .int .u8 0, .int .u8 0, .int .u8 0, .int .u8 0, .int .u8 0, .int .u8 0, .int .u8 0, .int .u8 0, .int .u8 0, .int .u8 0, .int .u8 0, .int .u8 0, .int .u8 0, .int .u8 0, .int .u8 0, .int .u8 0, .int .u8 0, .int .u8 0, .int .u8 0, .int .u8 0, .int .u8 0, .int .u8 0, .int .u8 0, .int .u8 0] 23)) = w1 at HM ⊢
  go_wp2_with (first | (refine wpList_load_blk rfl 23 (.tmp 1) rfl w.heap.size rfl 23 (k.map u8v) (HM.out.blk 1 rfl) 32 5 Try.underlying23 (cells32 k (HL.out.1)) ?_; rw [HC.out.1]) | (refine wpList_build_as rfl 23 [(0, .const (.int .u8 9))] rfl cn HC.out.2.2 ?_))
  refine (HMC.out _).mono ?_
  rintro e w2 ⟨rfl, hb⟩
  replace HM := Lib.hid (HM.out.below hb)
  clear hb
  go_wp2_with (refine wpList_store_blk rfl 23 (.tmp 2) (.tmp 5) rfl (w.heap.size + 1) (r.map u8v) rfl (by show Value.agg cr = _; rw [HC.out.2.1]) 23 (aeZ 32) (HM.out.blk 0 rfl) (cells32 r (HL.out.2)) (len32 (HL.out.2) (rfl)) (u8v_one _) ?_; intro w9 hb9 hg9)
  exact bodyPost_ret (results_blk rfl _ _ (w.heap.size + 1) 23 (r.map u8v) 32 5 rfl hb9 Try.underlying23 (cells32 r HL.out.2)) rfl ⟨by rw [HC.out.2.1], (HM.out.put 0 rfl _ hg9 hb9).bel⟩

set_option maxRecDepth 100000 in
theorem cuShareC : CuShareC := by
  intro k u hk hu w
  have MC := fun W : World => cuMulC k u hk hu W
  have hl := mulL_length k u
  have hb9 := zero_built
  generalize mulL k u = r at MC hl ⊢
  obtain ⟨ck, hck⟩ : ∃ c, (k.map u8v).toArray = c := ⟨_, rfl⟩
  obtain ⟨cu, hcu⟩ : ∃ c, (u.map u8v).toArray = c := ⟨_, rfl⟩
  obtain ⟨cz, hcz⟩ : ∃ c, (zeroK.map u8v).toArray = c := ⟨_, rfl⟩
  obtain ⟨cr, hcr⟩ : ∃ c, (r.map u8v).toArray = c := ⟨_, rfl⟩
  rw [hck, hcu, hcr] at MC
  rw [hcz] at hb9
  rw [hck, hcu, hcr]
  have HM := Lib.hid (show Mem w [blkE (w.heap.size + 1 + 1) 23 (aeZ 32), blkE (w.heap.size + 1) 23 (u.map u8v), blkE w.heap.size 23 (k.map u8v)] (((w.alloc (.cells ck 23)).alloc (.cells cu 23)).alloc (.cells #[.int .u8 0, .int .u8 0, .int .u8 0, .int .u8 0, .int .u8 0, .int .u8 0, .int .u8 0, .int .u8 0, .int .u8 0, .int .u8 0, .int .u8 0, .int .u8 0, .int .u8 0, .int .u8 0, .int .u8 0, .int .u8 0, .int .u8 0, .int .u8 0, .int .u8 0, .int .u8 0, .int .u8 0, .int .u8 0, .int .u8 0, .int .u8 0, .int .u8 0, .int .u8 0, .int .u8 0, .int .u8 0, .int .u8 0, .int .u8 0, .int .u8 0, .int .u8 0] 23)) from (((Mem.nil w).alloc rfl 23 ck (k.map u8v) hck.symm).alloc (by simp) 23 cu (u.map u8v) hcu.symm).alloc (by simp) 23 #[.int .u8 0, .int .u8 0, .int .u8 0, .int .u8 0, .int .u8 0, .int .u8 0, .int .u8 0, .int .u8 0, .int .u8 0, .int .u8 0, .int .u8 0, .int .u8 0, .int .u8 0, .int .u8 0, .int .u8 0, .int .u8 0, .int .u8 0, .int .u8 0, .int .u8 0, .int .u8 0, .int .u8 0, .int .u8 0, .int .u8 0, .int .u8 0, .int .u8 0, .int .u8 0, .int .u8 0, .int .u8 0, .int .u8 0, .int .u8 0, .int .u8 0, .int .u8 0] (aeZ 32) rfl)
  have HC := Lib.hid (And.intro hck (And.intro hcu (And.intro hcr (And.intro hcz hb9))))
  have HL := Lib.hid (And.intro hk (And.intro hu hl))
  have HMC := Lib.hid MC
  obtain ⟨q, hq⟩ : ∃ q, (r == zeroK) = q := ⟨_, rfl⟩
  have HE := Lib.hid (show (r == zeroK) = q ∧ shareE r = if q then 21 else 0 by rw [shareE, hq]; exact ⟨rfl, rfl⟩)
  clear hck hcu hcz hcr hb9 hk hu hl MC hq
  go_enter Try.func10, Try.ntmps10
  go_upto_region 1 with fail
  generalize (((w.alloc (.cells ck 23)).alloc (.cells cu 23)).alloc (.cells #[.int .u8 0, .int .u8 0, .int .u8 0, .int .u8 0, .int .u8 0, .int .u8 0, .int .u8 0, .int .u8 0, .int .u8 0, .int .u8 0, .int .u8 0, .int .u8 0, .int .u8 0, .int .u8 0, .int .u8 0, .int .u8 0, .int .u8 0, .int .u8 0, .int .u8 0, .int .u8 0, .int .u8 0, .int .u8 0, .int .u8 0, .int .u8 0, .int .u8 0, .int .u8 0, .int .u8 0, .int .u8 0, .int .u8 0, .int .u8 0, .int .u8 0, .int .u8 0] 23)) = w1 at HM ⊢
  go_wp2_with (first | (refine wpList_load_blk rfl 23 (.tmp 2) rfl w.heap.size rfl 23 (k.map u8v) (HM.out.blk 2 rfl) 32 5 Try.underlying23 (cells32 k (HL.out.1)) ?_; rw [HC.out.1]) | (refine wpList_load_blk rfl 23 (.tmp 3) rfl (w.heap.size + 1) rfl 23 (u.map u8v) (HM.out.blk 1 rfl) 32 5 Try.underlying23 (cells32 u (HL.out.2.1)) ?_; rw [HC.out.2.1]))
  refine (HMC.out _).mono ?_
  rintro e w2 ⟨rfl, hb⟩
  replace HM := Lib.hid (HM.out.below hb)
  clear hb
  have HA := Lib.hid (show Mem w [blkE w2.heap.size 23 (aeZ 32), blkE (w.heap.size + 1 + 1) 23 (aeZ 32), blkE (w.heap.size + 1) 23 (u.map u8v), blkE w.heap.size 23 (k.map u8v)] (w2.alloc (.cells #[.int .u8 0, .int .u8 0, .int .u8 0, .int .u8 0, .int .u8 0, .int .u8 0, .int .u8 0, .int .u8 0, .int .u8 0, .int .u8 0, .int .u8 0, .int .u8 0, .int .u8 0, .int .u8 0, .int .u8 0, .int .u8 0, .int .u8 0, .int .u8 0, .int .u8 0, .int .u8 0, .int .u8 0, .int .u8 0, .int .u8 0, .int .u8 0, .int .u8 0, .int .u8 0, .int .u8 0, .int .u8 0, .int .u8 0, .int .u8 0, .int .u8 0, .int .u8 0] 23)) from HM.out.alloc rfl 23 #[.int .u8 0, .int .u8 0, .int .u8 0, .int .u8 0, .int .u8 0, .int .u8 0, .int .u8 0, .int .u8 0, .int .u8 0, .int .u8 0, .int .u8 0, .int .u8 0, .int .u8 0, .int .u8 0, .int .u8 0, .int .u8 0, .int .u8 0, .int .u8 0, .int .u8 0, .int .u8 0, .int .u8 0, .int .u8 0, .int .u8 0, .int .u8 0, .int .u8 0, .int .u8 0, .int .u8 0, .int .u8 0, .int .u8 0, .int .u8 0, .int .u8 0, .int .u8 0] (aeZ 32) rfl)
  go_upto_region 2 with (refine wpList_store_blk rfl 23 (.tmp 6) (.tmp 10) rfl w2.heap.size (r.map u8v) rfl (by show Value.agg cr = _; rw [HC.out.2.2.1]) 23 (aeZ 32) (HA.out.blk 0 rfl) (cells32 r (HL.out.2.2)) (len32 (HL.out.2.2) (rfl)) (u8v_one _) ?_; intro w3 hb9 hg9)
  (try simp only [Act.put])
  replace HM := Lib.hid (show Mem w [blkE w2.heap.size 23 (r.map u8v), blkE (w.heap.size + 1 + 1) 23 (aeZ 32)] w3 from ((HA.out.put 0 rfl _ hg9 hb9).erase 2).erase 2)
  clear HA hb9 hg9
  generalize w2.heap.size = P6 at HM ⊢
  have HA := Lib.hid (show Mem w [blkE w3.heap.size 23 (zeroK.map u8v), blkE P6 23 (r.map u8v), blkE (w.heap.size + 1 + 1) 23 (aeZ 32)] (w3.alloc (.cells #[.int .u8 0, .int .u8 0, .int .u8 0, .int .u8 0, .int .u8 0, .int .u8 0, .int .u8 0, .int .u8 0, .int .u8 0, .int .u8 0, .int .u8 0, .int .u8 0, .int .u8 0, .int .u8 0, .int .u8 0, .int .u8 0, .int .u8 0, .int .u8 0, .int .u8 0, .int .u8 0, .int .u8 0, .int .u8 0, .int .u8 0, .int .u8 0, .int .u8 0, .int .u8 0, .int .u8 0, .int .u8 0, .int .u8 0, .int .u8 0, .int .u8 0, .int .u8 0] 23)) from HM.out.alloc rfl 23 #[.int .u8 0, .int .u8 0, .int .u8 0, .int .u8 0, .int .u8 0, .int .u8 0, .int .u8 0, .int .u8 0, .int .u8 0, .int .u8 0, .int .u8 0, .int .u8 0, .int .u8 0, .int .u8 0, .int .u8 0, .int .u8 0, .int .u8 0, .int .u8 0, .int .u8 0, .int .u8 0, .int .u8 0, .int .u8 0, .int .u8 0, .int .u8 0, .int .u8 0, .int .u8 0, .int .u8 0, .int .u8 0, .int .u8 0, .int .u8 0, .int .u8 0, .int .u8 0] (zeroK.map u8v) rfl)
  go_upto_region 3 with fail
  clear HM
  have HM := HA
  clear HA
  generalize w3.alloc (.cells #[.int .u8 0, .int .u8 0, .int .u8 0, .int .u8 0, .int .u8 0, .int .u8 0, .int .u8 0, .int .u8 0, .int .u8 0, .int .u8 0, .int .u8 0, .int .u8 0, .int .u8 0, .int .u8 0, .int .u8 0, .int .u8 0, .int .u8 0, .int .u8 0, .int .u8 0, .int .u8 0, .int .u8 0, .int .u8 0, .int .u8 0, .int .u8 0, .int .u8 0, .int .u8 0, .int .u8 0, .int .u8 0, .int .u8 0, .int .u8 0, .int .u8 0, .int .u8 0] 23) = w4 at HM ⊢
  generalize w3.heap.size = P7 at HM ⊢
  refine wp_region_held_drew (S := fun W' => Mem w [blkE P7 23 (zeroK.map u8v), blkE P6 23 (r.map u8v), blkE (w.heap.size + 1 + 1) 23 (aeZ 32)] W') (by kernel_rfl) ((HM.out).drew) (fun hHeld => ?_)
  replace HM := Lib.hid HM.out.drew
  generalize w4.drew = wd1 at HM hHeld ⊢
  refine take_first (v := ?_) 0 rfl (by kernel_rfl) (by kernel_rfl) (by kernel_rfl) (fun _ _ _ h => h) (Or.inl ⟨by rfl, ?_⟩) (by assumption) ?_
  rotate_left
  · (intro w hSw; (try dsimp only at hSw); go_simp; try with_reducible rfl)
  (try simp only [Act.put, List.setIfInBounds_toArray, List.set_cons_zero, List.set_cons_succ])
  refine take_first (v := ?_) 1 rfl (by kernel_rfl) (by kernel_rfl) (by kernel_rfl) (fun _ _ _ h => h) (Or.inl ⟨by rfl, ?_⟩) (by assumption) ?_
  rotate_left
  · (intro w hSw; (try dsimp only at hSw); go_simp; try with_reducible rfl)
  (try simp only [Act.put, List.setIfInBounds_toArray, List.set_cons_zero, List.set_cons_succ])
  refine step_one 2 rfl (by kernel_rfl) (fun K hK => ?_)
  clear hHeld
  go_simp
  have r1 := (HM.out.blk 1 rfl).rd 0 32 (by rw [HL.out.2.2]; omega)
  have r2 := (HM.out.blk 0 rfl).rd 0 32 (by decide)
  rw [List.drop_zero, List.take_of_length_le (by rw [HL.out.2.2]; omega)] at r1
  rw [List.drop_zero, List.take_of_length_le (by decide)] at r2
  refine (equal_any wd1.heap.size 32 32 32 32 _ _ r zeroK (by omega) (by omega) _ (Nat.le_refl _) (r1.mono (HM.out.blk 1 rfl).lt) (r2.mono (HM.out.blk 0 rfl).lt)).mono ?_
  rintro e wy2 ⟨rfl, hb⟩
  replace HM := Lib.hid (show Mem w [blkE P7 23 (zeroK.map u8v), blkE P6 23 (r.map u8v), blkE (w.heap.size + 1 + 1) 23 (aeZ 32)] wy2 from HM.out.below hb)
  clear hb r1 r2
  go_wp2_with fail
  refine hK.out _ _ (HM.out) (fun hHeld => ?_)
  clear hK K
  (try simp only [Act.put, List.setIfInBounds_toArray, List.set_cons_zero, List.set_cons_succ])
  refine wpAnyH_done (by kernel_rfl) ?_ _
  clear hHeld
  have HQ2 := HM
  clear HM
  revert wy2
  intro w9 HM
  rw [HE.out.1]
  cases q with
  | true =>
    go_wp2_with (first | (refine wpList_build_as rfl 23 [] rfl cz HC.out.2.2.2.2 ?_) | (refine wpList_store_blk rfl 23 (.tmp 4) (.tmp 14) rfl (w.heap.size + 1 + 1) (zeroK.map u8v) rfl (by show Value.agg cz = _; rw [HC.out.2.2.2.1]) 23 (aeZ 32) (HM.out.blk 2 rfl) (cells32 zeroK (rfl)) (len32 (rfl) (rfl)) (u8v_one _) ?_; intro w8 hb9 hg9))
    exact bodyPost_ret (results_key rfl _ _ (w.heap.size + 1 + 1) 23 (zeroK.map u8v) 32 5 rfl hb9 Try.underlying23 (cells32 zeroK rfl)) rfl ⟨by have h := HE.out.1; rw [HE.out.2, ← HC.out.2.2.1, show r = zeroK by simpa using h]; rfl, (HM.out.put 2 rfl _ hg9 hb9).bel⟩
  | false =>
    go_wp2_with (first | (refine wpList_load_blk rfl 23 (.tmp 6) rfl P6 rfl 23 (r.map u8v) (HM.out.blk 1 rfl) 32 5 Try.underlying23 (cells32 r (HL.out.2.2)) ?_; rw [HC.out.2.2.1]) | (refine wpList_store_blk rfl 23 (.tmp 4) (.tmp 15) rfl (w.heap.size + 1 + 1) (r.map u8v) rfl (by show Value.agg cr = _; rw [HC.out.2.2.1]) 23 (aeZ 32) (HM.out.blk 2 rfl) (cells32 r (HL.out.2.2)) (len32 (HL.out.2.2) (rfl)) (u8v_one _) ?_; intro w8 hb9 hg9))
    exact bodyPost_ret (results_key rfl _ _ (w.heap.size + 1 + 1) 23 (r.map u8v) 32 5 rfl hb9 Try.underlying23 (cells32 r HL.out.2.2)) rfl ⟨by rw [HE.out.2, HC.out.2.2.1]; rfl, (HM.out.put 2 rfl _ hg9 hb9).bel⟩
end Go.Proofs.Ytgdgecehmnokdaa
