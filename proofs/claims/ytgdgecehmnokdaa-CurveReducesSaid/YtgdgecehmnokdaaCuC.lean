/-
  The contracts of the reference's Public and Share, what is asked of the program's curve, and the example. No statement is proved here.
-/
import Derived.Test.YtgdgecehmnokdaaCells32
import Derived.Test.YtgdgecehmnokdaaCuMul
namespace Go.Proofs.Ytgdgecehmnokdaa
open Go.RowKit

def nineL : List UInt8 := 9 :: List.replicate 31 0
def zeroK : List UInt8 := List.replicate 32 0
theorem nineL_length : nineL.length = 32 := rfl
theorem nine_built : Try.prog.built 23 [(0, .int .u8 9)] = some (nineL.map u8v).toArray := by kernel_rfl
theorem zero_built : Try.prog.built 23 [] = some (zeroK.map u8v).toArray := by kernel_rfl
/-- the error of a shared secret -/
def shareE (r : List UInt8) : Nat := if r == zeroK then 21 else 0
def CuClampC : Prop := ∀ k : List UInt8, k.length = 32 → ∀ w : World,
  Calls Try.prog 14 #[.agg (k.map u8v).toArray] w fun e w' => e = .returned (.agg ((clampL k).map u8v).toArray) ∧ Below w.heap.size w w'
def CuMulC : Prop := ∀ k u : List UInt8, k.length = 32 → u.length = 32 → ∀ w : World,
  Calls Try.prog 12 #[.agg (k.map u8v).toArray, .agg (u.map u8v).toArray] w fun e w' => e = .returned (.agg ((mulL k u).map u8v).toArray) ∧ Below w.heap.size w w'
def CuPublicC : Prop := ∀ k : List UInt8, k.length = 32 → ∀ w : World,
  Calls Try.prog 16 #[.agg (k.map u8v).toArray] w fun e w' => e = .returned (.agg ((mulL k nineL).map u8v).toArray) ∧ Below w.heap.size w w'
def CuShareC : Prop := ∀ k u : List UInt8, k.length = 32 → u.length = 32 → ∀ w : World,
  Calls Try.prog 10 #[.agg (k.map u8v).toArray, .agg (u.map u8v).toArray] w fun e w' => e = .returned (.tuple #[.agg ((mulL k u).map u8v).toArray, .int .i64 (shareE (mulL k u) : Int)]) ∧ Below w.heap.size w w'
def exA : List UInt8 := [0xa5, 0x46, 0xe3, 0x6b, 0xf0, 0x52, 0x7c, 0x9d, 0x3b, 0x16, 0x15, 0x4b, 0x82, 0x46, 0x5e, 0xdd, 0x62, 0x14, 0x4c, 0x0a, 0xc1, 0xfc, 0x5a, 0x18, 0x50, 0x6a, 0x22, 0x44, 0xba, 0x44, 0x9a, 0xc4]
def exU : List UInt8 := [0xe6, 0xdb, 0x68, 0x67, 0x58, 0x30, 0x30, 0xdb, 0x35, 0x94, 0xc1, 0xa4, 0x24, 0xb1, 0x5f, 0x7c, 0x72, 0x66, 0x24, 0xec, 0x26, 0xb3, 0x35, 0x3b, 0x10, 0xa9, 0x03, 0xa6, 0xd0, 0xab, 0x1c, 0x4c]
def exR : List UInt8 := [0xc3, 0xda, 0x55, 0x37, 0x9d, 0xe9, 0xc6, 0x90, 0x8e, 0x94, 0xea, 0x4d, 0xf2, 0x8d, 0x08, 0x4f, 0x32, 0xec, 0xcf, 0x03, 0x49, 0x1c, 0x71, 0xf7, 0x54, 0xb4, 0x07, 0x55, 0x77, 0xa2, 0x85, 0x52]
theorem ladU_n (c u : Cu.Fq) (bits : List Bool) : (Cu.ladU c u bits).val = (Cu.ladN c u bits).x2.val * Cu.pm Cu.P25 256 (Cu.ladN c u bits).z2.val (Cu.P25 - 2) % Cu.P25 := by
  rw [Cu.ladU, Cu.num, Cu.finv_eq, Cu.fq_mul_n, Cu.fpow_n, Cu.pm_eq Cu.P25 256 _ _ (by decide +kernel)]
theorem ex_eval : ((Cu.ladN Cu.fqC (Cu.fq ((numL exU % 2 ^ 255 : Nat) : Int)) (bitsOf (clampL exA))).x2.val * Cu.pm Cu.P25 256 (Cu.ladN Cu.fqC (Cu.fq ((numL exU % 2 ^ 255 : Nat) : Int)) (bitsOf (clampL exA))).z2.val (Cu.P25 - 2)) % Cu.P25 = numL exR := by decide +kernel
theorem ex_mul : mulL exA exU = exR := by
  rw [mulL, fqB, ladU_n, ex_eval]
  exact cuLittle_numL 32 exR rfl
/-- the two ways to a shared secret -/
theorem mul_comm (a b : List UInt8) (ha : a.length = 32) (hb : b.length = 32) : mulL a (mulL b nineL) = mulL b (mulL a nineL) := by
  have hv : ∀ x : Cu.Fq, Cu.fq ((numL (fqB x) % 2 ^ 255 : Nat) : Int) = x := by
    intro x
    have hx := x.isLt
    have hp : Cu.P25 < 2 ^ 255 := by decide +kernel
    have hp2 : (2 : Nat) ^ 255 < 256 ^ 32 := by decide +kernel
    rw [fqB, numL_little, Nat.mod_eq_of_lt (a := x.val) (by omega), Nat.mod_eq_of_lt (by omega)]
    apply Cu.fq_ext
    rw [Cu.fq_n]
    exact Int.emod_eq_of_lt (by omega) (by omega)
  have h9 : Cu.fq ((numL nineL % 2 ^ 255 : Nat) : Int) = Cu.fq9 := by decide +kernel
  obtain ⟨i, hi⟩ := bitsOf_even a ha
  obtain ⟨j, hj⟩ := bitsOf_even b hb
  rw [mulL, mulL, mulL, mulL, hv, hv, h9]
  exact congrArg fqB (Cu.fq_comm (bitsOf (clampL a)) (bitsOf (clampL b)) i j hi hj)
theorem mul_zero (a : List UInt8) : mulL a zeroK = zeroK := by
  have h0 : Cu.fq ((numL zeroK % 2 ^ 255 : Nat) : Int) = 0 := by decide +kernel
  rw [mulL, h0, Cu.ladU_zero]
  decide +kernel

set_option maxRecDepth 100000 in
theorem refPublic_any (k : List UInt8) (hk : k.length = 32) (w : World) :
    Calls Try.prog 17 #[.agg (k.map u8v).toArray] w fun e w' => e = .returned (.agg ((mulL k nineL).map u8v).toArray) ∧ Below w.heap.size w w' := by
  have MC := fun W : World => refMul_any k nineL hk rfl W
  have hl := mulL_length k nineL
  have hb9 := nine_built
  generalize mulL k nineL = r at MC hl ⊢
  obtain ⟨ck, hck⟩ : ∃ c, (k.map u8v).toArray = c := ⟨_, rfl⟩
  obtain ⟨cn, hcn⟩ : ∃ c, (nineL.map u8v).toArray = c := ⟨_, rfl⟩
  obtain ⟨cr, hcr⟩ : ∃ c, (r.map u8v).toArray = c := ⟨_, rfl⟩
  rw [hck, hcn, hcr] at MC
  rw [hcn] at hb9
  rw [hck, hcr]
  have HM := Lib.hid (show Mem w [blkE (w.heap.size + 1) 23 (aeZ 32), blkE w.heap.size 23 (k.map u8v)] ((w.alloc (.cells ck 23)).alloc (.cells #[.int .u8 0, .int .u8 0, .int .u8 0, .int .u8 0, .int .u8 0, .int .u8 0, .int .u8 0, .int .u8 0, .int .u8 0, .int .u8 0, .int .u8 0, .int .u8 0, .int .u8 0, .int .u8 0, .int .u8 0, .int .u8 0, .int .u8 0, .int .u8 0, .int .u8 0, .int .u8 0, .int .u8 0, .int .u8 0, .int .u8 0, .int .u8 0, .int .u8 0, .int .u8 0, .int .u8 0, .int .u8 0, .int .u8 0, .int .u8 0, .int .u8 0, .int .u8 0] 23)) from ((Mem.nil w).alloc rfl 23 ck (k.map u8v) hck.symm).alloc (by simp) 23 #[.int .u8 0, .int .u8 0, .int .u8 0, .int .u8 0, .int .u8 0, .int .u8 0, .int .u8 0, .int .u8 0, .int .u8 0, .int .u8 0, .int .u8 0, .int .u8 0, .int .u8 0, .int .u8 0, .int .u8 0, .int .u8 0, .int .u8 0, .int .u8 0, .int .u8 0, .int .u8 0, .int .u8 0, .int .u8 0, .int .u8 0, .int .u8 0, .int .u8 0, .int .u8 0, .int .u8 0, .int .u8 0, .int .u8 0, .int .u8 0, .int .u8 0, .int .u8 0] (aeZ 32) rfl)
  have HC := Lib.hid (And.intro hck (And.intro hcr hb9))
  have HL := Lib.hid (And.intro hk hl)
  have HMC := Lib.hid MC
  clear hck hcn hcr hb9 hk hl MC
  go_enter Try.func17, Try.ntmps17
  go_upto_region 1 with fail
  generalize ((w.alloc (.cells ck 23)).alloc (.cells #[.int .u8 0, .int .u8 0, .int .u8 0, .int .u8 0, .int .u8 0, .int .u8 0, .int .u8 0, .int .u8 0, .int .u8 0, .int .u8 0, .int .u8 0, .int .u8 0, .int .u8 0, .int .u8 0, .int .u8 0, .int .u8 0, .int .u8 0, .int .u8 0, .int .u8 0, .int .u8 0, .int .u8 0, .int .u8 0, .int .u8 0, .int .u8 0, .int .u8 0, .int .u8 0, .int .u8 0, .int .u8 0, .int .u8 0, .int .u8 0, .int .u8 0, .int .u8 0] 23)) = w1 at HM ⊢
  go_wp2_with (first | (refine wpList_load_blk rfl 23 (.tmp 1) rfl w.heap.size rfl 23 (k.map u8v) (HM.out.blk 1 rfl) 32 5 Try.underlying23 (cells32 k HL.out.1) ?_; rw [HC.out.1]) | (refine wpList_build_as rfl 23 [(0, .const (.int .u8 9))] rfl cn HC.out.2.2 ?_))
  refine (HMC.out _).mono ?_
  rintro e w2 ⟨rfl, hb⟩
  replace HM := Lib.hid (HM.out.below hb)
  clear hb
  go_wp2_with (refine wpList_store_blk rfl 23 (.tmp 2) (.tmp 5) rfl (w.heap.size + 1) (r.map u8v) rfl (by show Value.agg cr = _; rw [HC.out.2.1]) 23 (aeZ 32) (HM.out.blk 0 rfl) (cells32 r HL.out.2) (by rw [List.length_map, HL.out.2]; rfl) (u8v_one _) ?_; intro w9 hb9 hg9)
  exact bodyPost_ret (results_blk rfl _ _ (w.heap.size + 1) 23 (r.map u8v) 32 5 rfl hb9 Try.underlying23 (cells32 r HL.out.2)) rfl ⟨by rw [HC.out.2.1], (HM.out.put 0 rfl _ hg9 hb9).bel⟩

set_option maxRecDepth 100000 in
theorem refShare_any (k u : List UInt8) (hk : k.length = 32) (hu : u.length = 32) (w : World) :
    Calls Try.prog 11 #[.agg (k.map u8v).toArray, .agg (u.map u8v).toArray] w fun e w' => e = .returned (.tuple #[.agg ((mulL k u).map u8v).toArray, .int .i64 (shareE (mulL k u) : Int)]) ∧ Below w.heap.size w w' := by
  obtain ⟨i0, hi, hz0, hz1, hz2⟩ := info_parts Try.info5
  have MC := fun W : World => refMul_any k u hk hu W
  have hl := mulL_length k u
  have hb9 := zero_built
  generalize mulL k u = r at MC hl ⊢
  have ex := fun w' : World => run_key_eq (P := Try.prog) 23 5 32 Try.underlying23 Try.underlying5 i0 hi hz1 r zeroK hl rfl w'
  obtain ⟨ck, hck⟩ : ∃ c, (k.map u8v).toArray = c := ⟨_, rfl⟩
  obtain ⟨cu, hcu⟩ : ∃ c, (u.map u8v).toArray = c := ⟨_, rfl⟩
  obtain ⟨cz, hcz⟩ : ∃ c, (zeroK.map u8v).toArray = c := ⟨_, rfl⟩
  obtain ⟨cr, hcr⟩ : ∃ c, (r.map u8v).toArray = c := ⟨_, rfl⟩
  rw [hck, hcu, hcr] at MC
  rw [hcz] at hb9
  rw [hcr, hcz] at ex
  rw [hck, hcu, hcr]
  have HM := Lib.hid (show Mem w [blkE (w.heap.size + 1 + 1) 23 (aeZ 32), blkE (w.heap.size + 1) 23 (u.map u8v), blkE w.heap.size 23 (k.map u8v)] (((w.alloc (.cells ck 23)).alloc (.cells cu 23)).alloc (.cells #[.int .u8 0, .int .u8 0, .int .u8 0, .int .u8 0, .int .u8 0, .int .u8 0, .int .u8 0, .int .u8 0, .int .u8 0, .int .u8 0, .int .u8 0, .int .u8 0, .int .u8 0, .int .u8 0, .int .u8 0, .int .u8 0, .int .u8 0, .int .u8 0, .int .u8 0, .int .u8 0, .int .u8 0, .int .u8 0, .int .u8 0, .int .u8 0, .int .u8 0, .int .u8 0, .int .u8 0, .int .u8 0, .int .u8 0, .int .u8 0, .int .u8 0, .int .u8 0] 23)) from (((Mem.nil w).alloc rfl 23 ck (k.map u8v) hck.symm).alloc (by simp) 23 cu (u.map u8v) hcu.symm).alloc (by simp) 23 #[.int .u8 0, .int .u8 0, .int .u8 0, .int .u8 0, .int .u8 0, .int .u8 0, .int .u8 0, .int .u8 0, .int .u8 0, .int .u8 0, .int .u8 0, .int .u8 0, .int .u8 0, .int .u8 0, .int .u8 0, .int .u8 0, .int .u8 0, .int .u8 0, .int .u8 0, .int .u8 0, .int .u8 0, .int .u8 0, .int .u8 0, .int .u8 0, .int .u8 0, .int .u8 0, .int .u8 0, .int .u8 0, .int .u8 0, .int .u8 0, .int .u8 0, .int .u8 0] (aeZ 32) rfl)
  have HC := Lib.hid (And.intro hck (And.intro hcu (And.intro hcr hb9)))
  have HL := Lib.hid (And.intro hk (And.intro hu hl))
  have HMC := Lib.hid MC
  obtain ⟨q, hq⟩ : ∃ q, (r == zeroK) = q := ⟨_, rfl⟩
  rw [hq] at ex
  have HE := Lib.hid (show shareE r = if q then 21 else 0 by rw [shareE, hq])
  clear hck hcu hcz hcr hb9 hk hu hl MC hq
  go_enter Try.func11, Try.ntmps11
  go_upto_region 1 with fail
  generalize (((w.alloc (.cells ck 23)).alloc (.cells cu 23)).alloc (.cells #[.int .u8 0, .int .u8 0, .int .u8 0, .int .u8 0, .int .u8 0, .int .u8 0, .int .u8 0, .int .u8 0, .int .u8 0, .int .u8 0, .int .u8 0, .int .u8 0, .int .u8 0, .int .u8 0, .int .u8 0, .int .u8 0, .int .u8 0, .int .u8 0, .int .u8 0, .int .u8 0, .int .u8 0, .int .u8 0, .int .u8 0, .int .u8 0, .int .u8 0, .int .u8 0, .int .u8 0, .int .u8 0, .int .u8 0, .int .u8 0, .int .u8 0, .int .u8 0] 23)) = w1 at HM ⊢
  go_wp2_with (first | (refine wpList_load_blk rfl 23 (.tmp 2) rfl w.heap.size rfl 23 (k.map u8v) (HM.out.blk 2 rfl) 32 5 Try.underlying23 (cells32 k HL.out.1) ?_; rw [HC.out.1]) | (refine wpList_load_blk rfl 23 (.tmp 3) rfl (w.heap.size + 1) rfl 23 (u.map u8v) (HM.out.blk 1 rfl) 32 5 Try.underlying23 (cells32 u HL.out.2.1) ?_; rw [HC.out.2.1]))
  refine (HMC.out _).mono ?_
  rintro e w2 ⟨rfl, hb⟩
  replace HM := Lib.hid (HM.out.below hb)
  clear hb
  have HA := Lib.hid (HM.out.alloc rfl 23 #[.int .u8 0, .int .u8 0, .int .u8 0, .int .u8 0, .int .u8 0, .int .u8 0, .int .u8 0, .int .u8 0, .int .u8 0, .int .u8 0, .int .u8 0, .int .u8 0, .int .u8 0, .int .u8 0, .int .u8 0, .int .u8 0, .int .u8 0, .int .u8 0, .int .u8 0, .int .u8 0, .int .u8 0, .int .u8 0, .int .u8 0, .int .u8 0, .int .u8 0, .int .u8 0, .int .u8 0, .int .u8 0, .int .u8 0, .int .u8 0, .int .u8 0, .int .u8 0] (aeZ 32) rfl)
  go_upto_region 2 with (refine wpList_store_blk rfl 23 (.tmp 6) (.tmp 9) rfl w2.heap.size (r.map u8v) rfl (by show Value.agg cr = _; rw [HC.out.2.2.1]) 23 (aeZ 32) (HA.out.blk 0 rfl) (cells32 r HL.out.2.2) (by rw [List.length_map, HL.out.2.2]; rfl) (u8v_one _) ?_; intro w3 hb9 hg9)
  (try simp only [Act.put])
  replace HM := Lib.hid (HA.out.put 0 rfl (r.map u8v) hg9 hb9)
  clear HA hb9 hg9
  generalize w2.heap.size = P6 at HM ⊢
  cases q with
  | true =>
    go_wp2_with (first | (refine wpList_load_blk rfl 23 (.tmp 6) rfl P6 rfl 23 (r.map u8v) (HM.out.blk 0 rfl) 32 5 Try.underlying23 (cells32 r HL.out.2.2) ?_; rw [HC.out.2.2.1]) | (refine wpList_build_as rfl 23 [] rfl cz HC.out.2.2.2 ?_) | (refine wpList_store_blk rfl 23 (.tmp 4) (.tmp 13) rfl (w.heap.size + 1 + 1) (r.map u8v) rfl (by show Value.agg cr = _; rw [HC.out.2.2.1]) 23 (aeZ 32) (HM.out.blk 1 rfl) (cells32 r HL.out.2.2) (by rw [List.length_map, HL.out.2.2]; rfl) (u8v_one _) ?_; intro w9 hb9 hg9))
    exact bodyPost_ret (results_key rfl _ _ (w.heap.size + 1 + 1) 23 (r.map u8v) 32 5 rfl hb9 Try.underlying23 (cells32 r HL.out.2.2)) rfl ⟨by rw [HC.out.2.2.1, HE.out]; rfl, (HM.out.put 1 rfl _ hg9 hb9).bel⟩
  | false =>
    go_wp2_with (first | (refine wpList_load_blk rfl 23 (.tmp 6) rfl P6 rfl 23 (r.map u8v) (HM.out.blk 0 rfl) 32 5 Try.underlying23 (cells32 r HL.out.2.2) ?_; rw [HC.out.2.2.1]) | (refine wpList_build_as rfl 23 [] rfl cz HC.out.2.2.2 ?_) | (refine wpList_store_blk rfl 23 (.tmp 4) (.tmp 14) rfl (w.heap.size + 1 + 1) (r.map u8v) rfl (by show Value.agg cr = _; rw [HC.out.2.2.1]) 23 (aeZ 32) (HM.out.blk 1 rfl) (cells32 r HL.out.2.2) (by rw [List.length_map, HL.out.2.2]; rfl) (u8v_one _) ?_; intro w9 hb9 hg9))
    exact bodyPost_ret (results_key rfl _ _ (w.heap.size + 1 + 1) 23 (r.map u8v) 32 5 rfl hb9 Try.underlying23 (cells32 r HL.out.2.2)) rfl ⟨by rw [HC.out.2.2.1, HE.out]; rfl, (HM.out.put 1 rfl _ hg9 hb9).bel⟩

set_option maxRecDepth 100000 in
theorem cu_begun_any (HMU : CuMulC) (w : World) : Calls Try.prog 13 #[] w fun e w' => e = .returned (.bool true) ∧ Below w.heap.size w w' := by
  obtain ⟨i0, hi, hz0, hz1, hz2⟩ := info_parts Try.info5
  have MC := fun W : World => HMU exA exU rfl rfl W
  rw [ex_mul] at MC
  have ex := fun w' : World => run_key_eq (P := Try.prog) 23 5 32 Try.underlying23 Try.underlying5 i0 hi hz1 exR exR rfl rfl w'
  rw [show (exR == exR) = true by simp] at ex
  have bA : Try.prog.built 23 [(0, .int .u8 165), (1, .int .u8 70), (2, .int .u8 227), (3, .int .u8 107), (4, .int .u8 240), (5, .int .u8 82), (6, .int .u8 124), (7, .int .u8 157), (8, .int .u8 59), (9, .int .u8 22), (10, .int .u8 21), (11, .int .u8 75), (12, .int .u8 130), (13, .int .u8 70), (14, .int .u8 94), (15, .int .u8 221), (16, .int .u8 98), (17, .int .u8 20), (18, .int .u8 76), (19, .int .u8 10), (20, .int .u8 193), (21, .int .u8 252), (22, .int .u8 90), (23, .int .u8 24), (24, .int .u8 80), (25, .int .u8 106), (26, .int .u8 34), (27, .int .u8 68), (28, .int .u8 186), (29, .int .u8 68), (30, .int .u8 154), (31, .int .u8 196)] = some (exA.map u8v).toArray := by kernel_rfl
  have bU : Try.prog.built 23 [(0, .int .u8 230), (1, .int .u8 219), (2, .int .u8 104), (3, .int .u8 103), (4, .int .u8 88), (5, .int .u8 48), (6, .int .u8 48), (7, .int .u8 219), (8, .int .u8 53), (9, .int .u8 148), (10, .int .u8 193), (11, .int .u8 164), (12, .int .u8 36), (13, .int .u8 177), (14, .int .u8 95), (15, .int .u8 124), (16, .int .u8 114), (17, .int .u8 102), (18, .int .u8 36), (19, .int .u8 236), (20, .int .u8 38), (21, .int .u8 179), (22, .int .u8 53), (23, .int .u8 59), (24, .int .u8 16), (25, .int .u8 169), (26, .int .u8 3), (27, .int .u8 166), (28, .int .u8 208), (29, .int .u8 171), (30, .int .u8 28), (31, .int .u8 76)] = some (exU.map u8v).toArray := by kernel_rfl
  have bR : Try.prog.built 23 [(0, .int .u8 195), (1, .int .u8 218), (2, .int .u8 85), (3, .int .u8 55), (4, .int .u8 157), (5, .int .u8 233), (6, .int .u8 198), (7, .int .u8 144), (8, .int .u8 142), (9, .int .u8 148), (10, .int .u8 234), (11, .int .u8 77), (12, .int .u8 242), (13, .int .u8 141), (14, .int .u8 8), (15, .int .u8 79), (16, .int .u8 50), (17, .int .u8 236), (18, .int .u8 207), (19, .int .u8 3), (20, .int .u8 73), (21, .int .u8 28), (22, .int .u8 113), (23, .int .u8 247), (24, .int .u8 84), (25, .int .u8 180), (26, .int .u8 7), (27, .int .u8 85), (28, .int .u8 119), (29, .int .u8 162), (30, .int .u8 133), (31, .int .u8 82)] = some (exR.map u8v).toArray := by kernel_rfl
  obtain ⟨ca, hca⟩ : ∃ c, (exA.map u8v).toArray = c := ⟨_, rfl⟩
  obtain ⟨cu, hcu⟩ : ∃ c, (exU.map u8v).toArray = c := ⟨_, rfl⟩
  obtain ⟨cr, hcr⟩ : ∃ c, (exR.map u8v).toArray = c := ⟨_, rfl⟩
  rw [hca, hcu, hcr] at MC
  rw [hca] at bA
  rw [hcu] at bU
  rw [hcr] at bR ex
  have HC := Lib.hid (And.intro hca (And.intro hcu (And.intro bA (And.intro bU bR))))
  have HMC := Lib.hid MC
  clear MC hca hcu hcr bA bU bR HMU
  have HA := Lib.hid (show Mem w [blkE w.heap.size 23 (aeZ 32)] (w.alloc (.cells #[.int .u8 0, .int .u8 0, .int .u8 0, .int .u8 0, .int .u8 0, .int .u8 0, .int .u8 0, .int .u8 0, .int .u8 0, .int .u8 0, .int .u8 0, .int .u8 0, .int .u8 0, .int .u8 0, .int .u8 0, .int .u8 0, .int .u8 0, .int .u8 0, .int .u8 0, .int .u8 0, .int .u8 0, .int .u8 0, .int .u8 0, .int .u8 0, .int .u8 0, .int .u8 0, .int .u8 0, .int .u8 0, .int .u8 0, .int .u8 0, .int .u8 0, .int .u8 0] 23)) from (Mem.nil w).alloc rfl 23 #[.int .u8 0, .int .u8 0, .int .u8 0, .int .u8 0, .int .u8 0, .int .u8 0, .int .u8 0, .int .u8 0, .int .u8 0, .int .u8 0, .int .u8 0, .int .u8 0, .int .u8 0, .int .u8 0, .int .u8 0, .int .u8 0, .int .u8 0, .int .u8 0, .int .u8 0, .int .u8 0, .int .u8 0, .int .u8 0, .int .u8 0, .int .u8 0, .int .u8 0, .int .u8 0, .int .u8 0, .int .u8 0, .int .u8 0, .int .u8 0, .int .u8 0, .int .u8 0] (aeZ 32) rfl)
  go_enter Try.func13, Try.ntmps13
  go_upto_region 2 with (first | (refine wpList_build_as rfl 23 [(0, .const (.int .u8 165)), (1, .const (.int .u8 70)), (2, .const (.int .u8 227)), (3, .const (.int .u8 107)), (4, .const (.int .u8 240)), (5, .const (.int .u8 82)), (6, .const (.int .u8 124)), (7, .const (.int .u8 157)), (8, .const (.int .u8 59)), (9, .const (.int .u8 22)), (10, .const (.int .u8 21)), (11, .const (.int .u8 75)), (12, .const (.int .u8 130)), (13, .const (.int .u8 70)), (14, .const (.int .u8 94)), (15, .const (.int .u8 221)), (16, .const (.int .u8 98)), (17, .const (.int .u8 20)), (18, .const (.int .u8 76)), (19, .const (.int .u8 10)), (20, .const (.int .u8 193)), (21, .const (.int .u8 252)), (22, .const (.int .u8 90)), (23, .const (.int .u8 24)), (24, .const (.int .u8 80)), (25, .const (.int .u8 106)), (26, .const (.int .u8 34)), (27, .const (.int .u8 68)), (28, .const (.int .u8 186)), (29, .const (.int .u8 68)), (30, .const (.int .u8 154)), (31, .const (.int .u8 196))] rfl ca HC.out.2.2.1 ?_) | (refine wpList_store_blk rfl 23 (.tmp 1) (.tmp 3) rfl w.heap.size (exA.map u8v) rfl (by show Value.agg ca = _; rw [HC.out.1]) 23 (aeZ 32) (HA.out.blk 0 rfl) (cells32 exA rfl) (by rfl) (u8v_one _) ?_; intro w1 hb9 hg9))
  (try simp only [Act.put])
  replace HA := Lib.hid (show Mem w [blkE w.heap.size 23 (exA.map u8v)] w1 from HA.out.put 0 rfl _ hg9 hb9)
  clear hb9 hg9
  have HM := Lib.hid (show Mem w [blkE w1.heap.size 23 (aeZ 32), blkE w.heap.size 23 (exA.map u8v)] (w1.alloc (.cells #[.int .u8 0, .int .u8 0, .int .u8 0, .int .u8 0, .int .u8 0, .int .u8 0, .int .u8 0, .int .u8 0, .int .u8 0, .int .u8 0, .int .u8 0, .int .u8 0, .int .u8 0, .int .u8 0, .int .u8 0, .int .u8 0, .int .u8 0, .int .u8 0, .int .u8 0, .int .u8 0, .int .u8 0, .int .u8 0, .int .u8 0, .int .u8 0, .int .u8 0, .int .u8 0, .int .u8 0, .int .u8 0, .int .u8 0, .int .u8 0, .int .u8 0, .int .u8 0] 23)) from HA.out.alloc rfl 23 #[.int .u8 0, .int .u8 0, .int .u8 0, .int .u8 0, .int .u8 0, .int .u8 0, .int .u8 0, .int .u8 0, .int .u8 0, .int .u8 0, .int .u8 0, .int .u8 0, .int .u8 0, .int .u8 0, .int .u8 0, .int .u8 0, .int .u8 0, .int .u8 0, .int .u8 0, .int .u8 0, .int .u8 0, .int .u8 0, .int .u8 0, .int .u8 0, .int .u8 0, .int .u8 0, .int .u8 0, .int .u8 0, .int .u8 0, .int .u8 0, .int .u8 0, .int .u8 0] (aeZ 32) rfl)
  go_upto_region 3 with (first | (refine wpList_build_as rfl 23 [(0, .const (.int .u8 230)), (1, .const (.int .u8 219)), (2, .const (.int .u8 104)), (3, .const (.int .u8 103)), (4, .const (.int .u8 88)), (5, .const (.int .u8 48)), (6, .const (.int .u8 48)), (7, .const (.int .u8 219)), (8, .const (.int .u8 53)), (9, .const (.int .u8 148)), (10, .const (.int .u8 193)), (11, .const (.int .u8 164)), (12, .const (.int .u8 36)), (13, .const (.int .u8 177)), (14, .const (.int .u8 95)), (15, .const (.int .u8 124)), (16, .const (.int .u8 114)), (17, .const (.int .u8 102)), (18, .const (.int .u8 36)), (19, .const (.int .u8 236)), (20, .const (.int .u8 38)), (21, .const (.int .u8 179)), (22, .const (.int .u8 53)), (23, .const (.int .u8 59)), (24, .const (.int .u8 16)), (25, .const (.int .u8 169)), (26, .const (.int .u8 3)), (27, .const (.int .u8 166)), (28, .const (.int .u8 208)), (29, .const (.int .u8 171)), (30, .const (.int .u8 28)), (31, .const (.int .u8 76))] rfl cu HC.out.2.2.2.1 ?_) | (refine wpList_store_blk rfl 23 (.tmp 2) (.tmp 4) rfl w1.heap.size (exU.map u8v) rfl (by show Value.agg cu = _; rw [HC.out.2.1]) 23 (aeZ 32) (HM.out.blk 0 rfl) (cells32 exU rfl) (by rfl) (u8v_one _) ?_; intro w2 hb9 hg9))
  (try simp only [Act.put])
  replace HM := Lib.hid (show Mem w [blkE w1.heap.size 23 (exU.map u8v), blkE w.heap.size 23 (exA.map u8v)] w2 from HM.out.put 0 rfl _ hg9 hb9)
  clear hb9 hg9 HA
  generalize w1.heap.size = P2 at HM ⊢
  go_wp2_with (first | (refine wpList_load_blk rfl 23 (.tmp 1) rfl w.heap.size rfl 23 (exA.map u8v) (HM.out.blk 1 rfl) 32 5 Try.underlying23 (cells32 exA rfl) ?_; rw [HC.out.1]) | (refine wpList_load_blk rfl 23 (.tmp 2) rfl P2 rfl 23 (exU.map u8v) (HM.out.blk 0 rfl) 32 5 Try.underlying23 (cells32 exU rfl) ?_; rw [HC.out.2.1]))
  refine (HMC.out _).mono ?_
  rintro e w3 ⟨rfl, hb⟩
  have HF := Lib.hid (HM.out.below hb).bel
  clear hb HM
  go_wp2_with (refine wpList_build_as rfl 23 [(0, .const (.int .u8 195)), (1, .const (.int .u8 218)), (2, .const (.int .u8 85)), (3, .const (.int .u8 55)), (4, .const (.int .u8 157)), (5, .const (.int .u8 233)), (6, .const (.int .u8 198)), (7, .const (.int .u8 144)), (8, .const (.int .u8 142)), (9, .const (.int .u8 148)), (10, .const (.int .u8 234)), (11, .const (.int .u8 77)), (12, .const (.int .u8 242)), (13, .const (.int .u8 141)), (14, .const (.int .u8 8)), (15, .const (.int .u8 79)), (16, .const (.int .u8 50)), (17, .const (.int .u8 236)), (18, .const (.int .u8 207)), (19, .const (.int .u8 3)), (20, .const (.int .u8 73)), (21, .const (.int .u8 28)), (22, .const (.int .u8 113)), (23, .const (.int .u8 247)), (24, .const (.int .u8 84)), (25, .const (.int .u8 180)), (26, .const (.int .u8 7)), (27, .const (.int .u8 85)), (28, .const (.int .u8 119)), (29, .const (.int .u8 162)), (30, .const (.int .u8 133)), (31, .const (.int .u8 82))] rfl cr HC.out.2.2.2.2 ?_)
  go_ret
  exact ⟨rfl, HF.out⟩
end Go.Proofs.Ytgdgecehmnokdaa
