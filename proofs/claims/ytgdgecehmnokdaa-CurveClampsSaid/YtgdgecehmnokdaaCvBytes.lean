/-
  The contracts of the program's numberOf and bytesOf: bytes as five limbs of 51 bits, and back. No statement is proved here.
-/
import Derived.Test.YtgdgecehmnokdaaCells32
import Derived.Test.YtgdgecehmnokdaaCuWrite
import Derived.Test.YtgdgecehmnokdaaCvMul
import Derived.Test.YtgdgecehmnokdaaLittle
import Derived.Test.YtgdgecehmnokdaaLit
import Derived.Test.YtgdgecehmnokdaaWord
namespace Go.Proofs.Ytgdgecehmnokdaa.Cv
open Go.RowKit

/-! a number of bytes -/
def wrd (k : List UInt8) (i : Nat) : Nat := numL ((k.drop (8 * i)).take 8)
theorem wrd_lt (k : List UInt8) (i : Nat) : wrd k i < 18446744073709551616 := by
  have h := numL_take_lt (k.drop (8 * i)) 8
  rwa [show 2 ^ (8 * 8) = 18446744073709551616 by decide] at h
theorem wrd_sum (k : List UInt8) (h : k.length = 32) : numL k = wrd k 0 + wrd k 1 * 18446744073709551616 + wrd k 2 * 340282366920938463463374607431768211456 + wrd k 3 * 6277101735386680763835789423207666416102355444464034512896 := by
  have e : ∀ l : List UInt8, 8 ≤ l.length → numL l = numL (l.take 8) + 18446744073709551616 * numL (l.drop 8) := by
    intro l hl
    have := numL_append (l.take 8) (l.drop 8)
    rw [List.take_append_drop, List.length_take, Nat.min_eq_left hl, show (256 : Nat) ^ 8 = 18446744073709551616 by decide] at this
    exact this
  have e0 := e k (by omega)
  have e1 := e (k.drop 8) (by rw [List.length_drop]; omega)
  have e2 := e ((k.drop 8).drop 8) (by simp [h])
  have e3 := e (((k.drop 8).drop 8).drop 8) (by simp [h])
  have e4 : numL ((((k.drop 8).drop 8).drop 8).drop 8) = 0 := by
    rw [List.drop_drop, List.drop_drop, List.drop_drop, List.drop_eq_nil_of_le (by omega)]
    rfl
  rw [e4] at e3
  have w0 : numL (k.take 8) = wrd k 0 := rfl
  have w1 : numL ((k.drop 8).take 8) = wrd k 1 := rfl
  have w2 : numL (((k.drop 8).drop 8).take 8) = wrd k 2 := by rw [List.drop_drop]; rfl
  have w3 : numL ((((k.drop 8).drop 8).drop 8).take 8) = wrd k 3 := by rw [List.drop_drop, List.drop_drop]; rfl
  rw [e0, e1, e2, e3, w0, w1, w2, w3]
  omega
def nofL (k : List UInt8) : List Nat :=
  [wrd k 0 % 2251799813685248, wrd k 0 / 2251799813685248 + wrd k 1 % 274877906944 * 8192, wrd k 1 / 274877906944 + wrd k 2 % 33554432 * 67108864, wrd k 2 / 33554432 + wrd k 3 % 4096 * 549755813888, wrd k 3 / 4096 % 2251799813685248]
theorem nofL_val (k : List UInt8) (h : k.length = 32) : val (nofL k) = numL k % 2 ^ 255 := by
  rw [wrd_sum k h]
  have h0 := wrd_lt k 0
  have h1 := wrd_lt k 1
  have h2 := wrd_lt k 2
  have h3 := wrd_lt k 3
  simp only [val, nofL, dg, List.getD_cons_zero, List.getD_cons_succ]
  generalize wrd k 0 = w0 at *
  generalize wrd k 1 = w1 at *
  generalize wrd k 2 = w2 at *
  generalize wrd k 3 = w3 at *
  rw [show (2 : Nat) ^ 255 = 57896044618658097711785492504343953926634992332820282019728792003956564819968 by decide +kernel]
  omega
theorem nofL_small (k : List UInt8) : SmallN (nofL k) := by
  have h0 := wrd_lt k 0
  have h1 := wrd_lt k 1
  have h2 := wrd_lt k 2
  refine ⟨rfl, ?_, fun i hi => ?_⟩
  · have : dg (nofL k) 0 = wrd k 0 % 2251799813685248 := rfl
    omega
  · by_cases h5 : i < 5
    · have hi : i = 1 ∨ i = 2 ∨ i = 3 ∨ i = 4 := by omega
      rcases hi with rfl | rfl | rfl | rfl <;> simp only [nofL, dg, List.getD_cons_zero, List.getD_cons_succ] <;> omega
    · rw [dg_high _ _ (by simp [nofL]; omega)]; omega
theorem mid_51 (a b : Nat) (ha : a < 18446744073709551616) (_hb : b < 18446744073709551616) : ∃ x : Nat, bits BinOp.or IntKind.u64 ((a : Int) / 2251799813685248) (IntKind.u64.wrap ((b : Int) * 8192)) = (x : Int) ∧ bits BinOp.and IntKind.u64 (x : Int) 2251799813685247 = ((a / 2251799813685248 + b % 274877906944 * 8192 : Nat) : Int) := by
  have h1 : a / 2251799813685248 < 8192 := Nat.div_lt_of_lt_mul (by omega)
  have e1 : (a : Int) / 2251799813685248 = ((a / 2251799813685248 : Nat) : Int) := by rw [Int.natCast_ediv]; rfl
  generalize a / 2251799813685248 = x at h1 e1 ⊢
  have e2 : IntKind.u64.wrap ((b : Int) * 8192) = ((2 ^ 13 * (b % 2251799813685248) : Nat) : Int) := by rw [IntKind.wrap_u64]; omega
  have h3 : b % 2251799813685248 < 2251799813685248 := Nat.mod_lt _ (by omega)
  have h4 : b % 2251799813685248 % 274877906944 = b % 274877906944 := Nat.mod_mod_of_dvd b (by decide)
  generalize b % 2251799813685248 = y at h3 h4 e2
  refine ⟨x + 2 ^ 13 * y, ?_, ?_⟩
  · rw [e1, e2, u64_or_nat _ _ (by omega) (by omega), or_low y x 13 h1]
  · rw [mask51 _ (by omega), ← h4]
    congr 1
    omega
theorem mid_38 (a b : Nat) (ha : a < 18446744073709551616) (_hb : b < 18446744073709551616) : ∃ x : Nat, bits BinOp.or IntKind.u64 ((a : Int) / 274877906944) (IntKind.u64.wrap ((b : Int) * 67108864)) = (x : Int) ∧ bits BinOp.and IntKind.u64 (x : Int) 2251799813685247 = ((a / 274877906944 + b % 33554432 * 67108864 : Nat) : Int) := by
  have h1 : a / 274877906944 < 67108864 := Nat.div_lt_of_lt_mul (by omega)
  have e1 : (a : Int) / 274877906944 = ((a / 274877906944 : Nat) : Int) := by rw [Int.natCast_ediv]; rfl
  generalize a / 274877906944 = x at h1 e1 ⊢
  have e2 : IntKind.u64.wrap ((b : Int) * 67108864) = ((2 ^ 26 * (b % 274877906944) : Nat) : Int) := by rw [IntKind.wrap_u64]; omega
  have h3 : b % 274877906944 < 274877906944 := Nat.mod_lt _ (by omega)
  have h4 : b % 274877906944 % 33554432 = b % 33554432 := Nat.mod_mod_of_dvd b (by decide)
  generalize b % 274877906944 = y at h3 h4 e2
  refine ⟨x + 2 ^ 26 * y, ?_, ?_⟩
  · rw [e1, e2, u64_or_nat _ _ (by omega) (by omega), or_low y x 26 h1]
  · rw [mask51 _ (by omega), ← h4]
    congr 1
    omega
theorem mid_25 (a b : Nat) (ha : a < 18446744073709551616) (_hb : b < 18446744073709551616) : ∃ x : Nat, bits BinOp.or IntKind.u64 ((a : Int) / 33554432) (IntKind.u64.wrap ((b : Int) * 549755813888)) = (x : Int) ∧ bits BinOp.and IntKind.u64 (x : Int) 2251799813685247 = ((a / 33554432 + b % 4096 * 549755813888 : Nat) : Int) := by
  have h1 : a / 33554432 < 549755813888 := Nat.div_lt_of_lt_mul (by omega)
  have e1 : (a : Int) / 33554432 = ((a / 33554432 : Nat) : Int) := by rw [Int.natCast_ediv]; rfl
  generalize a / 33554432 = x at h1 e1 ⊢
  have e2 : IntKind.u64.wrap ((b : Int) * 549755813888) = ((2 ^ 39 * (b % 33554432) : Nat) : Int) := by rw [IntKind.wrap_u64]; omega
  have h3 : b % 33554432 < 33554432 := Nat.mod_lt _ (by omega)
  have h4 : b % 33554432 % 4096 = b % 4096 := Nat.mod_mod_of_dvd b (by decide)
  generalize b % 33554432 = y at h3 h4 e2
  refine ⟨x + 2 ^ 39 * y, ?_, ?_⟩
  · rw [e1, e2, u64_or_nat _ _ (by omega) (by omega), or_low y x 39 h1]
  · rw [mask51 _ (by omega), ← h4]
    congr 1
    omega
theorem cut_top (a : Nat) (ha : a < 18446744073709551616) : bits BinOp.and IntKind.u64 ((a : Int) / 4096) 2251799813685247 = ((a / 4096 % 2251799813685248 : Nat) : Int) := by
  have e1 : (a : Int) / 4096 = ((a / 4096 : Nat) : Int) := by rw [Int.natCast_ediv]; rfl
  rw [e1, mask51 _ (by omega)]

set_option maxRecDepth 100000 in
set_option maxHeartbeats 2000000 in
theorem numberOf_any (k : List UInt8) (hk : k.length = 32) (w : World) :
    Calls Try.prog 26 #[.agg (k.map u8v).toArray] w fun e w' => e = .returned (.agg ((nofL k).map uv).toArray) ∧ Below w.heap.size w w' := by
  obtain ⟨ck, hck⟩ : ∃ c, (k.map u8v).toArray = c := ⟨_, rfl⟩
  rw [hck]
  have HM := Lib.hid (show Mem w [blkE (w.heap.size + 1) 51 z5, blkE w.heap.size 23 (k.map u8v)] ((w.alloc (.cells ck 23)).alloc (.cells #[.int .u64 0, .int .u64 0, .int .u64 0, .int .u64 0, .int .u64 0] 51)) from ((Mem.nil w).alloc rfl 23 ck (k.map u8v) hck.symm).alloc (by simp) 51 #[.int .u64 0, .int .u64 0, .int .u64 0, .int .u64 0, .int .u64 0] z5 rfl)
  have k0 := mask51 (wrd k 0) (wrd_lt k 0)
  obtain ⟨x1, k1, k2⟩ := mid_51 (wrd k 0) (wrd k 1) (wrd_lt k 0) (wrd_lt k 1)
  obtain ⟨x2, k3, k4⟩ := mid_38 (wrd k 1) (wrd k 2) (wrd_lt k 1) (wrd_lt k 2)
  obtain ⟨x3, k5, k6⟩ := mid_25 (wrd k 2) (wrd k 3) (wrd_lt k 2) (wrd_lt k 3)
  have k7 := cut_top (wrd k 3) (wrd_lt k 3)
  have hnl : nofL k = [wrd k 0 % 2251799813685248, wrd k 0 / 2251799813685248 + wrd k 1 % 274877906944 * 8192, wrd k 1 / 274877906944 + wrd k 2 % 33554432 * 67108864, wrd k 2 / 33554432 + wrd k 3 % 4096 * 549755813888, wrd k 3 / 4096 % 2251799813685248] := rfl
  have r0 := (HM.out.blk 1 rfl).rd 0 8 (by omega)
  have r1 := (HM.out.blk 1 rfl).rd 8 8 (by omega)
  have r2 := (HM.out.blk 1 rfl).rd 16 8 (by omega)
  have r3 := (HM.out.blk 1 rfl).rd 24 8 (by omega)
  have e0 : numL (((k.drop 0).take 8).take 8) = wrd k 0 := by rw [List.take_take]; rfl
  have e1 : numL (((k.drop 8).take 8).take 8) = wrd k 1 := by rw [List.take_take]; rfl
  have e2 : numL (((k.drop 16).take 8).take 8) = wrd k 2 := by rw [List.take_take]; rfl
  have e3 : numL (((k.drop 24).take 8).take 8) = wrd k 3 := by rw [List.take_take]; rfl
  generalize (wrd k 0 % 2251799813685248) = d0 at k0 hnl
  generalize (wrd k 0 / 2251799813685248 + wrd k 1 % 274877906944 * 8192) = d1 at k2 hnl
  generalize (wrd k 1 / 274877906944 + wrd k 2 % 33554432 * 67108864) = d2 at k4 hnl
  generalize (wrd k 2 / 33554432 + wrd k 3 % 4096 * 549755813888) = d3 at k6 hnl
  generalize (wrd k 3 / 4096 % 2251799813685248) = d4 at k7 hnl
  generalize wrd k 0 = w0 at k0 k1 e0
  generalize wrd k 1 = w1' at k1 k3 e1
  generalize wrd k 2 = w2' at k3 k5 e2
  generalize wrd k 3 = w3' at k5 k7 e3
  have HNL := Lib.hid hnl
  have HE := Lib.hid (And.intro e0 (And.intro e1 (And.intro e2 e3)))
  have HK := Lib.hid (And.intro k0 (And.intro k1 (And.intro k2 (And.intro k3 (And.intro k4 (And.intro k5 (And.intro k6 k7)))))))
  obtain ⟨cz, hcz⟩ : ∃ c, ([d0, d1, d2, d3, d4].map uv).toArray = c := ⟨_, rfl⟩
  have HBT := Lib.hid (show Try.prog.built 51 [(0, .int .u64 d0), (1, .int .u64 d1), (2, .int .u64 d2), (3, .int .u64 d3), (4, .int .u64 d4)] = some cz by rw [← hcz]; kernel_rfl)
  have HCZ := Lib.hid hcz
  have HR := Lib.hid (And.intro r0 (And.intro r1 (And.intro r2 r3)))
  clear hck hk k0 k1 k2 k3 k4 k5 k6 k7 hnl e0 e1 e2 e3 r0 r1 r2 r3 hcz
  go_enter Try.func26, Try.ntmps26
  go_upto_region 1 with fail
  generalize ((w.alloc (.cells ck 23)).alloc (.cells #[.int .u64 0, .int .u64 0, .int .u64 0, .int .u64 0, .int .u64 0] 51)) = w1 at HM HR ⊢
  go_wp2_with fail
  refine (readLittle_any _ _ 8 32 _ (by omega) _ HR.out.1).mono ?_
  rintro e v1 ⟨rfl, rfl⟩
  rw [HE.out.1]
  go_wp2_with fail
  refine (readLittle_any _ _ 8 24 _ (by omega) _ HR.out.2.1).mono ?_
  rintro e v1 ⟨rfl, rfl⟩
  rw [HE.out.2.1]
  go_wp2_with fail
  refine (readLittle_any _ _ 8 16 _ (by omega) _ HR.out.2.2.1).mono ?_
  rintro e v1 ⟨rfl, rfl⟩
  rw [HE.out.2.2.1]
  go_wp2_with fail
  refine (readLittle_any _ _ 8 8 _ (by omega) _ HR.out.2.2.2).mono ?_
  rintro e v1 ⟨rfl, rfl⟩
  rw [HE.out.2.2.2]
  go_upto_region 5 with fail
  clear HR HE
  have k0 := HK.out.1
  have k1 := HK.out.2.1
  have k2 := HK.out.2.2.1
  have k3 := HK.out.2.2.2.1
  have k4 := HK.out.2.2.2.2.1
  have k5 := HK.out.2.2.2.2.2.1
  have k6 := HK.out.2.2.2.2.2.2.1
  have k7 := HK.out.2.2.2.2.2.2.2
  go_wp2_with (first | (refine wpList_build_as rfl 51 [(0, .tmp 16), (1, .tmp 22), (2, .tmp 28), (3, .tmp 34), (4, .tmp 37)] rfl cz ?_ ?_; exact HBT.out) | (refine wpList_store_blk rfl 51 (.tmp 2) (.tmp 38) rfl (w.heap.size + 1) ([d0, d1, d2, d3, d4].map uv) rfl (by show Value.agg cz = _; rw [HCZ.out]) 51 (z5) (HM.out.blk 0 rfl) (cells5 [d0, d1, d2, d3, d4] (rfl)) (len5 (rfl) (rfl)) (uv_one _) ?_; intro w9 hb9 hg9))
  exact bodyPost_ret (results_blk rfl _ _ (w.heap.size + 1) 51 ([d0, d1, d2, d3, d4].map uv) 5 49 rfl hb9 Try.underlying51 (cells5 _ rfl)) rfl ⟨by rw [HNL.out], (HM.out.put 0 rfl _ hg9 hb9).bel⟩

/-! the bytes of a number -/
def raisedN (n : List Nat) : List Nat := n.set 0 (dg n 0 + 19)
theorem raised_val (n : List Nat) (h : n.length = 5) : val (raisedN n) = val n + 19 := val_set0 n 19 h
theorem small_val (n : List Nat) (h : SmallN n) : val n ≤ 57896044618658097711785492504343953926634992332820282019728792003956564819986 := by
  have h0 := h.2.1
  have h1 := h.2.2 1 (by omega)
  have h2 := h.2.2 2 (by omega)
  have h3 := h.2.2 3 (by omega)
  have h4 := h.2.2 4 (by omega)
  rw [val]
  omega
theorem raised_le (n : List Nat) (h : SmallN n) (i : Nat) : dg (raisedN n) i ≤ 9223372036854775808 := by
  have h0 := h.le i
  have h1 := h.le 0
  rw [raisedN, dg_set _ _ _ _ (by rw [h.1]; omega)]
  split <;> omega
theorem least_val (n : List Nat) (h : SmallN n) : val (carryN (raisedN n)) = val n % 57896044618658097711785492504343953926634992332820282019728792003956564819949 + 19 ∧ ∀ i, dg (carryN (raisedN n)) i < 2251799813685248 := by
  have hl : (raisedN n).length = 5 := by rw [raisedN, List.length_set]; exact h.1
  have h1 := carryN_val (raisedN n) hl
  have h2 := raised_val n h.1
  have h3 := small_val n h
  have h4 := cst_over (raisedN n) hl
  refine ⟨by rw [h1, h2]; omega, fun i => ?_⟩
  rw [carryN, dg_set _ _ _ _ (by rw [cst_length]; omega)]
  have hb : ∀ j, dg (cst (raisedN n) 5).1 j < 2251799813685248 := by
    intro j
    by_cases hj : j < 5
    · exact cst_below _ 5 j hj (by omega)
    · rw [dg_high _ _ (by rw [cst_length]; omega)]; omega
  split
  · have hb0 := hb 0
    have hk : (cst (raisedN n) 5).2 = 0 ∨ ((cst (raisedN n) 5).2 = 1 ∧ val (cst (raisedN n) 5).1 ≤ 37) := by
      rw [h4.1, h4.2, h2]
      generalize val n = v at *
      clear h1 h4 hb hb0
      omega
    have hv : dg (cst (raisedN n) 5).1 0 ≤ val (cst (raisedN n) 5).1 := by rw [val]; omega
    rcases hk with hk | hk <;> omega
  · exact hb i
/-- the four words of five limbs -/
def wordsN (r : List Nat) : List Nat := [dg r 0 + dg r 1 % 8192 * 2251799813685248, dg r 1 / 8192 + dg r 2 % 67108864 * 274877906944, dg r 2 / 67108864 + dg r 3 % 549755813888 * 33554432, dg r 3 / 549755813888 + dg r 4 % 4503599627370496 * 4096]
theorem word_0 (a b : Nat) (_ha : a < 2251799813685248) (_hb : b < 2251799813685248) : bits BinOp.or IntKind.u64 ((a : Int)) (IntKind.u64.wrap ((b : Int) * 2251799813685248)) = ((a + b % 8192 * 2251799813685248 : Nat) : Int) := by
  have h1 : a < 2 ^ 51 := by omega
  generalize a = x at h1 ⊢
  have e2 : IntKind.u64.wrap ((b : Int) * 2251799813685248) = ((2 ^ 51 * (b % 8192) : Nat) : Int) := by rw [IntKind.wrap_u64]; omega
  have h3 : b % 8192 < 8192 := Nat.mod_lt _ (by omega)
  generalize b % 8192 = y at h3 e2 ⊢
  rw [e2, u64_or_nat _ _ (by omega) (by omega), or_low y x 51 h1]
  congr 1
  omega
theorem word_1 (a b : Nat) (_ha : a < 2251799813685248) (_hb : b < 2251799813685248) : bits BinOp.or IntKind.u64 ((a : Int) / 8192) (IntKind.u64.wrap ((b : Int) * 274877906944)) = ((a / 8192 + b % 67108864 * 274877906944 : Nat) : Int) := by
  have h1 : a / 8192 < 2 ^ 38 := by omega
  have e1 : (a : Int) / 8192 = ((a / 8192 : Nat) : Int) := by rw [Int.natCast_ediv]; rfl
  rw [e1]
  generalize a / 8192 = x at h1 e1 ⊢
  have e2 : IntKind.u64.wrap ((b : Int) * 274877906944) = ((2 ^ 38 * (b % 67108864) : Nat) : Int) := by rw [IntKind.wrap_u64]; omega
  have h3 : b % 67108864 < 67108864 := Nat.mod_lt _ (by omega)
  generalize b % 67108864 = y at h3 e2 ⊢
  rw [e2, u64_or_nat _ _ (by omega) (by omega), or_low y x 38 h1]
  congr 1
  omega
theorem word_2 (a b : Nat) (_ha : a < 2251799813685248) (_hb : b < 2251799813685248) : bits BinOp.or IntKind.u64 ((a : Int) / 67108864) (IntKind.u64.wrap ((b : Int) * 33554432)) = ((a / 67108864 + b % 549755813888 * 33554432 : Nat) : Int) := by
  have h1 : a / 67108864 < 2 ^ 25 := by omega
  have e1 : (a : Int) / 67108864 = ((a / 67108864 : Nat) : Int) := by rw [Int.natCast_ediv]; rfl
  rw [e1]
  generalize a / 67108864 = x at h1 e1 ⊢
  have e2 : IntKind.u64.wrap ((b : Int) * 33554432) = ((2 ^ 25 * (b % 549755813888) : Nat) : Int) := by rw [IntKind.wrap_u64]; omega
  have h3 : b % 549755813888 < 549755813888 := Nat.mod_lt _ (by omega)
  generalize b % 549755813888 = y at h3 e2 ⊢
  rw [e2, u64_or_nat _ _ (by omega) (by omega), or_low y x 25 h1]
  congr 1
  omega
theorem word_3 (a b : Nat) (_ha : a < 2251799813685248) (_hb : b < 2251799813685248) : bits BinOp.or IntKind.u64 ((a : Int) / 549755813888) (IntKind.u64.wrap ((b : Int) * 4096)) = ((a / 549755813888 + b % 4503599627370496 * 4096 : Nat) : Int) := by
  have h1 : a / 549755813888 < 2 ^ 12 := by omega
  have e1 : (a : Int) / 549755813888 = ((a / 549755813888 : Nat) : Int) := by rw [Int.natCast_ediv]; rfl
  rw [e1]
  generalize a / 549755813888 = x at h1 e1 ⊢
  have e2 : IntKind.u64.wrap ((b : Int) * 4096) = ((2 ^ 12 * (b % 4503599627370496) : Nat) : Int) := by rw [IntKind.wrap_u64]; omega
  have h3 : b % 4503599627370496 < 4503599627370496 := Nat.mod_lt _ (by omega)
  generalize b % 4503599627370496 = y at h3 e2 ⊢
  rw [e2, u64_or_nat _ _ (by omega) (by omega), or_low y x 12 h1]
  congr 1
  omega
theorem words_val (r : List Nat) (h : ∀ i, dg r i < 2251799813685248) : dg (wordsN r) 0 + dg (wordsN r) 1 * 18446744073709551616 + dg (wordsN r) 2 * 340282366920938463463374607431768211456 + dg (wordsN r) 3 * 6277101735386680763835789423207666416102355444464034512896 = val r ∧ ∀ i, dg (wordsN r) i < 18446744073709551616 := by
  have h0 := h 0
  have h1 := h 1
  have h2 := h 2
  have h3 := h 3
  have h4 := h 4
  have e0 : dg (wordsN r) 0 = dg r 0 + dg r 1 % 8192 * 2251799813685248 := by simp only [wordsN, dg, List.getD_cons_zero]
  have e1 : dg (wordsN r) 1 = dg r 1 / 8192 + dg r 2 % 67108864 * 274877906944 := by simp only [wordsN, dg, List.getD_cons_zero, List.getD_cons_succ]
  have e2 : dg (wordsN r) 2 = dg r 2 / 67108864 + dg r 3 % 549755813888 * 33554432 := by simp only [wordsN, dg, List.getD_cons_zero, List.getD_cons_succ]
  have e3 : dg (wordsN r) 3 = dg r 3 / 549755813888 + dg r 4 % 4503599627370496 * 4096 := by simp only [wordsN, dg, List.getD_cons_zero, List.getD_cons_succ]
  refine ⟨?_, fun i => ?_⟩
  · rw [e0, e1, e2, e3, val]
    clear e0 e1 e2 e3 h
    have g1 := Nat.div_add_mod (dg r 1) 8192
    have g2 := Nat.div_add_mod (dg r 2) 67108864
    have g3 := Nat.div_add_mod (dg r 3) 549755813888
    have g4 : dg r 4 % 4503599627370496 = dg r 4 := Nat.mod_eq_of_lt (by omega)
    rw [g4]
    generalize dg r 1 % 8192 = m1 at *
    generalize dg r 2 % 67108864 = m2 at *
    generalize dg r 3 % 549755813888 = m3 at *
    generalize dg r 1 / 8192 = q1 at *
    generalize dg r 2 / 67108864 = q2 at *
    generalize dg r 3 / 549755813888 = q3 at *
    rw [← g1, ← g2, ← g3]
    clear g1 g2 g3 g4 h0 h1 h2 h3 h4
    omega
  · by_cases h5 : i < 4
    · have hi : i = 0 ∨ i = 1 ∨ i = 2 ∨ i = 3 := by omega
      rcases hi with rfl | rfl | rfl | rfl <;> (first | rw [e0] | rw [e1] | rw [e2] | rw [e3]) <;> omega
    · rw [dg_high _ _ (by simp [wordsN]; omega)]; omega
/-- what is borrowed, and what is left -/
def uS (t : List Nat) : Nat → Nat
  | 0 => 19
  | n + 1 => if dg t n < uS t n then 1 else 0
def fS (t : List Nat) (n : Nat) : Nat := (dg t n + 18446744073709551616 - uS t n) % 18446744073709551616
theorem uS_le (t : List Nat) : ∀ n, uS t n ≤ 19
  | 0 => Nat.le_refl _
  | n + 1 => by rw [uS]; split <;> omega
theorem fS_val (t : List Nat) (ht : ∀ i, dg t i < 18446744073709551616) (V : Nat) (hV : V < 115792089237316195423570985008687907853269984665640564039457584007913129639936) (h : dg t 0 + dg t 1 * 18446744073709551616 + dg t 2 * 340282366920938463463374607431768211456 + dg t 3 * 6277101735386680763835789423207666416102355444464034512896 = V + 19) :
    fS t 0 + fS t 1 * 18446744073709551616 + fS t 2 * 340282366920938463463374607431768211456 + fS t 3 * 6277101735386680763835789423207666416102355444464034512896 = V := by
  have st : ∀ n, fS t n + uS t n = dg t n + uS t (n + 1) * 18446744073709551616 ∧ uS t (n + 1) ≤ 1 ∧ fS t n < 18446744073709551616 := by
    intro n
    have h1 := uS_le t n
    have h2 := ht n
    have h3 : uS t (n + 1) = if dg t n < uS t n then 1 else 0 := rfl
    rw [fS, h3]
    split <;> omega
  obtain ⟨a0, b0, c0⟩ := st 0
  obtain ⟨a1, b1, c1⟩ := st 1
  obtain ⟨a2, b2, c2⟩ := st 2
  obtain ⟨a3, b3, c3⟩ := st 3
  have u0 : uS t 0 = 19 := rfl
  rw [u0] at a0
  rw [show (0 : Nat) + 1 = 1 from rfl] at a0 b0
  rw [show (1 : Nat) + 1 = 2 from rfl] at a1 b1
  rw [show (2 : Nat) + 1 = 3 from rfl] at a2 b2
  rw [show (3 : Nat) + 1 = 4 from rfl] at a3 b3
  clear st u0
  generalize fS t 0 = f0 at *
  generalize fS t 1 = f1 at *
  generalize fS t 2 = f2 at *
  generalize fS t 3 = f3 at *
  generalize uS t 1 = u1 at *
  generalize uS t 2 = u2 at *
  generalize uS t 3 = u3 at *
  generalize uS t 4 = u4 at *
  generalize dg t 0 = t0 at *
  generalize dg t 1 = t1 at *
  generalize dg t 2 = t2 at *
  generalize dg t 3 = t3 at *
  clear ht
  omega
def bJ (f : Nat → Nat) : Nat → List UInt8
  | 0 => List.replicate 32 0
  | n + 1 => putL (bJ f n) (8 * n) (littleL (f n) 8)
theorem bJ_eq (f : Nat → Nat) : ∀ n, n ≤ 4 → bJ f n = (List.range n).flatMap (fun i => littleL (f i) 8) ++ List.replicate (32 - 8 * n) 0
  | 0, _ => rfl
  | n + 1, h => by
    have hl : ∀ m, ((List.range m).flatMap (fun i => littleL (f i) 8)).length = 8 * m := by
      intro m
      induction m with
      | zero => rfl
      | succ m ih => rw [List.range_succ, List.flatMap_append, List.length_append, ih]; simp [littleL_length]; omega
    have h1 := hl n
    rw [bJ, bJ_eq f n (by omega), putL, List.take_left' h1, littleL_length, List.range_succ, List.flatMap_append, List.append_assoc, List.append_assoc]
    congr 1
    rw [List.drop_append, h1, List.drop_eq_nil_of_le (by omega), List.nil_append, List.drop_replicate]
    simp only [List.flatMap_cons, List.flatMap_nil, List.append_nil]
    congr 2
    omega
theorem bJ_length (f : Nat → Nat) (n : Nat) (h : n ≤ 4) : (bJ f n).length = 32 := by
  induction n with
  | zero => rfl
  | succ n ih => rw [bJ, putL_length _ _ _ (by rw [littleL_length, ih (by omega)]; omega)]; exact ih (by omega)
theorem bJ_all (f : Nat → Nat) (V : Nat) (hf : ∀ i, f i < 18446744073709551616) (h : f 0 + f 1 * 18446744073709551616 + f 2 * 340282366920938463463374607431768211456 + f 3 * 6277101735386680763835789423207666416102355444464034512896 = V) : bJ f 4 = littleL V 32 := by
  have hl := bJ_length f 4 (by omega)
  have e : numL (bJ f 4) = V := by
    rw [bJ_eq f 4 (by omega), show List.range 4 = [0, 1, 2, 3] from rfl]
    simp only [List.flatMap_cons, List.flatMap_nil, List.append_nil]
    rw [show List.replicate (32 - 8 * 4) (0 : UInt8) = [] from rfl, List.append_nil]
    simp only [numL_append, numL_little, littleL_length, show (256 : Nat) ^ 8 = 18446744073709551616 by decide]
    have h0 := hf 0
    have h1 := hf 1
    have h2 := hf 2
    have h3 := hf 3
    rw [← h]
    generalize f 0 = f0 at *
    generalize f 1 = f1 at *
    generalize f 2 = f2 at *
    generalize f 3 = f3 at *
    clear hf hl h
    rw [Nat.mod_eq_of_lt h0, Nat.mod_eq_of_lt h1, Nat.mod_eq_of_lt h2, Nat.mod_eq_of_lt h3]
    omega
  rw [← e]
  exact (cuLittle_numL 32 (bJ f 4) hl).symm
theorem fS_lt (t : List Nat) (n : Nat) : fS t n < 18446744073709551616 := Nat.mod_lt _ (by omega)
/-- the bytes that the program writes -/
theorem bytes_out (n : List Nat) (h : SmallN n) : bJ (fS (wordsN (carryN (raisedN n)))) 4 = fqB (Cu.fq (val n : Int)) := by
  obtain ⟨h1, h2⟩ := least_val n h
  obtain ⟨h3, h4⟩ := words_val _ h2
  have h5 := fS_val _ h4 (val n % 57896044618658097711785492504343953926634992332820282019728792003956564819949) (by omega) (by rw [h3, h1])
  have h6 := Cu.fq_n (val n : Int)
  rw [show ((Cu.P25 : Nat) : Int) = 57896044618658097711785492504343953926634992332820282019728792003956564819949 from rfl] at h6
  have h7 : (Cu.fq (val n : Int)).val = val n % 57896044618658097711785492504343953926634992332820282019728792003956564819949 := by omega
  rw [bJ_all _ _ (fS_lt _) h5, fqB, h7]
theorem four_len (l : List Nat) (h : l.length = 4) : (Try.prog.info? 63).map (·.size) = some (l.map uv).length := by
  rw [List.length_map, h]; kernel_rfl
def z4 : List Value := [.int .u64 0, .int .u64 0, .int .u64 0, .int .u64 0]
theorem len4 {l : List Nat} (h : l.length = 4) {cs : List Value} (hc : cs.length = 4) : cs.length = (l.map uv).length := by rw [List.length_map, h, hc]

set_option maxRecDepth 100000 in
set_option maxHeartbeats 8000000 in
theorem bytesOf_any (n : List Nat) (hn : SmallN n) (w : World) :
    Calls Try.prog 29 #[.agg (n.map uv).toArray] w fun e w' => e = .returned (.agg ((fqB (Cu.fq (val n : Int))).map u8v).toArray) ∧ Below w.heap.size w w' := by
  rw [← bytes_out n hn]
  have hnl := hn.1
  have h0 := hn.2.1
  have hrl : (raisedN n).length = 5 := by rw [raisedN, List.length_set]; exact hnl
  have CC := fun W : World => carry_any (raisedN n) hrl (raised_le n hn) W
  have hr := (least_val n hn).2
  have hcl : (carryN (raisedN n)).length = 5 := by rw [carryN_length, hrl]
  have hset : n.set 0 (dg n 0 + 19) = raisedN n := rfl
  obtain ⟨d0, hd0⟩ : ∃ d, dg n 0 = d := ⟨_, rfl⟩
  rw [hd0] at hset h0
  generalize carryN (raisedN n) = r at CC hr hcl ⊢
  generalize raisedN n = rn at CC hrl hset
  have o0 := word_0 (dg r 0) (dg r 1) (hr 0) (hr 1)
  have o1 := word_1 (dg r 1) (dg r 2) (hr 1) (hr 2)
  have o2 := word_2 (dg r 2) (dg r 3) (hr 2) (hr 3)
  have o3 := word_3 (dg r 3) (dg r 4) (hr 3) (hr 4)
  have hwl : wordsN r = [dg r 0 + dg r 1 % 8192 * 2251799813685248, dg r 1 / 8192 + dg r 2 % 67108864 * 274877906944, dg r 2 / 67108864 + dg r 3 % 549755813888 * 33554432, dg r 3 / 549755813888 + dg r 4 % 4503599627370496 * 4096] := rfl
  have hlist := list5 r hcl
  generalize (dg r 0 + dg r 1 % 8192 * 2251799813685248) = t0 at o0 hwl
  generalize (dg r 1 / 8192 + dg r 2 % 67108864 * 274877906944) = t1 at o1 hwl
  generalize (dg r 2 / 67108864 + dg r 3 % 549755813888 * 33554432) = t2 at o2 hwl
  generalize (dg r 3 / 549755813888 + dg r 4 % 4503599627370496 * 4096) = t3 at o3 hwl
  generalize wordsN r = t at hwl ⊢
  obtain ⟨cn, hcn⟩ : ∃ c, (n.map uv).toArray = c := ⟨_, rfl⟩
  obtain ⟨crn, hcrn⟩ : ∃ c, (rn.map uv).toArray = c := ⟨_, rfl⟩
  obtain ⟨cr, hcr⟩ : ∃ c, (r.map uv).toArray = c := ⟨_, rfl⟩
  obtain ⟨ct, hct⟩ : ∃ c, (t.map uv).toArray = c := ⟨_, rfl⟩
  rw [hcrn, hcr] at CC
  rw [hcn]
  have HBT := Lib.hid (show Try.prog.built 63 [(0, .int .u64 t0), (1, .int .u64 t1), (2, .int .u64 t2), (3, .int .u64 t3)] = some ct by rw [← hct, hwl]; kernel_rfl)
  have HKC := Lib.hid CC
  have HM := Lib.hid (show Mem w [blkE (w.heap.size + 1) 23 (aeZ 32), blkE w.heap.size 51 (n.map uv)] ((w.alloc (.cells cn 51)).alloc (.cells #[.int .u8 0, .int .u8 0, .int .u8 0, .int .u8 0, .int .u8 0, .int .u8 0, .int .u8 0, .int .u8 0, .int .u8 0, .int .u8 0, .int .u8 0, .int .u8 0, .int .u8 0, .int .u8 0, .int .u8 0, .int .u8 0, .int .u8 0, .int .u8 0, .int .u8 0, .int .u8 0, .int .u8 0, .int .u8 0, .int .u8 0, .int .u8 0, .int .u8 0, .int .u8 0, .int .u8 0, .int .u8 0, .int .u8 0, .int .u8 0, .int .u8 0, .int .u8 0] 23)) from ((Mem.nil w).alloc rfl 51 cn (n.map uv) hcn.symm).alloc (by simp) 23 #[.int .u8 0, .int .u8 0, .int .u8 0, .int .u8 0, .int .u8 0, .int .u8 0, .int .u8 0, .int .u8 0, .int .u8 0, .int .u8 0, .int .u8 0, .int .u8 0, .int .u8 0, .int .u8 0, .int .u8 0, .int .u8 0, .int .u8 0, .int .u8 0, .int .u8 0, .int .u8 0, .int .u8 0, .int .u8 0, .int .u8 0, .int .u8 0, .int .u8 0, .int .u8 0, .int .u8 0, .int .u8 0, .int .u8 0, .int .u8 0, .int .u8 0, .int .u8 0] (aeZ 32) rfl)
  have HL := Lib.hid (And.intro hnl (And.intro hrl (And.intro hcl (show t.length = 4 by rw [hwl]; rfl))))
  have HC := Lib.hid (And.intro hcn (And.intro hcrn (And.intro hcr hct)))
  have HO := Lib.hid (And.intro o0 (And.intro o1 (And.intro o2 o3)))
  have HS := Lib.hid (And.intro hset (And.intro hd0 h0))
  clear CC hn hnl hrl hcl hr hset hd0 h0 o0 o1 o2 o3 hwl hlist hcn hcrn hcr hct
  go_enter Try.func29, Try.ntmps29
  go_upto_region 1 with fail
  generalize ((w.alloc (.cells cn 51)).alloc (.cells #[.int .u8 0, .int .u8 0, .int .u8 0, .int .u8 0, .int .u8 0, .int .u8 0, .int .u8 0, .int .u8 0, .int .u8 0, .int .u8 0, .int .u8 0, .int .u8 0, .int .u8 0, .int .u8 0, .int .u8 0, .int .u8 0, .int .u8 0, .int .u8 0, .int .u8 0, .int .u8 0, .int .u8 0, .int .u8 0, .int .u8 0, .int .u8 0, .int .u8 0, .int .u8 0, .int .u8 0, .int .u8 0, .int .u8 0, .int .u8 0, .int .u8 0, .int .u8 0] 23)) = w1 at HM ⊢
  have HA := Lib.hid (show Mem w [blkE w1.heap.size 51 z5, blkE (w.heap.size + 1) 23 (aeZ 32), blkE w.heap.size 51 (n.map uv)] (w1.alloc (.cells #[.int .u64 0, .int .u64 0, .int .u64 0, .int .u64 0, .int .u64 0] 51)) from HM.out.alloc rfl 51 #[.int .u64 0, .int .u64 0, .int .u64 0, .int .u64 0, .int .u64 0] z5 rfl)
  go_upto_region 2 with (first | (refine wpList_load_blk rfl 51 (.tmp 1) rfl w.heap.size rfl 51 (n.map uv) (HM.out.blk 1 rfl) 5 49 Try.underlying51 (cells5 n (HL.out.1)) ?_; rw [HC.out.1]) | (refine wpList_store_blk rfl 51 (.tmp 3) (.tmp 9) rfl w1.heap.size (n.map uv) rfl (by show Value.agg cn = _; rw [HC.out.1]) 51 (z5) (HA.out.blk 0 rfl) (cells5 n (HL.out.1)) (len5 (HL.out.1) (rfl)) (uv_one _) ?_; intro w2 hb9 hg9))
  (try simp only [Act.put])
  replace HM := Lib.hid (show Mem w [blkE w1.heap.size 51 (n.map uv), blkE (w.heap.size + 1) 23 (aeZ 32), blkE w.heap.size 51 (n.map uv)] w2 from HA.out.put 0 rfl _ hg9 hb9)
  clear HA hb9 hg9
  generalize w1.heap.size = G at HM ⊢
  have fx := lim (HM.out.blk 0 rfl) 0 (by rw [HL.out.1]; omega)
  rw [HS.out.2.1] at fx
  have zx := (HM.out.blk 0 rfl).frozen 0
  obtain ⟨d1, hd1⟩ : ∃ d1, d0 + 19 = d1 := ⟨_, rfl⟩
  have hw1 : IntKind.u64.wrap ((d0 : Int) + 19) = (d1 : Int) := by have := HS.out.2.2; rw [IntKind.wrap_u64]; omega
  have HN := Lib.hid (show Mem w [blkE G 51 (rn.map uv), blkE (w.heap.size + 1) 23 (aeZ 32), blkE w.heap.size 51 (n.map uv)] (w2.setCell ⟨G, 0, none⟩ (.int .u64 (d1 : Int))) from by have h := HM.out.setCell 0 rfl 0 (uv d1); rw [← List.map_set, ← hd1, HS.out.1, hd1] at h; exact h)
  clear HM hd1
  go_upto_region 3 with fail
  (try simp only [hw1])
  generalize w2.setCell ⟨G, 0, none⟩ (.int .u64 (d1 : Int)) = w3 at HN ⊢
  clear fx zx hw1
  go_wp2_with (refine wpList_load_blk rfl 51 (.tmp 3) rfl G rfl 51 (rn.map uv) (HN.out.blk 0 rfl) 5 49 Try.underlying51 (cells5 rn (HL.out.2.1)) ?_; rw [HC.out.2.1])
  refine (HKC.out _).mono ?_
  rintro e w4 ⟨rfl, hb⟩
  have HM := Lib.hid (HN.out.below hb)
  clear hb HN
  have HA := Lib.hid (show Mem w [blkE w4.heap.size 51 z5, blkE G 51 (rn.map uv), blkE (w.heap.size + 1) 23 (aeZ 32), blkE w.heap.size 51 (n.map uv)] (w4.alloc (.cells #[.int .u64 0, .int .u64 0, .int .u64 0, .int .u64 0, .int .u64 0] 51)) from HM.out.alloc rfl 51 #[.int .u64 0, .int .u64 0, .int .u64 0, .int .u64 0, .int .u64 0] z5 rfl)
  go_upto_region 4 with (refine wpList_store_blk rfl 51 (.tmp 4) (.tmp 15) rfl w4.heap.size (r.map uv) rfl (by show Value.agg cr = _; rw [HC.out.2.2.1]) 51 (z5) (HA.out.blk 0 rfl) (cells5 r (HL.out.2.2.1)) (len5 (HL.out.2.2.1) (rfl)) (uv_one _) ?_; intro w5 hb9 hg9)
  (try simp only [Act.put])
  replace HM := Lib.hid (show Mem w [blkE w4.heap.size 51 (r.map uv), blkE G 51 (rn.map uv), blkE (w.heap.size + 1) 23 (aeZ 32), blkE w.heap.size 51 (n.map uv)] w5 from HA.out.put 0 rfl _ hg9 hb9)
  clear HA hb9 hg9
  generalize w4.heap.size = R at HM ⊢
  have f0 := lim (HM.out.blk 0 rfl) 0 (by rw [HL.out.2.2.1]; omega)
  have f1 := lim (HM.out.blk 0 rfl) 1 (by rw [HL.out.2.2.1]; omega)
  have f2 := lim (HM.out.blk 0 rfl) 2 (by rw [HL.out.2.2.1]; omega)
  have f3 := lim (HM.out.blk 0 rfl) 3 (by rw [HL.out.2.2.1]; omega)
  have f4 := lim (HM.out.blk 0 rfl) 4 (by rw [HL.out.2.2.1]; omega)
  have o0 := HO.out.1
  have o1 := HO.out.2.1
  have o2 := HO.out.2.2.1
  have o3 := HO.out.2.2.2
  generalize dg r 0 = r0 at f0 o0
  generalize dg r 1 = r1 at f1 o0 o1
  generalize dg r 2 = r2 at f2 o1 o2
  generalize dg r 3 = r3 at f3 o2 o3
  generalize dg r 4 = r4 at f4 o3
  clear HO
  have HA := Lib.hid (show Mem w [blkE w5.heap.size 63 z4, blkE R 51 (r.map uv), blkE G 51 (rn.map uv), blkE (w.heap.size + 1) 23 (aeZ 32), blkE w.heap.size 51 (n.map uv)] (w5.alloc (.cells #[.int .u64 0, .int .u64 0, .int .u64 0, .int .u64 0] 63)) from HM.out.alloc rfl 63 #[.int .u64 0, .int .u64 0, .int .u64 0, .int .u64 0] z4 rfl)
  clear HM
  go_upto_region 5 with (first | (refine wpList_build_as rfl 63 [(0, .tmp 21), (1, .tmp 28), (2, .tmp 35), (3, .tmp 42)] rfl ct ?_ ?_; exact HBT.out) | (refine wpList_store_blk rfl 63 (.tmp 5) (.tmp 43) rfl w5.heap.size (t.map uv) rfl (by show Value.agg ct = _; rw [HC.out.2.2.2]) 63 z4 (HA.out.blk 0 rfl) (four_len t HL.out.2.2.2) (len4 HL.out.2.2.2 rfl) (uv_one _) ?_; intro w6 hb9 hg9))
  (try simp only [Act.put])
  have HM := Lib.hid (show Mem w [blkE w5.heap.size 63 (t.map uv), blkE (w.heap.size + 1) 23 (aeZ 32)] w6 from ((((HA.out.put 0 rfl _ hg9 hb9).erase 1).erase 1).erase 2))
  clear HA hb9 hg9 f0 f1 f2 f3 f4 o0 o1 o2 o3
  generalize w5.heap.size = W at HM ⊢
  have HA := Lib.hid (show Mem w [blkE w6.heap.size 23 ((bJ (fS t) 0).map u8v), blkE W 63 ((upd (fS t) t 0).map uv), blkE (w.heap.size + 1) 23 (aeZ 32)] (w6.alloc (.cells #[.int .u8 0, .int .u8 0, .int .u8 0, .int .u8 0, .int .u8 0, .int .u8 0, .int .u8 0, .int .u8 0, .int .u8 0, .int .u8 0, .int .u8 0, .int .u8 0, .int .u8 0, .int .u8 0, .int .u8 0, .int .u8 0, .int .u8 0, .int .u8 0, .int .u8 0, .int .u8 0, .int .u8 0, .int .u8 0, .int .u8 0, .int .u8 0, .int .u8 0, .int .u8 0, .int .u8 0, .int .u8 0, .int .u8 0, .int .u8 0, .int .u8 0, .int .u8 0] 23)) from HM.out.alloc rfl 23 #[.int .u8 0, .int .u8 0, .int .u8 0, .int .u8 0, .int .u8 0, .int .u8 0, .int .u8 0, .int .u8 0, .int .u8 0, .int .u8 0, .int .u8 0, .int .u8 0, .int .u8 0, .int .u8 0, .int .u8 0, .int .u8 0, .int .u8 0, .int .u8 0, .int .u8 0, .int .u8 0, .int .u8 0, .int .u8 0, .int .u8 0, .int .u8 0, .int .u8 0, .int .u8 0, .int .u8 0, .int .u8 0, .int .u8 0, .int .u8 0, .int .u8 0, .int .u8 0] ((bJ (fS t) 0).map u8v) rfl)
  clear HM
  go_upto_region 6 with fail
  generalize w6.alloc (.cells #[.int .u8 0, .int .u8 0, .int .u8 0, .int .u8 0, .int .u8 0, .int .u8 0, .int .u8 0, .int .u8 0, .int .u8 0, .int .u8 0, .int .u8 0, .int .u8 0, .int .u8 0, .int .u8 0, .int .u8 0, .int .u8 0, .int .u8 0, .int .u8 0, .int .u8 0, .int .u8 0, .int .u8 0, .int .u8 0, .int .u8 0, .int .u8 0, .int .u8 0, .int .u8 0, .int .u8 0, .int .u8 0, .int .u8 0, .int .u8 0, .int .u8 0, .int .u8 0] 23) = w7 at HA ⊢
  generalize w6.heap.size = B at HA ⊢
  go_wp2_with fail
  go_loopw [7, 44] (fun u z wr => ∃ i : Nat, i ≤ 4 ∧ z = .int .i64 (i : Int) ∧ u = .int .u64 (uS t i : Int) ∧ Mem w [blkE B 23 ((bJ (fS t) i).map u8v), blkE W 63 ((upd (fS t) t i).map uv), blkE (w.heap.size + 1) 23 (aeZ 32)] wr) (fun _ z _ => 4 - (intOf z).toNat)
  case atStart => exact ⟨0, by omega, rfl, rfl, HA.out⟩
  case round =>
    clear HA
    obtain ⟨i, hi, rfl, rfl, hM⟩ := hrel
    have HM := Lib.hid hM
    clear hM
    by_cases hil : i < 4
    · have HUL := Lib.hid (show (upd (fS t) t i).length = 4 by rw [upd_length]; exact HL.out.2.2.2)
      have hul := uS_le t i
      have hf : fS t i = (dg t i + 18446744073709551616 - uS t i - 0) % 18446744073709551616 := by rw [fS, Nat.sub_zero]
      have hu1 : uS t (i + 1) = if dg t i < uS t i + 0 then 1 else 0 := by rw [uS, Nat.add_zero]
      have hub : upd (fS t) t (i + 1) = (upd (fS t) t i).set i (fS t i) := rfl
      have hbb : bJ (fS t) (i + 1) = putL (bJ (fS t) i) (8 * i) (littleL (fS t i) 8) := rfl
      have fx := lim (HM.out.blk 1 rfl) i (by rw [HUL.out]; omega)
      rw [upd_dg _ _ _ _ (by rw [HL.out.2.2.2]; omega), if_neg (by omega)] at fx
      have hS := sub64_run (dg t i) (uS t i) 0 (by omega)
      rw [← hf, ← hu1] at hS
      have hfl := fS_lt t i
      have HLI := Lib.hid (show ∀ W' : World, Calls Try.prog 41 #[.int .u64 (fS t i : Nat), .int .i64 8] W' fun e w' => e = .returned (.slice (some ⟨W'.heap.size, 0, none⟩) 8 8) ∧ w'.ownsRow W'.heap.size 5 1 (.slice (some ⟨W'.heap.size, 0, none⟩) 8 8) 8 ((littleL (fS t i) 8).map u8v) ∧ Below W'.heap.size W' w' from fun W' => little_any (fS t i) hfl 8 (by omega) (by omega) W')
      have HBL := Lib.hid (bJ_length (fS t) i (by omega))
      have HX := Lib.hid (And.intro hub hbb)
      generalize fS t i = f at hf hS HLI HX hfl
      generalize dg t i = d at hf hS fx
      generalize hu2 : uS t (i + 1) = m at hS hu1
      have HU2 := Lib.hid hu2
      generalize uS t i = u at hul hf hS hu1 ⊢
      generalize hcb : bJ (fS t) i = cb at HM HBL HX
      generalize hcu : upd (fS t) t i = cu at HM HUL HX
      have hS0 : ∀ W' : World, (callFunc 40 #[.int .u64 (d : Int), .int .u64 (u : Int), .int .u64 0]).run Try.prog W' = .ok (.value (.tuple #[.int .u64 (f : Int), .int .u64 (m : Int)])) W' := hS
      have zx := (HM.out.blk 1 rfl).frozen i
      clear hS hf hu1 hul hu2 hub hbb hcb hcu
      have hi4 : i = 0 ∨ i = 1 ∨ i = 2 ∨ i = 3 := by omega
      clear hi
      rcases hi4 with rfl | rfl | rfl | rfl
      · have HN := Lib.hid (show Mem w [blkE B 23 (cb.map u8v), blkE W 63 ((cu.set 0 f).map uv), blkE (w.heap.size + 1) 23 (aeZ 32)] (wr.setCell ⟨W, 0, none⟩ (.int .u64 (f : Int))) from by have h := HM.out.setCell 1 rfl 0 (uv f); rw [← List.map_set] at h; exact h)
        clear HM
        (try rw [show ((0 : Nat) : Int) = 0 from rfl])
        go_upto_region 11 with fail
        generalize wr.setCell ⟨W, 0, none⟩ (.int .u64 (f : Int)) = w8 at HN ⊢
        have HM := HN
        clear HN fx zx hS0
        have hw8 : IntKind.i64.wrap 0 = 0 := IntWalk.i64_in _ (by omega)
        refine wp_region_held_drew (S := fun W' => Mem w [blkE W 63 ((cu.set 0 f).map uv), blkE (w.heap.size + 1) 23 (aeZ 32)] W') (by kernel_rfl) (((HM.out.erase 0)).drew) (fun hHeld => ?_)
        replace HM := Lib.hid HM.out.drew
        generalize w8.drew = wd1 at HM hHeld ⊢
        refine take_first (v := ?_) 0 rfl (by kernel_rfl) (by kernel_rfl) (by kernel_rfl) (fun _ _ _ h => h) (Or.inl ⟨by rfl, ?_⟩) (by assumption) ?_
        rotate_left
        · (intro w hSw; (try dsimp only at hSw); go_simp; try with_reducible rfl)
        (try simp only [Act.put, List.setIfInBounds_toArray, List.set_cons_zero, List.set_cons_succ])
        refine take_first (v := ?_) 1 rfl (by kernel_rfl) (by kernel_rfl) (by kernel_rfl) (fun _ _ _ h => h) (Or.inl ⟨by rfl, ?_⟩) (by assumption) ?_
        rotate_left
        · (intro w hSw; (try dsimp only at hSw); go_simp; try with_reducible rfl)
        (try simp only [Act.put, List.setIfInBounds_toArray, List.set_cons_zero, List.set_cons_succ])
        refine take_first (v := ?_) 2 rfl (by kernel_rfl) (by kernel_rfl) (by kernel_rfl) (fun _ _ _ h => h) (Or.inl ⟨by rfl, ?_⟩) (by assumption) ?_
        rotate_left
        · (intro w hSw; (try dsimp only at hSw); go_simp; try with_reducible rfl)
        (try simp only [Act.put, List.setIfInBounds_toArray, List.set_cons_zero, List.set_cons_succ])
        refine take_first (v := ?_) 3 rfl (by kernel_rfl) (by kernel_rfl) (by kernel_rfl) (fun _ _ _ h => h) (Or.inl ⟨by rfl, ?_⟩) (by assumption) ?_
        rotate_left
        · (intro w hSw; (try dsimp only at hSw); go_simp; try with_reducible rfl)
        (try simp only [Act.put, List.setIfInBounds_toArray, List.set_cons_zero, List.set_cons_succ])
        refine take_first (v := ?_) 4 rfl (by kernel_rfl) (by kernel_rfl) (by kernel_rfl) (fun _ _ _ h => h) (Or.inl ⟨by rfl, ?_⟩) (by assumption) ?_
        rotate_left
        · (intro w hSw; (try dsimp only at hSw); go_simp; try with_reducible rfl)
        (try simp only [Act.put, List.setIfInBounds_toArray, List.set_cons_zero, List.set_cons_succ])
        refine take_first (v := ?_) 5 rfl (by kernel_rfl) (by kernel_rfl) (by kernel_rfl) (fun _ _ _ h => h) (Or.inl ⟨by rfl, ?_⟩) (by assumption) ?_
        rotate_left
        · (intro w hSw; (try dsimp only at hSw); have fy := lim (Mem.blk hSw 0 rfl) 0 (by rw [List.length_set, HUL.out]; omega); rw [dg_set _ _ _ _ (by rw [HUL.out]; omega), if_pos rfl] at fy; go_simp; try with_reducible rfl)
        (try simp only [Act.put, List.setIfInBounds_toArray, List.set_cons_zero, List.set_cons_succ])
        refine step_one 6 rfl (by kernel_rfl) (fun K hK => ?_)
        clear hHeld
        go_simp
        refine (HLI.out _).mono ?_
        rintro e wy2 ⟨rfl, hown, hb⟩
        replace HM := Lib.hid (show Mem w [rdE wd1.heap.size wy2.heap.size (some ⟨wd1.heap.size, 0, none⟩) 8 (littleL f 8), blkE B 23 (cb.map u8v), blkE W 63 ((cu.set 0 f).map uv), blkE (w.heap.size + 1) 23 (aeZ 32)] wy2 from HM.out.callRd hb hown)
        clear hb hown
        go_wp2_with fail
        refine hK.out _ _ (((HM.out.erase 0).erase 0)) (fun hHeld => ?_)
        clear hK K
        (try simp only [Act.put, List.setIfInBounds_toArray, List.set_cons_zero, List.set_cons_succ])
        refine step_one 7 rfl (by kernel_rfl) (fun K hK => ?_)
        clear hHeld
        refine step_copy_bytes _ rfl (.tmp 59) (.tmp 63) 48 48 (by rfl) 5 Try.underlying48 (by kernel_rfl) B 0 32 32 ⟨wd1.heap.size, 0, none⟩ 8 8 (by rfl) (by rfl) ((cb).map u8v) 23 (HM.out.blk 1 rfl) ((littleL f 8).map u8v) (by rw [List.length_map, littleL_length]; rfl) ((HM.out.rd 0 rfl)).src (by rw [List.length_map, List.length_map, littleL_length]; rw [HBL.out]; omega) (u8v_one _) ?_
        intro wy3 hb hg
        rw [putL_map] at hb
        replace HM := Lib.hid (show Mem w [rdE wd1.heap.size wy2.heap.size (some ⟨wd1.heap.size, 0, none⟩) 8 (littleL f 8), blkE B 23 ((putL cb 0 (littleL f 8)).map u8v), blkE W 63 ((cu.set 0 f).map uv), blkE (w.heap.size + 1) 23 (aeZ 32)] wy3 from HM.out.put 1 rfl _ hg hb)
        clear hb hg
        refine hK.out _ _ (((HM.out.erase 0).erase 0)) (fun hHeld => ?_)
        clear hK K
        (try simp only [Act.put, List.setIfInBounds_toArray, List.set_cons_zero, List.set_cons_succ])
        refine wpAnyH_done (by kernel_rfl) ?_ _
        clear hHeld
        go_wp2_with fail
        go_roundw
        case rel => exact ⟨1, by omega, by go_num, by rw [HU2.out], by rw [HX.out.1, HX.out.2]; exact HM.out.erase 0⟩
        case measure => simp [intOf]
      · have HN := Lib.hid (show Mem w [blkE B 23 (cb.map u8v), blkE W 63 ((cu.set 1 f).map uv), blkE (w.heap.size + 1) 23 (aeZ 32)] (wr.setCell ⟨W, 1, none⟩ (.int .u64 (f : Int))) from by have h := HM.out.setCell 1 rfl 1 (uv f); rw [← List.map_set] at h; exact h)
        clear HM
        (try rw [show ((1 : Nat) : Int) = 1 from rfl])
        go_upto_region 11 with fail
        generalize wr.setCell ⟨W, 1, none⟩ (.int .u64 (f : Int)) = w8 at HN ⊢
        have HM := HN
        clear HN fx zx hS0
        have hw8 : IntKind.i64.wrap 8 = 8 := IntWalk.i64_in _ (by omega)
        refine wp_region_held_drew (S := fun W' => Mem w [blkE W 63 ((cu.set 1 f).map uv), blkE (w.heap.size + 1) 23 (aeZ 32)] W') (by kernel_rfl) (((HM.out.erase 0)).drew) (fun hHeld => ?_)
        replace HM := Lib.hid HM.out.drew
        generalize w8.drew = wd1 at HM hHeld ⊢
        refine take_first (v := ?_) 0 rfl (by kernel_rfl) (by kernel_rfl) (by kernel_rfl) (fun _ _ _ h => h) (Or.inl ⟨by rfl, ?_⟩) (by assumption) ?_
        rotate_left
        · (intro w hSw; (try dsimp only at hSw); go_simp; try with_reducible rfl)
        (try simp only [Act.put, List.setIfInBounds_toArray, List.set_cons_zero, List.set_cons_succ])
        refine take_first (v := ?_) 1 rfl (by kernel_rfl) (by kernel_rfl) (by kernel_rfl) (fun _ _ _ h => h) (Or.inl ⟨by rfl, ?_⟩) (by assumption) ?_
        rotate_left
        · (intro w hSw; (try dsimp only at hSw); go_simp; try with_reducible rfl)
        (try simp only [Act.put, List.setIfInBounds_toArray, List.set_cons_zero, List.set_cons_succ])
        refine take_first (v := ?_) 2 rfl (by kernel_rfl) (by kernel_rfl) (by kernel_rfl) (fun _ _ _ h => h) (Or.inl ⟨by rfl, ?_⟩) (by assumption) ?_
        rotate_left
        · (intro w hSw; (try dsimp only at hSw); go_simp; try with_reducible rfl)
        (try simp only [Act.put, List.setIfInBounds_toArray, List.set_cons_zero, List.set_cons_succ])
        refine take_first (v := ?_) 3 rfl (by kernel_rfl) (by kernel_rfl) (by kernel_rfl) (fun _ _ _ h => h) (Or.inl ⟨by rfl, ?_⟩) (by assumption) ?_
        rotate_left
        · (intro w hSw; (try dsimp only at hSw); go_simp; try with_reducible rfl)
        (try simp only [Act.put, List.setIfInBounds_toArray, List.set_cons_zero, List.set_cons_succ])
        refine take_first (v := ?_) 4 rfl (by kernel_rfl) (by kernel_rfl) (by kernel_rfl) (fun _ _ _ h => h) (Or.inl ⟨by rfl, ?_⟩) (by assumption) ?_
        rotate_left
        · (intro w hSw; (try dsimp only at hSw); go_simp; try with_reducible rfl)
        (try simp only [Act.put, List.setIfInBounds_toArray, List.set_cons_zero, List.set_cons_succ])
        refine take_first (v := ?_) 5 rfl (by kernel_rfl) (by kernel_rfl) (by kernel_rfl) (fun _ _ _ h => h) (Or.inl ⟨by rfl, ?_⟩) (by assumption) ?_
        rotate_left
        · (intro w hSw; (try dsimp only at hSw); have fy := lim (Mem.blk hSw 0 rfl) 1 (by rw [List.length_set, HUL.out]; omega); rw [dg_set _ _ _ _ (by rw [HUL.out]; omega), if_pos rfl] at fy; go_simp; try with_reducible rfl)
        (try simp only [Act.put, List.setIfInBounds_toArray, List.set_cons_zero, List.set_cons_succ])
        refine step_one 6 rfl (by kernel_rfl) (fun K hK => ?_)
        clear hHeld
        go_simp
        refine (HLI.out _).mono ?_
        rintro e wy2 ⟨rfl, hown, hb⟩
        replace HM := Lib.hid (show Mem w [rdE wd1.heap.size wy2.heap.size (some ⟨wd1.heap.size, 0, none⟩) 8 (littleL f 8), blkE B 23 (cb.map u8v), blkE W 63 ((cu.set 1 f).map uv), blkE (w.heap.size + 1) 23 (aeZ 32)] wy2 from HM.out.callRd hb hown)
        clear hb hown
        go_wp2_with fail
        refine hK.out _ _ (((HM.out.erase 0).erase 0)) (fun hHeld => ?_)
        clear hK K
        (try simp only [Act.put, List.setIfInBounds_toArray, List.set_cons_zero, List.set_cons_succ])
        refine step_one 7 rfl (by kernel_rfl) (fun K hK => ?_)
        clear hHeld
        refine step_copy_bytes _ rfl (.tmp 59) (.tmp 63) 48 48 (by rfl) 5 Try.underlying48 (by kernel_rfl) B 8 24 24 ⟨wd1.heap.size, 0, none⟩ 8 8 (by rfl) (by rfl) ((cb).map u8v) 23 (HM.out.blk 1 rfl) ((littleL f 8).map u8v) (by rw [List.length_map, littleL_length]; rfl) ((HM.out.rd 0 rfl)).src (by rw [List.length_map, List.length_map, littleL_length]; rw [HBL.out]; omega) (u8v_one _) ?_
        intro wy3 hb hg
        rw [putL_map] at hb
        replace HM := Lib.hid (show Mem w [rdE wd1.heap.size wy2.heap.size (some ⟨wd1.heap.size, 0, none⟩) 8 (littleL f 8), blkE B 23 ((putL cb 8 (littleL f 8)).map u8v), blkE W 63 ((cu.set 1 f).map uv), blkE (w.heap.size + 1) 23 (aeZ 32)] wy3 from HM.out.put 1 rfl _ hg hb)
        clear hb hg
        refine hK.out _ _ (((HM.out.erase 0).erase 0)) (fun hHeld => ?_)
        clear hK K
        (try simp only [Act.put, List.setIfInBounds_toArray, List.set_cons_zero, List.set_cons_succ])
        refine wpAnyH_done (by kernel_rfl) ?_ _
        clear hHeld
        go_wp2_with fail
        go_roundw
        case rel => exact ⟨2, by omega, by go_num, by rw [HU2.out], by rw [HX.out.1, HX.out.2]; exact HM.out.erase 0⟩
        case measure => simp [intOf]
      · have HN := Lib.hid (show Mem w [blkE B 23 (cb.map u8v), blkE W 63 ((cu.set 2 f).map uv), blkE (w.heap.size + 1) 23 (aeZ 32)] (wr.setCell ⟨W, 2, none⟩ (.int .u64 (f : Int))) from by have h := HM.out.setCell 1 rfl 2 (uv f); rw [← List.map_set] at h; exact h)
        clear HM
        (try rw [show ((2 : Nat) : Int) = 2 from rfl])
        go_upto_region 11 with fail
        generalize wr.setCell ⟨W, 2, none⟩ (.int .u64 (f : Int)) = w8 at HN ⊢
        have HM := HN
        clear HN fx zx hS0
        have hw8 : IntKind.i64.wrap 16 = 16 := IntWalk.i64_in _ (by omega)
        refine wp_region_held_drew (S := fun W' => Mem w [blkE W 63 ((cu.set 2 f).map uv), blkE (w.heap.size + 1) 23 (aeZ 32)] W') (by kernel_rfl) (((HM.out.erase 0)).drew) (fun hHeld => ?_)
        replace HM := Lib.hid HM.out.drew
        generalize w8.drew = wd1 at HM hHeld ⊢
        refine take_first (v := ?_) 0 rfl (by kernel_rfl) (by kernel_rfl) (by kernel_rfl) (fun _ _ _ h => h) (Or.inl ⟨by rfl, ?_⟩) (by assumption) ?_
        rotate_left
        · (intro w hSw; (try dsimp only at hSw); go_simp; try with_reducible rfl)
        (try simp only [Act.put, List.setIfInBounds_toArray, List.set_cons_zero, List.set_cons_succ])
        refine take_first (v := ?_) 1 rfl (by kernel_rfl) (by kernel_rfl) (by kernel_rfl) (fun _ _ _ h => h) (Or.inl ⟨by rfl, ?_⟩) (by assumption) ?_
        rotate_left
        · (intro w hSw; (try dsimp only at hSw); go_simp; try with_reducible rfl)
        (try simp only [Act.put, List.setIfInBounds_toArray, List.set_cons_zero, List.set_cons_succ])
        refine take_first (v := ?_) 2 rfl (by kernel_rfl) (by kernel_rfl) (by kernel_rfl) (fun _ _ _ h => h) (Or.inl ⟨by rfl, ?_⟩) (by assumption) ?_
        rotate_left
        · (intro w hSw; (try dsimp only at hSw); go_simp; try with_reducible rfl)
        (try simp only [Act.put, List.setIfInBounds_toArray, List.set_cons_zero, List.set_cons_succ])
        refine take_first (v := ?_) 3 rfl (by kernel_rfl) (by kernel_rfl) (by kernel_rfl) (fun _ _ _ h => h) (Or.inl ⟨by rfl, ?_⟩) (by assumption) ?_
        rotate_left
        · (intro w hSw; (try dsimp only at hSw); go_simp; try with_reducible rfl)
        (try simp only [Act.put, List.setIfInBounds_toArray, List.set_cons_zero, List.set_cons_succ])
        refine take_first (v := ?_) 4 rfl (by kernel_rfl) (by kernel_rfl) (by kernel_rfl) (fun _ _ _ h => h) (Or.inl ⟨by rfl, ?_⟩) (by assumption) ?_
        rotate_left
        · (intro w hSw; (try dsimp only at hSw); go_simp; try with_reducible rfl)
        (try simp only [Act.put, List.setIfInBounds_toArray, List.set_cons_zero, List.set_cons_succ])
        refine take_first (v := ?_) 5 rfl (by kernel_rfl) (by kernel_rfl) (by kernel_rfl) (fun _ _ _ h => h) (Or.inl ⟨by rfl, ?_⟩) (by assumption) ?_
        rotate_left
        · (intro w hSw; (try dsimp only at hSw); have fy := lim (Mem.blk hSw 0 rfl) 2 (by rw [List.length_set, HUL.out]; omega); rw [dg_set _ _ _ _ (by rw [HUL.out]; omega), if_pos rfl] at fy; go_simp; try with_reducible rfl)
        (try simp only [Act.put, List.setIfInBounds_toArray, List.set_cons_zero, List.set_cons_succ])
        refine step_one 6 rfl (by kernel_rfl) (fun K hK => ?_)
        clear hHeld
        go_simp
        refine (HLI.out _).mono ?_
        rintro e wy2 ⟨rfl, hown, hb⟩
        replace HM := Lib.hid (show Mem w [rdE wd1.heap.size wy2.heap.size (some ⟨wd1.heap.size, 0, none⟩) 8 (littleL f 8), blkE B 23 (cb.map u8v), blkE W 63 ((cu.set 2 f).map uv), blkE (w.heap.size + 1) 23 (aeZ 32)] wy2 from HM.out.callRd hb hown)
        clear hb hown
        go_wp2_with fail
        refine hK.out _ _ (((HM.out.erase 0).erase 0)) (fun hHeld => ?_)
        clear hK K
        (try simp only [Act.put, List.setIfInBounds_toArray, List.set_cons_zero, List.set_cons_succ])
        refine step_one 7 rfl (by kernel_rfl) (fun K hK => ?_)
        clear hHeld
        refine step_copy_bytes _ rfl (.tmp 59) (.tmp 63) 48 48 (by rfl) 5 Try.underlying48 (by kernel_rfl) B 16 16 16 ⟨wd1.heap.size, 0, none⟩ 8 8 (by rfl) (by rfl) ((cb).map u8v) 23 (HM.out.blk 1 rfl) ((littleL f 8).map u8v) (by rw [List.length_map, littleL_length]; rfl) ((HM.out.rd 0 rfl)).src (by rw [List.length_map, List.length_map, littleL_length]; rw [HBL.out]; omega) (u8v_one _) ?_
        intro wy3 hb hg
        rw [putL_map] at hb
        replace HM := Lib.hid (show Mem w [rdE wd1.heap.size wy2.heap.size (some ⟨wd1.heap.size, 0, none⟩) 8 (littleL f 8), blkE B 23 ((putL cb 16 (littleL f 8)).map u8v), blkE W 63 ((cu.set 2 f).map uv), blkE (w.heap.size + 1) 23 (aeZ 32)] wy3 from HM.out.put 1 rfl _ hg hb)
        clear hb hg
        refine hK.out _ _ (((HM.out.erase 0).erase 0)) (fun hHeld => ?_)
        clear hK K
        (try simp only [Act.put, List.setIfInBounds_toArray, List.set_cons_zero, List.set_cons_succ])
        refine wpAnyH_done (by kernel_rfl) ?_ _
        clear hHeld
        go_wp2_with fail
        go_roundw
        case rel => exact ⟨3, by omega, by go_num, by rw [HU2.out], by rw [HX.out.1, HX.out.2]; exact HM.out.erase 0⟩
        case measure => simp [intOf]
      · have HN := Lib.hid (show Mem w [blkE B 23 (cb.map u8v), blkE W 63 ((cu.set 3 f).map uv), blkE (w.heap.size + 1) 23 (aeZ 32)] (wr.setCell ⟨W, 3, none⟩ (.int .u64 (f : Int))) from by have h := HM.out.setCell 1 rfl 3 (uv f); rw [← List.map_set] at h; exact h)
        clear HM
        (try rw [show ((3 : Nat) : Int) = 3 from rfl])
        go_upto_region 11 with fail
        generalize wr.setCell ⟨W, 3, none⟩ (.int .u64 (f : Int)) = w8 at HN ⊢
        have HM := HN
        clear HN fx zx hS0
        have hw8 : IntKind.i64.wrap 24 = 24 := IntWalk.i64_in _ (by omega)
        refine wp_region_held_drew (S := fun W' => Mem w [blkE W 63 ((cu.set 3 f).map uv), blkE (w.heap.size + 1) 23 (aeZ 32)] W') (by kernel_rfl) (((HM.out.erase 0)).drew) (fun hHeld => ?_)
        replace HM := Lib.hid HM.out.drew
        generalize w8.drew = wd1 at HM hHeld ⊢
        refine take_first (v := ?_) 0 rfl (by kernel_rfl) (by kernel_rfl) (by kernel_rfl) (fun _ _ _ h => h) (Or.inl ⟨by rfl, ?_⟩) (by assumption) ?_
        rotate_left
        · (intro w hSw; (try dsimp only at hSw); go_simp; try with_reducible rfl)
        (try simp only [Act.put, List.setIfInBounds_toArray, List.set_cons_zero, List.set_cons_succ])
        refine take_first (v := ?_) 1 rfl (by kernel_rfl) (by kernel_rfl) (by kernel_rfl) (fun _ _ _ h => h) (Or.inl ⟨by rfl, ?_⟩) (by assumption) ?_
        rotate_left
        · (intro w hSw; (try dsimp only at hSw); go_simp; try with_reducible rfl)
        (try simp only [Act.put, List.setIfInBounds_toArray, List.set_cons_zero, List.set_cons_succ])
        refine take_first (v := ?_) 2 rfl (by kernel_rfl) (by kernel_rfl) (by kernel_rfl) (fun _ _ _ h => h) (Or.inl ⟨by rfl, ?_⟩) (by assumption) ?_
        rotate_left
        · (intro w hSw; (try dsimp only at hSw); go_simp; try with_reducible rfl)
        (try simp only [Act.put, List.setIfInBounds_toArray, List.set_cons_zero, List.set_cons_succ])
        refine take_first (v := ?_) 3 rfl (by kernel_rfl) (by kernel_rfl) (by kernel_rfl) (fun _ _ _ h => h) (Or.inl ⟨by rfl, ?_⟩) (by assumption) ?_
        rotate_left
        · (intro w hSw; (try dsimp only at hSw); go_simp; try with_reducible rfl)
        (try simp only [Act.put, List.setIfInBounds_toArray, List.set_cons_zero, List.set_cons_succ])
        refine take_first (v := ?_) 4 rfl (by kernel_rfl) (by kernel_rfl) (by kernel_rfl) (fun _ _ _ h => h) (Or.inl ⟨by rfl, ?_⟩) (by assumption) ?_
        rotate_left
        · (intro w hSw; (try dsimp only at hSw); go_simp; try with_reducible rfl)
        (try simp only [Act.put, List.setIfInBounds_toArray, List.set_cons_zero, List.set_cons_succ])
        refine take_first (v := ?_) 5 rfl (by kernel_rfl) (by kernel_rfl) (by kernel_rfl) (fun _ _ _ h => h) (Or.inl ⟨by rfl, ?_⟩) (by assumption) ?_
        rotate_left
        · (intro w hSw; (try dsimp only at hSw); have fy := lim (Mem.blk hSw 0 rfl) 3 (by rw [List.length_set, HUL.out]; omega); rw [dg_set _ _ _ _ (by rw [HUL.out]; omega), if_pos rfl] at fy; go_simp; try with_reducible rfl)
        (try simp only [Act.put, List.setIfInBounds_toArray, List.set_cons_zero, List.set_cons_succ])
        refine step_one 6 rfl (by kernel_rfl) (fun K hK => ?_)
        clear hHeld
        go_simp
        refine (HLI.out _).mono ?_
        rintro e wy2 ⟨rfl, hown, hb⟩
        replace HM := Lib.hid (show Mem w [rdE wd1.heap.size wy2.heap.size (some ⟨wd1.heap.size, 0, none⟩) 8 (littleL f 8), blkE B 23 (cb.map u8v), blkE W 63 ((cu.set 3 f).map uv), blkE (w.heap.size + 1) 23 (aeZ 32)] wy2 from HM.out.callRd hb hown)
        clear hb hown
        go_wp2_with fail
        refine hK.out _ _ (((HM.out.erase 0).erase 0)) (fun hHeld => ?_)
        clear hK K
        (try simp only [Act.put, List.setIfInBounds_toArray, List.set_cons_zero, List.set_cons_succ])
        refine step_one 7 rfl (by kernel_rfl) (fun K hK => ?_)
        clear hHeld
        refine step_copy_bytes _ rfl (.tmp 59) (.tmp 63) 48 48 (by rfl) 5 Try.underlying48 (by kernel_rfl) B 24 8 8 ⟨wd1.heap.size, 0, none⟩ 8 8 (by rfl) (by rfl) ((cb).map u8v) 23 (HM.out.blk 1 rfl) ((littleL f 8).map u8v) (by rw [List.length_map, littleL_length]; rfl) ((HM.out.rd 0 rfl)).src (by rw [List.length_map, List.length_map, littleL_length]; rw [HBL.out]; omega) (u8v_one _) ?_
        intro wy3 hb hg
        rw [putL_map] at hb
        replace HM := Lib.hid (show Mem w [rdE wd1.heap.size wy2.heap.size (some ⟨wd1.heap.size, 0, none⟩) 8 (littleL f 8), blkE B 23 ((putL cb 24 (littleL f 8)).map u8v), blkE W 63 ((cu.set 3 f).map uv), blkE (w.heap.size + 1) 23 (aeZ 32)] wy3 from HM.out.put 1 rfl _ hg hb)
        clear hb hg
        refine hK.out _ _ (((HM.out.erase 0).erase 0)) (fun hHeld => ?_)
        clear hK K
        (try simp only [Act.put, List.setIfInBounds_toArray, List.set_cons_zero, List.set_cons_succ])
        refine wpAnyH_done (by kernel_rfl) ?_ _
        clear hHeld
        go_wp2_with fail
        go_roundw
        case rel => exact ⟨4, by omega, by go_num, by rw [HU2.out], by rw [HX.out.1, HX.out.2]; exact HM.out.erase 0⟩
        case measure => simp [intOf]
    · obtain rfl : i = 4 := by omega
      obtain ⟨z, hz⟩ : ∃ z, bJ (fS t) 4 = z := ⟨_, rfl⟩
      have hzl := bJ_length (fS t) 4 (by omega)
      rw [hz] at hzl HM
      have HZ := Lib.hid hz
      obtain ⟨cz, hcz⟩ : ∃ c, (z.map u8v).toArray = c := ⟨_, rfl⟩
      have HCZ := Lib.hid (And.intro hcz hzl)
      clear hz hzl hcz
      (try rw [show ((4 : Nat) : Int) = 4 from rfl])
      go_wp2_with (first | (refine wpList_load_blk rfl 23 (.tmp 6) rfl B rfl 23 (z.map u8v) (HM.out.blk 0 rfl) 32 5 Try.underlying23 (cells32 z HCZ.out.2) ?_; rw [HCZ.out.1]) | (refine wpList_store_blk rfl 23 (.tmp 2) (.tmp 66) rfl (w.heap.size + 1) (z.map u8v) rfl (by show Value.agg cz = _; rw [HCZ.out.1]) 23 (aeZ 32) (HM.out.blk 2 rfl) (cells32 z HCZ.out.2) (by rw [List.length_map, HCZ.out.2]; rfl) (u8v_one _) ?_; intro w9 hb9 hg9))
      exact bodyPost_ret (results_blk rfl _ _ (w.heap.size + 1) 23 (z.map u8v) 32 5 rfl hb9 Try.underlying23 (cells32 z HCZ.out.2)) rfl ⟨by rw [HZ.out], (HM.out.put 2 rfl _ hg9 hb9).bel⟩
end Go.Proofs.Ytgdgecehmnokdaa.Cv
