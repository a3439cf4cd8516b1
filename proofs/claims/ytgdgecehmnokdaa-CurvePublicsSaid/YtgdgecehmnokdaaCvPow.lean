/-
  The contracts of the program's square and invert over five limbs of 51 bits. No statement is proved here.
-/
import Derived.Test.YtgdgecehmnokdaaCvMul
namespace Go.Proofs.Ytgdgecehmnokdaa.Cv
open Go.RowKit

/-- n squarings -/
def sqN (l : List Nat) : Nat → List Nat
  | 0 => l
  | n + 1 => mulN (sqN l n) (sqN l n)
theorem sqN_small (l : List Nat) (h : SmallN l) : ∀ n, SmallN (sqN l n)
  | 0 => h
  | n + 1 => mulN_small _ _ (sqN_small l h n).loose (sqN_small l h n).loose
theorem fpow_add (a : Cu.Fq) (m : Nat) : ∀ n, Cu.fpow a (m + n) = Cu.fpow a m * Cu.fpow a n
  | 0 => by rw [show Cu.fpow a 0 = 1 from rfl, Cu.fmul_one]; rfl
  | n + 1 => by
    rw [← Nat.add_assoc, Cu.fpow_succ, Cu.fpow_succ, fpow_add a m n]
    generalize Cu.fpow a m = x
    generalize Cu.fpow a n = y
    grind
theorem sqN_fq (l : List Nat) (a : Cu.Fq) (e : Nat) (h : Cu.fq (val l : Int) = Cu.fpow a e) : ∀ n, Cu.fq (val (sqN l n) : Int) = Cu.fpow a (e * 2 ^ n)
  | 0 => by rw [Nat.pow_zero, Nat.mul_one]; exact h
  | n + 1 => by
    rw [sqN, mulN_fq, sqN_fq l a e h n, ← fpow_add, Nat.pow_succ, ← Nat.mul_assoc, Nat.mul_two]

set_option maxRecDepth 100000 in
set_option maxHeartbeats 2000000 in
theorem square_any (l : List Nat) (hl : SmallN l) (t : Nat) (ht : t ≤ 1000) (w : World) :
    Calls Try.prog 44 #[.agg (l.map uv).toArray, .int .i64 (t : Int)] w fun e w' => e = .returned (.agg ((sqN l t).map uv).toArray) ∧ Below w.heap.size w w' := by
  obtain ⟨cl, hcl⟩ : ∃ c, (l.map uv).toArray = c := ⟨_, rfl⟩
  rw [hcl]
  have HM := Lib.hid (show Mem w [blkE (w.heap.size + 1) 51 z5, blkE w.heap.size 51 (l.map uv)] ((w.alloc (.cells cl 51)).alloc (.cells #[.int .u64 0, .int .u64 0, .int .u64 0, .int .u64 0, .int .u64 0] 51)) from ((Mem.nil w).alloc rfl 51 cl (l.map uv) hcl.symm).alloc (by simp) 51 #[.int .u64 0, .int .u64 0, .int .u64 0, .int .u64 0, .int .u64 0] z5 rfl)
  have HC := Lib.hid hcl
  have HL := Lib.hid hl
  clear hcl hl
  go_enter Try.func44, Try.ntmps44
  go_upto_region 1 with fail
  generalize ((w.alloc (.cells cl 51)).alloc (.cells #[.int .u64 0, .int .u64 0, .int .u64 0, .int .u64 0, .int .u64 0] 51)) = w1 at HM ⊢
  have HA := Lib.hid (show Mem w [blkE w1.heap.size 51 z5, blkE (w.heap.size + 1) 51 z5, blkE w.heap.size 51 (l.map uv)] (w1.alloc (.cells #[.int .u64 0, .int .u64 0, .int .u64 0, .int .u64 0, .int .u64 0] 51)) from HM.out.alloc rfl 51 #[.int .u64 0, .int .u64 0, .int .u64 0, .int .u64 0, .int .u64 0] z5 rfl)
  go_upto_region 2 with (first | (refine wpList_load_blk rfl 51 (.tmp 2) rfl w.heap.size rfl 51 (l.map uv) (HM.out.blk 1 rfl) 5 49 Try.underlying51 (cells5 l (HL.out.1)) ?_; rw [HC.out]) | (refine wpList_store_blk rfl 51 (.tmp 5) (.tmp 6) rfl w1.heap.size (l.map uv) rfl (by show Value.agg cl = _; rw [HC.out]) 51 (z5) (HA.out.blk 0 rfl) (cells5 l (HL.out.1)) (len5 (HL.out.1) (rfl)) (uv_one _) ?_; intro w2 hb9 hg9))
  (try simp only [Act.put])
  replace HM := Lib.hid (HA.out.put 0 rfl (l.map uv) hg9 hb9)
  clear HA hb9 hg9
  generalize w1.heap.size = G at HM ⊢
  replace HM := Lib.hid (show Mem w [blkE G 51 ((sqN l 0).map uv), blkE (w.heap.size + 1) 51 z5] w2 from HM.out.erase 2)
  go_wp2_with fail
  go_loopw [8] (fun z wr => ∃ n : Nat, n ≤ t ∧ z = .int .i64 (n : Int) ∧ Mem w [blkE G 51 ((sqN l n).map uv), blkE (w.heap.size + 1) 51 z5] wr) (fun z _ => t - (intOf z).toNat)
  case atStart => exact ⟨0, by omega, rfl, HM.out⟩
  case round =>
    clear HM
    obtain ⟨n, hn, rfl, hM⟩ := hrel
    have HM := Lib.hid hM
    clear hM
    have hs := sqN_small l HL.out n
    by_cases hlt : n < t
    · have dl : decide ((n : Int) < (t : Int)) = true := by simp; omega
      have hs2 := (sqN_small l HL.out (n + 1)).1
      have CM := fun W : World => multiply_any (sqN l n) (sqN l n) hs.loose hs.loose W
      rw [show mulN (sqN l n) (sqN l n) = sqN l (n + 1) from rfl] at CM
      obtain ⟨r, hr⟩ : ∃ r, sqN l (n + 1) = r := ⟨_, rfl⟩
      rw [hr] at CM hs2
      have HR := Lib.hid hr
      clear hr
      generalize sqN l n = o at HM hs CM
      have hol := hs.1
      clear hs
      obtain ⟨co, hco⟩ : ∃ c, (o.map uv).toArray = c := ⟨_, rfl⟩
      obtain ⟨cr, hcr⟩ : ∃ c, (r.map uv).toArray = c := ⟨_, rfl⟩
      rw [hco, hcr] at CM
      have HK := Lib.hid CM
      have HX := Lib.hid (And.intro hco (And.intro hcr (And.intro hol hs2)))
      clear hco hcr CM hol hs2
      go_wp2_with (refine wpList_load_blk rfl 51 (.tmp 5) rfl G rfl 51 (o.map uv) (HM.out.blk 0 rfl) 5 49 Try.underlying51 (cells5 o (HX.out.2.2.1)) ?_; rw [HX.out.1])
      refine (HK.out _).mono ?_
      rintro e w3 ⟨rfl, hb⟩
      replace HM := Lib.hid (HM.out.below hb)
      clear hb
      go_upto_region 5 with (refine wpList_store_blk rfl 51 (.tmp 5) (.tmp 12) rfl G (r.map uv) rfl (by show Value.agg cr = _; rw [HX.out.2.1]) 51 (o.map uv) (HM.out.blk 0 rfl) (cells5 r (HX.out.2.2.2)) (len5 (HX.out.2.2.2) (by rw [List.length_map]; exact HX.out.2.2.1)) (uv_one _) ?_; intro w4 hb9 hg9)
      (try simp only [Act.put])
      replace HM := Lib.hid (show Mem w [blkE G 51 ((sqN l (n + 1)).map uv), blkE (w.heap.size + 1) 51 z5] w4 from by rw [HR.out]; exact HM.out.put 0 rfl (r.map uv) hg9 hb9)
      clear hb9 hg9 HX HK HR
      go_wp2_with fail
      go_roundw
      case rel => exact ⟨n + 1, by omega, by go_num, HM.out⟩
      case measure => simp [intOf]; omega
    · obtain rfl : n = t := by omega
      have dl : decide ((n : Int) < (n : Int)) = false := by simp
      obtain ⟨z, hz⟩ : ∃ z, sqN l n = z := ⟨_, rfl⟩
      rw [hz] at HM hs
      have HZ := Lib.hid hz
      have hzl := hs.1
      obtain ⟨cz, hcz⟩ : ∃ c, (z.map uv).toArray = c := ⟨_, rfl⟩
      have HCZ := Lib.hid (And.intro hcz hzl)
      clear hz hs hcz hzl
      go_wp2_with (first | (refine wpList_load_blk rfl 51 (.tmp 5) rfl G rfl 51 (z.map uv) (HM.out.blk 0 rfl) 5 49 Try.underlying51 (cells5 z (HCZ.out.2)) ?_; rw [HCZ.out.1]) | (refine wpList_store_blk rfl 51 (.tmp 4) (.tmp 14) rfl (w.heap.size + 1) (z.map uv) rfl (by show Value.agg cz = _; rw [HCZ.out.1]) 51 (z5) (HM.out.blk 1 rfl) (cells5 z (HCZ.out.2)) (len5 (HCZ.out.2) (rfl)) (uv_one _) ?_; intro w9 hb9 hg9))
      exact bodyPost_ret (results_blk rfl _ _ (w.heap.size + 1) 51 (z.map uv) 5 49 rfl hb9 Try.underlying51 (cells5 z HCZ.out.2)) rfl ⟨by rw [HZ.out], (HM.out.put 1 rfl _ hg9 hb9).bel⟩

set_option maxRecDepth 100000 in
set_option maxHeartbeats 8000000 in
theorem invert_any (l : List Nat) (hl : SmallN l) (w : World) :
    Calls Try.prog 31 #[.agg (l.map uv).toArray] w fun e w' => ∃ r, SmallN r ∧ Cu.fq (val r : Int) = Cu.finv (Cu.fq (val l : Int)) ∧ e = .returned (.agg (r.map uv).toArray) ∧ Below w.heap.size w w' := by
  have HS1 : SmallN l := hl
  obtain ⟨q, hq⟩ : ∃ q, Cu.fq (val l : Int) = q := ⟨_, rfl⟩
  have q1 : Cu.fq (val l : Int) = Cu.fpow q 1 := by rw [show Cu.fpow q 1 = Cu.fpow q 0 * q from rfl, show Cu.fpow q 0 = 1 from rfl, Cu.fone_mul, hq]
  have HS3 : SmallN (mulN l l) := mulN_small _ _ HS1.loose HS1.loose
  have q3 : Cu.fq (val (mulN l l) : Int) = Cu.fpow q 2 := by rw [mulN_fq, q1, ← fpow_add]
  have C3 := fun W : World => multiply_any l l HS1.loose HS1.loose W
  generalize mulN l l = r3 at HS3 q3 C3
  have HT4 : SmallN (sqN r3 2) := sqN_small _ HS3 2
  have p4 : Cu.fq (val (sqN r3 2) : Int) = Cu.fpow q 8 := by rw [sqN_fq r3 q _ q3 2]
  have D4 : ∀ W : World, Calls Try.prog 44 #[.agg (r3.map uv).toArray, .int .i64 2] W fun e w' => e = .returned (.agg ((sqN r3 2).map uv).toArray) ∧ Below W.heap.size W w' := fun W => square_any r3 HS3 2 (by omega) W
  generalize sqN r3 2 = s4 at HT4 p4 D4
  have HS4 : SmallN (mulN s4 l) := mulN_small _ _ HT4.loose HS1.loose
  have q4 : Cu.fq (val (mulN s4 l) : Int) = Cu.fpow q 9 := by rw [mulN_fq, p4, q1, ← fpow_add]
  have C4 := fun W : World => multiply_any s4 l HT4.loose HS1.loose W
  generalize mulN s4 l = r4 at HS4 q4 C4
  have HS5 : SmallN (mulN r4 r3) := mulN_small _ _ HS4.loose HS3.loose
  have q5 : Cu.fq (val (mulN r4 r3) : Int) = Cu.fpow q 11 := by rw [mulN_fq, q4, q3, ← fpow_add]
  have C5 := fun W : World => multiply_any r4 r3 HS4.loose HS3.loose W
  generalize mulN r4 r3 = r5 at HS5 q5 C5
  have HT6 : SmallN (sqN r5 1) := sqN_small _ HS5 1
  have p6 : Cu.fq (val (sqN r5 1) : Int) = Cu.fpow q 22 := by rw [sqN_fq r5 q _ q5 1]
  have D6 : ∀ W : World, Calls Try.prog 44 #[.agg (r5.map uv).toArray, .int .i64 1] W fun e w' => e = .returned (.agg ((sqN r5 1).map uv).toArray) ∧ Below W.heap.size W w' := fun W => square_any r5 HS5 1 (by omega) W
  generalize sqN r5 1 = s6 at HT6 p6 D6
  have HS6 : SmallN (mulN s6 r4) := mulN_small _ _ HT6.loose HS4.loose
  have q6 : Cu.fq (val (mulN s6 r4) : Int) = Cu.fpow q 31 := by rw [mulN_fq, p6, q4, ← fpow_add]
  have C6 := fun W : World => multiply_any s6 r4 HT6.loose HS4.loose W
  generalize mulN s6 r4 = r6 at HS6 q6 C6
  have HT7 : SmallN (sqN r6 5) := sqN_small _ HS6 5
  have p7 : Cu.fq (val (sqN r6 5) : Int) = Cu.fpow q 992 := by rw [sqN_fq r6 q _ q6 5]
  have D7 : ∀ W : World, Calls Try.prog 44 #[.agg (r6.map uv).toArray, .int .i64 5] W fun e w' => e = .returned (.agg ((sqN r6 5).map uv).toArray) ∧ Below W.heap.size W w' := fun W => square_any r6 HS6 5 (by omega) W
  generalize sqN r6 5 = s7 at HT7 p7 D7
  have HS7 : SmallN (mulN s7 r6) := mulN_small _ _ HT7.loose HS6.loose
  have q7 : Cu.fq (val (mulN s7 r6) : Int) = Cu.fpow q 1023 := by rw [mulN_fq, p7, q6, ← fpow_add]
  have C7 := fun W : World => multiply_any s7 r6 HT7.loose HS6.loose W
  generalize mulN s7 r6 = r7 at HS7 q7 C7
  have HT8 : SmallN (sqN r7 10) := sqN_small _ HS7 10
  have p8 : Cu.fq (val (sqN r7 10) : Int) = Cu.fpow q 1047552 := by rw [sqN_fq r7 q _ q7 10]
  have D8 : ∀ W : World, Calls Try.prog 44 #[.agg (r7.map uv).toArray, .int .i64 10] W fun e w' => e = .returned (.agg ((sqN r7 10).map uv).toArray) ∧ Below W.heap.size W w' := fun W => square_any r7 HS7 10 (by omega) W
  generalize sqN r7 10 = s8 at HT8 p8 D8
  have HS8 : SmallN (mulN s8 r7) := mulN_small _ _ HT8.loose HS7.loose
  have q8 : Cu.fq (val (mulN s8 r7) : Int) = Cu.fpow q 1048575 := by rw [mulN_fq, p8, q7, ← fpow_add]
  have C8 := fun W : World => multiply_any s8 r7 HT8.loose HS7.loose W
  generalize mulN s8 r7 = r8 at HS8 q8 C8
  have HT9 : SmallN (sqN r8 20) := sqN_small _ HS8 20
  have p9 : Cu.fq (val (sqN r8 20) : Int) = Cu.fpow q 1099510579200 := by rw [sqN_fq r8 q _ q8 20]
  have D9 : ∀ W : World, Calls Try.prog 44 #[.agg (r8.map uv).toArray, .int .i64 20] W fun e w' => e = .returned (.agg ((sqN r8 20).map uv).toArray) ∧ Below W.heap.size W w' := fun W => square_any r8 HS8 20 (by omega) W
  generalize sqN r8 20 = s9 at HT9 p9 D9
  have HS9 : SmallN (mulN s9 r8) := mulN_small _ _ HT9.loose HS8.loose
  have q9 : Cu.fq (val (mulN s9 r8) : Int) = Cu.fpow q 1099511627775 := by rw [mulN_fq, p9, q8, ← fpow_add]
  have C9 := fun W : World => multiply_any s9 r8 HT9.loose HS8.loose W
  generalize mulN s9 r8 = r9 at HS9 q9 C9
  have HT10 : SmallN (sqN r9 10) := sqN_small _ HS9 10
  have p10 : Cu.fq (val (sqN r9 10) : Int) = Cu.fpow q 1125899906841600 := by rw [sqN_fq r9 q _ q9 10]
  have D10 : ∀ W : World, Calls Try.prog 44 #[.agg (r9.map uv).toArray, .int .i64 10] W fun e w' => e = .returned (.agg ((sqN r9 10).map uv).toArray) ∧ Below W.heap.size W w' := fun W => square_any r9 HS9 10 (by omega) W
  generalize sqN r9 10 = s10 at HT10 p10 D10
  have HS10 : SmallN (mulN s10 r7) := mulN_small _ _ HT10.loose HS7.loose
  have q10 : Cu.fq (val (mulN s10 r7) : Int) = Cu.fpow q 1125899906842623 := by rw [mulN_fq, p10, q7, ← fpow_add]
  have C10 := fun W : World => multiply_any s10 r7 HT10.loose HS7.loose W
  generalize mulN s10 r7 = r10 at HS10 q10 C10
  have HT11 : SmallN (sqN r10 50) := sqN_small _ HS10 50
  have p11 : Cu.fq (val (sqN r10 50) : Int) = Cu.fpow q 1267650600228228275596796362752 := by rw [sqN_fq r10 q _ q10 50]
  have D11 : ∀ W : World, Calls Try.prog 44 #[.agg (r10.map uv).toArray, .int .i64 50] W fun e w' => e = .returned (.agg ((sqN r10 50).map uv).toArray) ∧ Below W.heap.size W w' := fun W => square_any r10 HS10 50 (by omega) W
  generalize sqN r10 50 = s11 at HT11 p11 D11
  have HS11 : SmallN (mulN s11 r10) := mulN_small _ _ HT11.loose HS10.loose
  have q11 : Cu.fq (val (mulN s11 r10) : Int) = Cu.fpow q 1267650600228229401496703205375 := by rw [mulN_fq, p11, q10, ← fpow_add]
  have C11 := fun W : World => multiply_any s11 r10 HT11.loose HS10.loose W
  generalize mulN s11 r10 = r11 at HS11 q11 C11
  have HT12 : SmallN (sqN r11 100) := sqN_small _ HS11 100
  have p12 : Cu.fq (val (sqN r11 100) : Int) = Cu.fpow q 1606938044258990275541962092339894951921974764381296132096000 := by rw [sqN_fq r11 q _ q11 100]
  have D12 : ∀ W : World, Calls Try.prog 44 #[.agg (r11.map uv).toArray, .int .i64 100] W fun e w' => e = .returned (.agg ((sqN r11 100).map uv).toArray) ∧ Below W.heap.size W w' := fun W => square_any r11 HS11 100 (by omega) W
  generalize sqN r11 100 = s12 at HT12 p12 D12
  have HS12 : SmallN (mulN s12 r11) := mulN_small _ _ HT12.loose HS11.loose
  have q12 : Cu.fq (val (mulN s12 r11) : Int) = Cu.fpow q 1606938044258990275541962092341162602522202993782792835301375 := by rw [mulN_fq, p12, q11, ← fpow_add]
  have C12 := fun W : World => multiply_any s12 r11 HT12.loose HS11.loose W
  generalize mulN s12 r11 = r12 at HS12 q12 C12
  have HT13 : SmallN (sqN r12 50) := sqN_small _ HS12 50
  have p13 : Cu.fq (val (sqN r12 50) : Int) = Cu.fpow q 1809251394333065553493296640760748560207343510400633813116523624223735808000 := by rw [sqN_fq r12 q _ q12 50]
  have D13 : ∀ W : World, Calls Try.prog 44 #[.agg (r12.map uv).toArray, .int .i64 50] W fun e w' => e = .returned (.agg ((sqN r12 50).map uv).toArray) ∧ Below W.heap.size W w' := fun W => square_any r12 HS12 50 (by omega) W
  generalize sqN r12 50 = s13 at HT13 p13 D13
  have HS13 : SmallN (mulN s13 r10) := mulN_small _ _ HT13.loose HS10.loose
  have q13 : Cu.fq (val (mulN s13 r10) : Int) = Cu.fpow q 1809251394333065553493296640760748560207343510400633813116524750123642650623 := by rw [mulN_fq, p13, q10, ← fpow_add]
  have C13 := fun W : World => multiply_any s13 r10 HT13.loose HS10.loose W
  generalize mulN s13 r10 = r13 at HS13 q13 C13
  have HT2 : SmallN (sqN r13 5) := sqN_small _ HS13 5
  have p2 : Cu.fq (val (sqN r13 5) : Int) = Cu.fpow q 57896044618658097711785492504343953926634992332820282019728792003956564819936 := by rw [sqN_fq r13 q _ q13 5]
  have D2 : ∀ W : World, Calls Try.prog 44 #[.agg (r13.map uv).toArray, .int .i64 5] W fun e w' => e = .returned (.agg ((sqN r13 5).map uv).toArray) ∧ Below W.heap.size W w' := fun W => square_any r13 HS13 5 (by omega) W
  generalize sqN r13 5 = s2 at HT2 p2 D2
  have HS2 : SmallN (mulN s2 r5) := mulN_small _ _ HT2.loose HS5.loose
  have q2 : Cu.fq (val (mulN s2 r5) : Int) = Cu.fpow q 57896044618658097711785492504343953926634992332820282019728792003956564819947 := by rw [mulN_fq, p2, q5, ← fpow_add]
  have C2 := fun W : World => multiply_any s2 r5 HT2.loose HS5.loose W
  generalize mulN s2 r5 = r2 at HS2 q2 C2
  obtain ⟨cl, hcl⟩ : ∃ c, (l.map uv).toArray = c := ⟨_, rfl⟩
  obtain ⟨cr3, hcr3⟩ : ∃ c, (r3.map uv).toArray = c := ⟨_, rfl⟩
  obtain ⟨cr4, hcr4⟩ : ∃ c, (r4.map uv).toArray = c := ⟨_, rfl⟩
  obtain ⟨cr5, hcr5⟩ : ∃ c, (r5.map uv).toArray = c := ⟨_, rfl⟩
  obtain ⟨cr6, hcr6⟩ : ∃ c, (r6.map uv).toArray = c := ⟨_, rfl⟩
  obtain ⟨cr7, hcr7⟩ : ∃ c, (r7.map uv).toArray = c := ⟨_, rfl⟩
  obtain ⟨cr8, hcr8⟩ : ∃ c, (r8.map uv).toArray = c := ⟨_, rfl⟩
  obtain ⟨cr9, hcr9⟩ : ∃ c, (r9.map uv).toArray = c := ⟨_, rfl⟩
  obtain ⟨cr10, hcr10⟩ : ∃ c, (r10.map uv).toArray = c := ⟨_, rfl⟩
  obtain ⟨cr11, hcr11⟩ : ∃ c, (r11.map uv).toArray = c := ⟨_, rfl⟩
  obtain ⟨cr12, hcr12⟩ : ∃ c, (r12.map uv).toArray = c := ⟨_, rfl⟩
  obtain ⟨cr13, hcr13⟩ : ∃ c, (r13.map uv).toArray = c := ⟨_, rfl⟩
  obtain ⟨cr2, hcr2⟩ : ∃ c, (r2.map uv).toArray = c := ⟨_, rfl⟩
  obtain ⟨cs4, hcs4⟩ : ∃ c, (s4.map uv).toArray = c := ⟨_, rfl⟩
  obtain ⟨cs6, hcs6⟩ : ∃ c, (s6.map uv).toArray = c := ⟨_, rfl⟩
  obtain ⟨cs7, hcs7⟩ : ∃ c, (s7.map uv).toArray = c := ⟨_, rfl⟩
  obtain ⟨cs8, hcs8⟩ : ∃ c, (s8.map uv).toArray = c := ⟨_, rfl⟩
  obtain ⟨cs9, hcs9⟩ : ∃ c, (s9.map uv).toArray = c := ⟨_, rfl⟩
  obtain ⟨cs10, hcs10⟩ : ∃ c, (s10.map uv).toArray = c := ⟨_, rfl⟩
  obtain ⟨cs11, hcs11⟩ : ∃ c, (s11.map uv).toArray = c := ⟨_, rfl⟩
  obtain ⟨cs12, hcs12⟩ : ∃ c, (s12.map uv).toArray = c := ⟨_, rfl⟩
  obtain ⟨cs13, hcs13⟩ : ∃ c, (s13.map uv).toArray = c := ⟨_, rfl⟩
  obtain ⟨cs2, hcs2⟩ : ∃ c, (s2.map uv).toArray = c := ⟨_, rfl⟩
  rw [hcl, hcr3] at C3
  have KC3 := Lib.hid C3
  clear C3
  rw [hcs4, hcl, hcr4] at C4
  rw [hcr3, hcs4] at D4
  have KD4 := Lib.hid D4
  clear D4
  have KC4 := Lib.hid C4
  clear C4
  rw [hcr4, hcr3, hcr5] at C5
  have KC5 := Lib.hid C5
  clear C5
  rw [hcs6, hcr4, hcr6] at C6
  rw [hcr5, hcs6] at D6
  have KD6 := Lib.hid D6
  clear D6
  have KC6 := Lib.hid C6
  clear C6
  rw [hcs7, hcr6, hcr7] at C7
  rw [hcr6, hcs7] at D7
  have KD7 := Lib.hid D7
  clear D7
  have KC7 := Lib.hid C7
  clear C7
  rw [hcs8, hcr7, hcr8] at C8
  rw [hcr7, hcs8] at D8
  have KD8 := Lib.hid D8
  clear D8
  have KC8 := Lib.hid C8
  clear C8
  rw [hcs9, hcr8, hcr9] at C9
  rw [hcr8, hcs9] at D9
  have KD9 := Lib.hid D9
  clear D9
  have KC9 := Lib.hid C9
  clear C9
  rw [hcs10, hcr7, hcr10] at C10
  rw [hcr9, hcs10] at D10
  have KD10 := Lib.hid D10
  clear D10
  have KC10 := Lib.hid C10
  clear C10
  rw [hcs11, hcr10, hcr11] at C11
  rw [hcr10, hcs11] at D11
  have KD11 := Lib.hid D11
  clear D11
  have KC11 := Lib.hid C11
  clear C11
  rw [hcs12, hcr11, hcr12] at C12
  rw [hcr11, hcs12] at D12
  have KD12 := Lib.hid D12
  clear D12
  have KC12 := Lib.hid C12
  clear C12
  rw [hcs13, hcr10, hcr13] at C13
  rw [hcr12, hcs13] at D13
  have KD13 := Lib.hid D13
  clear D13
  have KC13 := Lib.hid C13
  clear C13
  rw [hcs2, hcr5, hcr2] at C2
  rw [hcr13, hcs2] at D2
  have KD2 := Lib.hid D2
  clear D2
  have KC2 := Lib.hid C2
  clear C2
  have Hl := Lib.hid (And.intro hcl HS1.1)
  have Hr3 := Lib.hid (And.intro hcr3 HS3.1)
  have Hr4 := Lib.hid (And.intro hcr4 HS4.1)
  have Hr5 := Lib.hid (And.intro hcr5 HS5.1)
  have Hr6 := Lib.hid (And.intro hcr6 HS6.1)
  have Hr7 := Lib.hid (And.intro hcr7 HS7.1)
  have Hr8 := Lib.hid (And.intro hcr8 HS8.1)
  have Hr9 := Lib.hid (And.intro hcr9 HS9.1)
  have Hr10 := Lib.hid (And.intro hcr10 HS10.1)
  have Hr11 := Lib.hid (And.intro hcr11 HS11.1)
  have Hr12 := Lib.hid (And.intro hcr12 HS12.1)
  have Hr13 := Lib.hid (And.intro hcr13 HS13.1)
  have Hr2 := Lib.hid (And.intro hcr2 HS2.1)
  have HF := Lib.hid (show SmallN r2 ∧ Cu.fq (val r2 : Int) = Cu.finv (Cu.fq (val l : Int)) from ⟨HS2, by rw [q2, hq, Cu.finv_eq]; exact congrArg _ (by decide +kernel)⟩)
  rw [hcl]
  have HM := Lib.hid (show Mem w [blkE (w.heap.size + 1) 51 z5, blkE w.heap.size 51 (l.map uv)] ((w.alloc (.cells cl 51)).alloc (.cells #[.int .u64 0, .int .u64 0, .int .u64 0, .int .u64 0, .int .u64 0] 51)) from ((Mem.nil w).alloc rfl 51 cl (l.map uv) hcl.symm).alloc (by simp) 51 #[.int .u64 0, .int .u64 0, .int .u64 0, .int .u64 0, .int .u64 0] z5 rfl)
  clear hcl hcr3 hcr4 hcr5 hcr6 hcr7 hcr8 hcr9 hcr10 hcr11 hcr12 hcr13 hcr2 hcs4 hcs6 hcs7 hcs8 hcs9 hcs10 hcs11 hcs12 hcs13 hcs2 HS1 q1 HS3 q3 HS4 q4 HS5 q5 HS6 q6 HS7 q7 HS8 q8 HS9 q9 HS10 q10 HS11 q11 HS12 q12 HS13 q13 HS2 q2 HT4 p4 HT6 p6 HT7 p7 HT8 p8 HT9 p9 HT10 p10 HT11 p11 HT12 p12 HT13 p13 HT2 p2 hl hq
  go_enter Try.func31, Try.ntmps31
  go_upto_region 1 with fail
  generalize ((w.alloc (.cells cl 51)).alloc (.cells #[.int .u64 0, .int .u64 0, .int .u64 0, .int .u64 0, .int .u64 0] 51)) = w1 at HM ⊢
  go_wp2_with (first | (refine wpList_load_blk rfl 51 (.tmp 1) rfl w.heap.size rfl 51 (l.map uv) (HM.out.blk 1 rfl) 5 49 Try.underlying51 (cells5 l (Hl.out.2)) ?_; rw [Hl.out.1]))
  refine (KC3.out _).mono ?_
  rintro e w3 ⟨rfl, hb⟩
  replace HM := Lib.hid (show Mem w [blkE (w.heap.size + 1) 51 z5, blkE w.heap.size 51 (l.map uv)] w3 from HM.out.below hb)
  clear hb
  have HA := Lib.hid (show Mem w [blkE w3.heap.size 51 z5, blkE (w.heap.size + 1) 51 z5, blkE w.heap.size 51 (l.map uv)] (w3.alloc (.cells #[.int .u64 0, .int .u64 0, .int .u64 0, .int .u64 0, .int .u64 0] 51)) from HM.out.alloc rfl 51 #[.int .u64 0, .int .u64 0, .int .u64 0, .int .u64 0, .int .u64 0] z5 rfl)
  go_upto_region 2 with (refine wpList_store_blk rfl 51 (.tmp 3) (.tmp 16) rfl w3.heap.size (r3.map uv) rfl (by show Value.agg cr3 = _; rw [Hr3.out.1]) 51 (z5) (HA.out.blk 0 rfl) (cells5 r3 (Hr3.out.2)) (len5 (Hr3.out.2) (rfl)) (uv_one _) ?_; intro w4 hb9 hg9)
  (try simp only [Act.put])
  replace HM := Lib.hid (show Mem w [blkE w3.heap.size 51 (r3.map uv), blkE (w.heap.size + 1) 51 z5, blkE w.heap.size 51 (l.map uv)] w4 from HA.out.put 0 rfl _ hg9 hb9)
  clear HA hb9 hg9
  generalize w3.heap.size = P3 at HM ⊢
  go_upto_region 2 with fail
  go_cut [4] (fun p wx => ∃ P4, p = .pointer (some ⟨P4, 0, none⟩) ∧ Mem w [blkE P4 51 (r4.map uv), blkE P3 51 (r3.map uv), blkE (w.heap.size + 1) 51 z5, blkE w.heap.size 51 (l.map uv)] wx)
  case first =>
    refine wp_region_held_drew (S := fun W' => Mem w [blkE P3 51 (r3.map uv), blkE (w.heap.size + 1) 51 z5, blkE w.heap.size 51 (l.map uv)] W') (by kernel_rfl) ((HM.out).drew) (fun hHeld => ?_)
    replace HM := Lib.hid HM.out.drew
    generalize w4.drew = wd1 at HM hHeld ⊢
    refine take_first (v := .agg cr3) 0 rfl (by kernel_rfl) (by kernel_rfl) (by kernel_rfl) (fun _ _ _ h => h) (by rw [← Hr3.out.1]; exact yields_load_blk (by rfl) 51 (.tmp 3) rfl P3 rfl 51 (r3.map uv) (fun w' hb => Mem.blk hb 0 rfl) 5 49 Try.underlying51 (cells5 r3 Hr3.out.2)) (by assumption) ?_
    (try simp only [Act.put, List.setIfInBounds_toArray, List.set_cons_zero, List.set_cons_succ])
    refine take_first (v := .agg cl) 2 rfl (by kernel_rfl) (by kernel_rfl) (by kernel_rfl) (fun _ _ _ h => h) (by rw [← Hl.out.1]; exact yields_load_blk (by rfl) 51 (.tmp 1) rfl w.heap.size rfl 51 (l.map uv) (fun w' hb => Mem.blk hb 2 rfl) 5 49 Try.underlying51 (cells5 l Hl.out.2)) (by assumption) ?_
    (try simp only [Act.put, List.setIfInBounds_toArray, List.set_cons_zero, List.set_cons_succ])
    refine step_two 1 4 rfl rfl (by kernel_rfl) (fun K hK => ?_) (fun K hK => ?_)
    · clear hHeld
      go_simp
      refine (KD4.out _).mono ?_
      rintro e wy2 ⟨rfl, hb⟩
      replace HM := Lib.hid (show Mem w [blkE P3 51 (r3.map uv), blkE (w.heap.size + 1) 51 z5, blkE w.heap.size 51 (l.map uv)] wy2 from HM.out.below hb)
      clear hb
      go_wp2_with fail
      refine hK.out _ _ (HM.out) (fun hHeld => ?_)
      clear hK K
      (try simp only [Act.put, List.setIfInBounds_toArray, List.set_cons_zero, List.set_cons_succ])
      refine step_two 3 4 rfl rfl (by kernel_rfl) (fun K hK => ?_) (fun K hK => ?_)
      · clear hHeld
        go_simp
        refine (KC4.out _).mono ?_
        rintro e wy3 ⟨rfl, hb⟩
        replace HM := Lib.hid (show Mem w [blkE P3 51 (r3.map uv), blkE (w.heap.size + 1) 51 z5, blkE w.heap.size 51 (l.map uv)] wy3 from HM.out.below hb)
        clear hb
        go_wp2_with fail
        refine hK.out _ _ (HM.out) (fun hHeld => ?_)
        clear hK K
        (try simp only [Act.put, List.setIfInBounds_toArray, List.set_cons_zero, List.set_cons_succ])
        refine step_one 4 rfl (by kernel_rfl) (fun K hK => ?_)
        clear hHeld
        go_simp
        replace HM := Lib.hid (show Mem w [blkE wy3.heap.size 51 (z5), blkE P3 51 (r3.map uv), blkE (w.heap.size + 1) 51 z5, blkE w.heap.size 51 (l.map uv)] (wy3.alloc (.cells #[.int .u64 0, .int .u64 0, .int .u64 0, .int .u64 0, .int .u64 0] 51)) from HM.out.alloc rfl 51 #[.int .u64 0, .int .u64 0, .int .u64 0, .int .u64 0, .int .u64 0] (z5) rfl)
        generalize wy3.alloc (.cells #[.int .u64 0, .int .u64 0, .int .u64 0, .int .u64 0, .int .u64 0] 51) = wy4 at HM ⊢
        generalize wy3.heap.size = P4 at HM ⊢
        refine hK.out _ _ ((HM.out.erase 0)) (fun hHeld => ?_)
        clear hK K
        (try simp only [Act.put, List.setIfInBounds_toArray, List.set_cons_zero, List.set_cons_succ])
        refine step_one 5 rfl (by kernel_rfl) (fun K hK => ?_)
        clear hHeld
        refine step_store_blk _ rfl 51 (.tmp 4) (.tmp 20) rfl P4 (r4.map uv) rfl (by show Value.agg cr4 = _; rw [Hr4.out.1]) 51 (z5) (HM.out.blk 0 rfl) (cells5 r4 Hr4.out.2) (len5 Hr4.out.2 rfl) (by intro v hv; obtain ⟨_, _, rfl⟩ := List.mem_map.1 hv; rfl) ?_
        intro wy5 hb hg
        replace HM := Lib.hid (show Mem w [blkE P4 51 (r4.map uv), blkE P3 51 (r3.map uv), blkE (w.heap.size + 1) 51 z5, blkE w.heap.size 51 (l.map uv)] wy5 from HM.out.put 0 rfl _ hg hb)
        clear hb hg
        refine hK.out _ _ ((HM.out.erase 0)) (fun hHeld => ?_)
        clear hK K
        (try simp only [Act.put])
        refine wpAnyH_done (by kernel_rfl) ?_ _
        go_wp2_with fail
        go_meet
        exact ⟨P4, rfl, HM.out⟩
      · clear hHeld
        go_simp
        replace HM := Lib.hid (show Mem w [blkE wy2.heap.size 51 (z5), blkE P3 51 (r3.map uv), blkE (w.heap.size + 1) 51 z5, blkE w.heap.size 51 (l.map uv)] (wy2.alloc (.cells #[.int .u64 0, .int .u64 0, .int .u64 0, .int .u64 0, .int .u64 0] 51)) from HM.out.alloc rfl 51 #[.int .u64 0, .int .u64 0, .int .u64 0, .int .u64 0, .int .u64 0] (z5) rfl)
        generalize wy2.alloc (.cells #[.int .u64 0, .int .u64 0, .int .u64 0, .int .u64 0, .int .u64 0] 51) = wy3 at HM ⊢
        generalize wy2.heap.size = P4 at HM ⊢
        refine hK.out _ _ ((HM.out.erase 0)) (fun hHeld => ?_)
        clear hK K
        (try simp only [Act.put, List.setIfInBounds_toArray, List.set_cons_zero, List.set_cons_succ])
        refine step_one 3 rfl (by kernel_rfl) (fun K hK => ?_)
        clear hHeld
        go_simp
        refine (KC4.out _).mono ?_
        rintro e wy4 ⟨rfl, hb⟩
        replace HM := Lib.hid (show Mem w [blkE P4 51 (z5), blkE P3 51 (r3.map uv), blkE (w.heap.size + 1) 51 z5, blkE w.heap.size 51 (l.map uv)] wy4 from HM.out.below hb)
        clear hb
        go_wp2_with fail
        refine hK.out _ _ ((HM.out.erase 0)) (fun hHeld => ?_)
        clear hK K
        (try simp only [Act.put, List.setIfInBounds_toArray, List.set_cons_zero, List.set_cons_succ])
        refine step_one 5 rfl (by kernel_rfl) (fun K hK => ?_)
        clear hHeld
        refine step_store_blk _ rfl 51 (.tmp 4) (.tmp 20) rfl P4 (r4.map uv) rfl (by show Value.agg cr4 = _; rw [Hr4.out.1]) 51 (z5) (HM.out.blk 0 rfl) (cells5 r4 Hr4.out.2) (len5 Hr4.out.2 rfl) (by intro v hv; obtain ⟨_, _, rfl⟩ := List.mem_map.1 hv; rfl) ?_
        intro wy5 hb hg
        replace HM := Lib.hid (show Mem w [blkE P4 51 (r4.map uv), blkE P3 51 (r3.map uv), blkE (w.heap.size + 1) 51 z5, blkE w.heap.size 51 (l.map uv)] wy5 from HM.out.put 0 rfl _ hg hb)
        clear hb hg
        refine hK.out _ _ ((HM.out.erase 0)) (fun hHeld => ?_)
        clear hK K
        (try simp only [Act.put])
        refine wpAnyH_done (by kernel_rfl) ?_ _
        go_wp2_with fail
        go_meet
        exact ⟨P4, rfl, HM.out⟩
    · clear hHeld
      go_simp
      replace HM := Lib.hid (show Mem w [blkE wd1.heap.size 51 (z5), blkE P3 51 (r3.map uv), blkE (w.heap.size + 1) 51 z5, blkE w.heap.size 51 (l.map uv)] (wd1.alloc (.cells #[.int .u64 0, .int .u64 0, .int .u64 0, .int .u64 0, .int .u64 0] 51)) from HM.out.alloc rfl 51 #[.int .u64 0, .int .u64 0, .int .u64 0, .int .u64 0, .int .u64 0] (z5) rfl)
      generalize wd1.alloc (.cells #[.int .u64 0, .int .u64 0, .int .u64 0, .int .u64 0, .int .u64 0] 51) = wy2 at HM ⊢
      generalize wd1.heap.size = P4 at HM ⊢
      refine hK.out _ _ ((HM.out.erase 0)) (fun hHeld => ?_)
      clear hK K
      (try simp only [Act.put, List.setIfInBounds_toArray, List.set_cons_zero, List.set_cons_succ])
      refine step_one 1 rfl (by kernel_rfl) (fun K hK => ?_)
      clear hHeld
      go_simp
      refine (KD4.out _).mono ?_
      rintro e wy3 ⟨rfl, hb⟩
      replace HM := Lib.hid (show Mem w [blkE P4 51 (z5), blkE P3 51 (r3.map uv), blkE (w.heap.size + 1) 51 z5, blkE w.heap.size 51 (l.map uv)] wy3 from HM.out.below hb)
      clear hb
      go_wp2_with fail
      refine hK.out _ _ ((HM.out.erase 0)) (fun hHeld => ?_)
      clear hK K
      (try simp only [Act.put, List.setIfInBounds_toArray, List.set_cons_zero, List.set_cons_succ])
      refine step_one 3 rfl (by kernel_rfl) (fun K hK => ?_)
      clear hHeld
      go_simp
      refine (KC4.out _).mono ?_
      rintro e wy4 ⟨rfl, hb⟩
      replace HM := Lib.hid (show Mem w [blkE P4 51 (z5), blkE P3 51 (r3.map uv), blkE (w.heap.size + 1) 51 z5, blkE w.heap.size 51 (l.map uv)] wy4 from HM.out.below hb)
      clear hb
      go_wp2_with fail
      refine hK.out _ _ ((HM.out.erase 0)) (fun hHeld => ?_)
      clear hK K
      (try simp only [Act.put, List.setIfInBounds_toArray, List.set_cons_zero, List.set_cons_succ])
      refine step_one 5 rfl (by kernel_rfl) (fun K hK => ?_)
      clear hHeld
      refine step_store_blk _ rfl 51 (.tmp 4) (.tmp 20) rfl P4 (r4.map uv) rfl (by show Value.agg cr4 = _; rw [Hr4.out.1]) 51 (z5) (HM.out.blk 0 rfl) (cells5 r4 Hr4.out.2) (len5 Hr4.out.2 rfl) (by intro v hv; obtain ⟨_, _, rfl⟩ := List.mem_map.1 hv; rfl) ?_
      intro wy5 hb hg
      replace HM := Lib.hid (show Mem w [blkE P4 51 (r4.map uv), blkE P3 51 (r3.map uv), blkE (w.heap.size + 1) 51 z5, blkE w.heap.size 51 (l.map uv)] wy5 from HM.out.put 0 rfl _ hg hb)
      clear hb hg
      refine hK.out _ _ ((HM.out.erase 0)) (fun hHeld => ?_)
      clear hK K
      (try simp only [Act.put])
      refine wpAnyH_done (by kernel_rfl) ?_ _
      go_wp2_with fail
      go_meet
      exact ⟨P4, rfl, HM.out⟩
  case rest =>
  clear HM
  revert wc
  intro w4 hcut
  obtain ⟨P4, rfl, hcut⟩ := hcut
  have HM := Lib.hid hcut
  clear hcut
  go_wp2_with (first | (refine wpList_load_blk rfl 51 (.tmp 4) rfl P4 rfl 51 (r4.map uv) (HM.out.blk 0 rfl) 5 49 Try.underlying51 (cells5 r4 (Hr4.out.2)) ?_; rw [Hr4.out.1]) | (refine wpList_load_blk rfl 51 (.tmp 3) rfl P3 rfl 51 (r3.map uv) (HM.out.blk 1 rfl) 5 49 Try.underlying51 (cells5 r3 (Hr3.out.2)) ?_; rw [Hr3.out.1]))
  refine (KC5.out _).mono ?_
  rintro e w3 ⟨rfl, hb⟩
  replace HM := Lib.hid (show Mem w [blkE P4 51 (r4.map uv), blkE P3 51 (r3.map uv), blkE (w.heap.size + 1) 51 z5, blkE w.heap.size 51 (l.map uv)] w3 from HM.out.below hb)
  clear hb
  have HA := Lib.hid (show Mem w [blkE w3.heap.size 51 z5, blkE P4 51 (r4.map uv), blkE P3 51 (r3.map uv), blkE (w.heap.size + 1) 51 z5, blkE w.heap.size 51 (l.map uv)] (w3.alloc (.cells #[.int .u64 0, .int .u64 0, .int .u64 0, .int .u64 0, .int .u64 0] 51)) from HM.out.alloc rfl 51 #[.int .u64 0, .int .u64 0, .int .u64 0, .int .u64 0, .int .u64 0] z5 rfl)
  go_upto_region 4 with (refine wpList_store_blk rfl 51 (.tmp 5) (.tmp 23) rfl w3.heap.size (r5.map uv) rfl (by show Value.agg cr5 = _; rw [Hr5.out.1]) 51 (z5) (HA.out.blk 0 rfl) (cells5 r5 (Hr5.out.2)) (len5 (Hr5.out.2) (rfl)) (uv_one _) ?_; intro w4 hb9 hg9)
  (try simp only [Act.put])
  replace HM := Lib.hid (show Mem w [blkE w3.heap.size 51 (r5.map uv), blkE P4 51 (r4.map uv), blkE P3 51 (r3.map uv), blkE (w.heap.size + 1) 51 z5, blkE w.heap.size 51 (l.map uv)] w4 from HA.out.put 0 rfl _ hg9 hb9)
  clear HA hb9 hg9
  generalize w3.heap.size = P5 at HM ⊢
  go_upto_region 4 with fail
  go_cut [6] (fun p wx => ∃ P6, p = .pointer (some ⟨P6, 0, none⟩) ∧ Mem w [blkE P6 51 (r6.map uv), blkE P5 51 (r5.map uv), blkE P4 51 (r4.map uv), blkE P3 51 (r3.map uv), blkE (w.heap.size + 1) 51 z5, blkE w.heap.size 51 (l.map uv)] wx)
  case first =>
    refine wp_region_held_drew (S := fun W' => Mem w [blkE P5 51 (r5.map uv), blkE P4 51 (r4.map uv), blkE P3 51 (r3.map uv), blkE (w.heap.size + 1) 51 z5, blkE w.heap.size 51 (l.map uv)] W') (by kernel_rfl) ((HM.out).drew) (fun hHeld => ?_)
    replace HM := Lib.hid HM.out.drew
    generalize w4.drew = wd1 at HM hHeld ⊢
    refine take_first (v := .agg cr5) 0 rfl (by kernel_rfl) (by kernel_rfl) (by kernel_rfl) (fun _ _ _ h => h) (by rw [← Hr5.out.1]; exact yields_load_blk (by rfl) 51 (.tmp 5) rfl P5 rfl 51 (r5.map uv) (fun w' hb => Mem.blk hb 0 rfl) 5 49 Try.underlying51 (cells5 r5 Hr5.out.2)) (by assumption) ?_
    (try simp only [Act.put, List.setIfInBounds_toArray, List.set_cons_zero, List.set_cons_succ])
    refine take_first (v := .agg cr4) 2 rfl (by kernel_rfl) (by kernel_rfl) (by kernel_rfl) (fun _ _ _ h => h) (by rw [← Hr4.out.1]; exact yields_load_blk (by rfl) 51 (.tmp 4) rfl P4 rfl 51 (r4.map uv) (fun w' hb => Mem.blk hb 1 rfl) 5 49 Try.underlying51 (cells5 r4 Hr4.out.2)) (by assumption) ?_
    (try simp only [Act.put, List.setIfInBounds_toArray, List.set_cons_zero, List.set_cons_succ])
    refine step_two 1 4 rfl rfl (by kernel_rfl) (fun K hK => ?_) (fun K hK => ?_)
    · clear hHeld
      go_simp
      refine (KD6.out _).mono ?_
      rintro e wy2 ⟨rfl, hb⟩
      replace HM := Lib.hid (show Mem w [blkE P5 51 (r5.map uv), blkE P4 51 (r4.map uv), blkE P3 51 (r3.map uv), blkE (w.heap.size + 1) 51 z5, blkE w.heap.size 51 (l.map uv)] wy2 from HM.out.below hb)
      clear hb
      go_wp2_with fail
      refine hK.out _ _ (HM.out) (fun hHeld => ?_)
      clear hK K
      (try simp only [Act.put, List.setIfInBounds_toArray, List.set_cons_zero, List.set_cons_succ])
      refine step_two 3 4 rfl rfl (by kernel_rfl) (fun K hK => ?_) (fun K hK => ?_)
      · clear hHeld
        go_simp
        refine (KC6.out _).mono ?_
        rintro e wy3 ⟨rfl, hb⟩
        replace HM := Lib.hid (show Mem w [blkE P5 51 (r5.map uv), blkE P4 51 (r4.map uv), blkE P3 51 (r3.map uv), blkE (w.heap.size + 1) 51 z5, blkE w.heap.size 51 (l.map uv)] wy3 from HM.out.below hb)
        clear hb
        go_wp2_with fail
        refine hK.out _ _ (HM.out) (fun hHeld => ?_)
        clear hK K
        (try simp only [Act.put, List.setIfInBounds_toArray, List.set_cons_zero, List.set_cons_succ])
        refine step_one 4 rfl (by kernel_rfl) (fun K hK => ?_)
        clear hHeld
        go_simp
        replace HM := Lib.hid (show Mem w [blkE wy3.heap.size 51 (z5), blkE P5 51 (r5.map uv), blkE P4 51 (r4.map uv), blkE P3 51 (r3.map uv), blkE (w.heap.size + 1) 51 z5, blkE w.heap.size 51 (l.map uv)] (wy3.alloc (.cells #[.int .u64 0, .int .u64 0, .int .u64 0, .int .u64 0, .int .u64 0] 51)) from HM.out.alloc rfl 51 #[.int .u64 0, .int .u64 0, .int .u64 0, .int .u64 0, .int .u64 0] (z5) rfl)
        generalize wy3.alloc (.cells #[.int .u64 0, .int .u64 0, .int .u64 0, .int .u64 0, .int .u64 0] 51) = wy4 at HM ⊢
        generalize wy3.heap.size = P6 at HM ⊢
        refine hK.out _ _ ((HM.out.erase 0)) (fun hHeld => ?_)
        clear hK K
        (try simp only [Act.put, List.setIfInBounds_toArray, List.set_cons_zero, List.set_cons_succ])
        refine step_one 5 rfl (by kernel_rfl) (fun K hK => ?_)
        clear hHeld
        refine step_store_blk _ rfl 51 (.tmp 6) (.tmp 27) rfl P6 (r6.map uv) rfl (by show Value.agg cr6 = _; rw [Hr6.out.1]) 51 (z5) (HM.out.blk 0 rfl) (cells5 r6 Hr6.out.2) (len5 Hr6.out.2 rfl) (by intro v hv; obtain ⟨_, _, rfl⟩ := List.mem_map.1 hv; rfl) ?_
        intro wy5 hb hg
        replace HM := Lib.hid (show Mem w [blkE P6 51 (r6.map uv), blkE P5 51 (r5.map uv), blkE P4 51 (r4.map uv), blkE P3 51 (r3.map uv), blkE (w.heap.size + 1) 51 z5, blkE w.heap.size 51 (l.map uv)] wy5 from HM.out.put 0 rfl _ hg hb)
        clear hb hg
        refine hK.out _ _ ((HM.out.erase 0)) (fun hHeld => ?_)
        clear hK K
        (try simp only [Act.put])
        refine wpAnyH_done (by kernel_rfl) ?_ _
        go_wp2_with fail
        go_meet
        exact ⟨P6, rfl, HM.out⟩
      · clear hHeld
        go_simp
        replace HM := Lib.hid (show Mem w [blkE wy2.heap.size 51 (z5), blkE P5 51 (r5.map uv), blkE P4 51 (r4.map uv), blkE P3 51 (r3.map uv), blkE (w.heap.size + 1) 51 z5, blkE w.heap.size 51 (l.map uv)] (wy2.alloc (.cells #[.int .u64 0, .int .u64 0, .int .u64 0, .int .u64 0, .int .u64 0] 51)) from HM.out.alloc rfl 51 #[.int .u64 0, .int .u64 0, .int .u64 0, .int .u64 0, .int .u64 0] (z5) rfl)
        generalize wy2.alloc (.cells #[.int .u64 0, .int .u64 0, .int .u64 0, .int .u64 0, .int .u64 0] 51) = wy3 at HM ⊢
        generalize wy2.heap.size = P6 at HM ⊢
        refine hK.out _ _ ((HM.out.erase 0)) (fun hHeld => ?_)
        clear hK K
        (try simp only [Act.put, List.setIfInBounds_toArray, List.set_cons_zero, List.set_cons_succ])
        refine step_one 3 rfl (by kernel_rfl) (fun K hK => ?_)
        clear hHeld
        go_simp
        refine (KC6.out _).mono ?_
        rintro e wy4 ⟨rfl, hb⟩
        replace HM := Lib.hid (show Mem w [blkE P6 51 (z5), blkE P5 51 (r5.map uv), blkE P4 51 (r4.map uv), blkE P3 51 (r3.map uv), blkE (w.heap.size + 1) 51 z5, blkE w.heap.size 51 (l.map uv)] wy4 from HM.out.below hb)
        clear hb
        go_wp2_with fail
        refine hK.out _ _ ((HM.out.erase 0)) (fun hHeld => ?_)
        clear hK K
        (try simp only [Act.put, List.setIfInBounds_toArray, List.set_cons_zero, List.set_cons_succ])
        refine step_one 5 rfl (by kernel_rfl) (fun K hK => ?_)
        clear hHeld
        refine step_store_blk _ rfl 51 (.tmp 6) (.tmp 27) rfl P6 (r6.map uv) rfl (by show Value.agg cr6 = _; rw [Hr6.out.1]) 51 (z5) (HM.out.blk 0 rfl) (cells5 r6 Hr6.out.2) (len5 Hr6.out.2 rfl) (by intro v hv; obtain ⟨_, _, rfl⟩ := List.mem_map.1 hv; rfl) ?_
        intro wy5 hb hg
        replace HM := Lib.hid (show Mem w [blkE P6 51 (r6.map uv), blkE P5 51 (r5.map uv), blkE P4 51 (r4.map uv), blkE P3 51 (r3.map uv), blkE (w.heap.size + 1) 51 z5, blkE w.heap.size 51 (l.map uv)] wy5 from HM.out.put 0 rfl _ hg hb)
        clear hb hg
        refine hK.out _ _ ((HM.out.erase 0)) (fun hHeld => ?_)
        clear hK K
        (try simp only [Act.put])
        refine wpAnyH_done (by kernel_rfl) ?_ _
        go_wp2_with fail
        go_meet
        exact ⟨P6, rfl, HM.out⟩
    · clear hHeld
      go_simp
      replace HM := Lib.hid (show Mem w [blkE wd1.heap.size 51 (z5), blkE P5 51 (r5.map uv), blkE P4 51 (r4.map uv), blkE P3 51 (r3.map uv), blkE (w.heap.size + 1) 51 z5, blkE w.heap.size 51 (l.map uv)] (wd1.alloc (.cells #[.int .u64 0, .int .u64 0, .int .u64 0, .int .u64 0, .int .u64 0] 51)) from HM.out.alloc rfl 51 #[.int .u64 0, .int .u64 0, .int .u64 0, .int .u64 0, .int .u64 0] (z5) rfl)
      generalize wd1.alloc (.cells #[.int .u64 0, .int .u64 0, .int .u64 0, .int .u64 0, .int .u64 0] 51) = wy2 at HM ⊢
      generalize wd1.heap.size = P6 at HM ⊢
      refine hK.out _ _ ((HM.out.erase 0)) (fun hHeld => ?_)
      clear hK K
      (try simp only [Act.put, List.setIfInBounds_toArray, List.set_cons_zero, List.set_cons_succ])
      refine step_one 1 rfl (by kernel_rfl) (fun K hK => ?_)
      clear hHeld
      go_simp
      refine (KD6.out _).mono ?_
      rintro e wy3 ⟨rfl, hb⟩
      replace HM := Lib.hid (show Mem w [blkE P6 51 (z5), blkE P5 51 (r5.map uv), blkE P4 51 (r4.map uv), blkE P3 51 (r3.map uv), blkE (w.heap.size + 1) 51 z5, blkE w.heap.size 51 (l.map uv)] wy3 from HM.out.below hb)
      clear hb
      go_wp2_with fail
      refine hK.out _ _ ((HM.out.erase 0)) (fun hHeld => ?_)
      clear hK K
      (try simp only [Act.put, List.setIfInBounds_toArray, List.set_cons_zero, List.set_cons_succ])
      refine step_one 3 rfl (by kernel_rfl) (fun K hK => ?_)
      clear hHeld
      go_simp
      refine (KC6.out _).mono ?_
      rintro e wy4 ⟨rfl, hb⟩
      replace HM := Lib.hid (show Mem w [blkE P6 51 (z5), blkE P5 51 (r5.map uv), blkE P4 51 (r4.map uv), blkE P3 51 (r3.map uv), blkE (w.heap.size + 1) 51 z5, blkE w.heap.size 51 (l.map uv)] wy4 from HM.out.below hb)
      clear hb
      go_wp2_with fail
      refine hK.out _ _ ((HM.out.erase 0)) (fun hHeld => ?_)
      clear hK K
      (try simp only [Act.put, List.setIfInBounds_toArray, List.set_cons_zero, List.set_cons_succ])
      refine step_one 5 rfl (by kernel_rfl) (fun K hK => ?_)
      clear hHeld
      refine step_store_blk _ rfl 51 (.tmp 6) (.tmp 27) rfl P6 (r6.map uv) rfl (by show Value.agg cr6 = _; rw [Hr6.out.1]) 51 (z5) (HM.out.blk 0 rfl) (cells5 r6 Hr6.out.2) (len5 Hr6.out.2 rfl) (by intro v hv; obtain ⟨_, _, rfl⟩ := List.mem_map.1 hv; rfl) ?_
      intro wy5 hb hg
      replace HM := Lib.hid (show Mem w [blkE P6 51 (r6.map uv), blkE P5 51 (r5.map uv), blkE P4 51 (r4.map uv), blkE P3 51 (r3.map uv), blkE (w.heap.size + 1) 51 z5, blkE w.heap.size 51 (l.map uv)] wy5 from HM.out.put 0 rfl _ hg hb)
      clear hb hg
      refine hK.out _ _ ((HM.out.erase 0)) (fun hHeld => ?_)
      clear hK K
      (try simp only [Act.put])
      refine wpAnyH_done (by kernel_rfl) ?_ _
      go_wp2_with fail
      go_meet
      exact ⟨P6, rfl, HM.out⟩
  case rest =>
  clear HM
  revert wc
  intro w4 hcut
  obtain ⟨P6, rfl, hcut⟩ := hcut
  have HM := Lib.hid hcut
  clear hcut
  go_upto_region 5 with fail
  go_cut [7] (fun p wx => ∃ P7, p = .pointer (some ⟨P7, 0, none⟩) ∧ Mem w [blkE P7 51 (r7.map uv), blkE P6 51 (r6.map uv), blkE P5 51 (r5.map uv), blkE P4 51 (r4.map uv), blkE P3 51 (r3.map uv), blkE (w.heap.size + 1) 51 z5, blkE w.heap.size 51 (l.map uv)] wx)
  case first =>
    refine wp_region_held_drew (S := fun W' => Mem w [blkE P6 51 (r6.map uv), blkE P5 51 (r5.map uv), blkE P4 51 (r4.map uv), blkE P3 51 (r3.map uv), blkE (w.heap.size + 1) 51 z5, blkE w.heap.size 51 (l.map uv)] W') (by kernel_rfl) ((HM.out).drew) (fun hHeld => ?_)
    replace HM := Lib.hid HM.out.drew
    generalize w4.drew = wd1 at HM hHeld ⊢
    refine take_first (v := .agg cr6) 0 rfl (by kernel_rfl) (by kernel_rfl) (by kernel_rfl) (fun _ _ _ h => h) (by rw [← Hr6.out.1]; exact yields_load_blk (by rfl) 51 (.tmp 6) rfl P6 rfl 51 (r6.map uv) (fun w' hb => Mem.blk hb 0 rfl) 5 49 Try.underlying51 (cells5 r6 Hr6.out.2)) (by assumption) ?_
    (try simp only [Act.put, List.setIfInBounds_toArray, List.set_cons_zero, List.set_cons_succ])
    refine take_first (v := .agg cr6) 2 rfl (by kernel_rfl) (by kernel_rfl) (by kernel_rfl) (fun _ _ _ h => h) (by rw [← Hr6.out.1]; exact yields_load_blk (by rfl) 51 (.tmp 6) rfl P6 rfl 51 (r6.map uv) (fun w' hb => Mem.blk hb 0 rfl) 5 49 Try.underlying51 (cells5 r6 Hr6.out.2)) (by assumption) ?_
    (try simp only [Act.put, List.setIfInBounds_toArray, List.set_cons_zero, List.set_cons_succ])
    refine step_two 1 4 rfl rfl (by kernel_rfl) (fun K hK => ?_) (fun K hK => ?_)
    · clear hHeld
      go_simp
      refine (KD7.out _).mono ?_
      rintro e wy2 ⟨rfl, hb⟩
      replace HM := Lib.hid (show Mem w [blkE P6 51 (r6.map uv), blkE P5 51 (r5.map uv), blkE P4 51 (r4.map uv), blkE P3 51 (r3.map uv), blkE (w.heap.size + 1) 51 z5, blkE w.heap.size 51 (l.map uv)] wy2 from HM.out.below hb)
      clear hb
      go_wp2_with fail
      refine hK.out _ _ (HM.out) (fun hHeld => ?_)
      clear hK K
      (try simp only [Act.put, List.setIfInBounds_toArray, List.set_cons_zero, List.set_cons_succ])
      refine step_two 3 4 rfl rfl (by kernel_rfl) (fun K hK => ?_) (fun K hK => ?_)
      · clear hHeld
        go_simp
        refine (KC7.out _).mono ?_
        rintro e wy3 ⟨rfl, hb⟩
        replace HM := Lib.hid (show Mem w [blkE P6 51 (r6.map uv), blkE P5 51 (r5.map uv), blkE P4 51 (r4.map uv), blkE P3 51 (r3.map uv), blkE (w.heap.size + 1) 51 z5, blkE w.heap.size 51 (l.map uv)] wy3 from HM.out.below hb)
        clear hb
        go_wp2_with fail
        refine hK.out _ _ (HM.out) (fun hHeld => ?_)
        clear hK K
        (try simp only [Act.put, List.setIfInBounds_toArray, List.set_cons_zero, List.set_cons_succ])
        refine step_one 4 rfl (by kernel_rfl) (fun K hK => ?_)
        clear hHeld
        go_simp
        replace HM := Lib.hid (show Mem w [blkE wy3.heap.size 51 (z5), blkE P6 51 (r6.map uv), blkE P5 51 (r5.map uv), blkE P4 51 (r4.map uv), blkE P3 51 (r3.map uv), blkE (w.heap.size + 1) 51 z5, blkE w.heap.size 51 (l.map uv)] (wy3.alloc (.cells #[.int .u64 0, .int .u64 0, .int .u64 0, .int .u64 0, .int .u64 0] 51)) from HM.out.alloc rfl 51 #[.int .u64 0, .int .u64 0, .int .u64 0, .int .u64 0, .int .u64 0] (z5) rfl)
        generalize wy3.alloc (.cells #[.int .u64 0, .int .u64 0, .int .u64 0, .int .u64 0, .int .u64 0] 51) = wy4 at HM ⊢
        generalize wy3.heap.size = P7 at HM ⊢
        refine hK.out _ _ ((HM.out.erase 0)) (fun hHeld => ?_)
        clear hK K
        (try simp only [Act.put, List.setIfInBounds_toArray, List.set_cons_zero, List.set_cons_succ])
        refine step_one 5 rfl (by kernel_rfl) (fun K hK => ?_)
        clear hHeld
        refine step_store_blk _ rfl 51 (.tmp 7) (.tmp 31) rfl P7 (r7.map uv) rfl (by show Value.agg cr7 = _; rw [Hr7.out.1]) 51 (z5) (HM.out.blk 0 rfl) (cells5 r7 Hr7.out.2) (len5 Hr7.out.2 rfl) (by intro v hv; obtain ⟨_, _, rfl⟩ := List.mem_map.1 hv; rfl) ?_
        intro wy5 hb hg
        replace HM := Lib.hid (show Mem w [blkE P7 51 (r7.map uv), blkE P6 51 (r6.map uv), blkE P5 51 (r5.map uv), blkE P4 51 (r4.map uv), blkE P3 51 (r3.map uv), blkE (w.heap.size + 1) 51 z5, blkE w.heap.size 51 (l.map uv)] wy5 from HM.out.put 0 rfl _ hg hb)
        clear hb hg
        refine hK.out _ _ ((HM.out.erase 0)) (fun hHeld => ?_)
        clear hK K
        (try simp only [Act.put])
        refine wpAnyH_done (by kernel_rfl) ?_ _
        go_wp2_with fail
        go_meet
        exact ⟨P7, rfl, HM.out⟩
      · clear hHeld
        go_simp
        replace HM := Lib.hid (show Mem w [blkE wy2.heap.size 51 (z5), blkE P6 51 (r6.map uv), blkE P5 51 (r5.map uv), blkE P4 51 (r4.map uv), blkE P3 51 (r3.map uv), blkE (w.heap.size + 1) 51 z5, blkE w.heap.size 51 (l.map uv)] (wy2.alloc (.cells #[.int .u64 0, .int .u64 0, .int .u64 0, .int .u64 0, .int .u64 0] 51)) from HM.out.alloc rfl 51 #[.int .u64 0, .int .u64 0, .int .u64 0, .int .u64 0, .int .u64 0] (z5) rfl)
        generalize wy2.alloc (.cells #[.int .u64 0, .int .u64 0, .int .u64 0, .int .u64 0, .int .u64 0] 51) = wy3 at HM ⊢
        generalize wy2.heap.size = P7 at HM ⊢
        refine hK.out _ _ ((HM.out.erase 0)) (fun hHeld => ?_)
        clear hK K
        (try simp only [Act.put, List.setIfInBounds_toArray, List.set_cons_zero, List.set_cons_succ])
        refine step_one 3 rfl (by kernel_rfl) (fun K hK => ?_)
        clear hHeld
        go_simp
        refine (KC7.out _).mono ?_
        rintro e wy4 ⟨rfl, hb⟩
        replace HM := Lib.hid (show Mem w [blkE P7 51 (z5), blkE P6 51 (r6.map uv), blkE P5 51 (r5.map uv), blkE P4 51 (r4.map uv), blkE P3 51 (r3.map uv), blkE (w.heap.size + 1) 51 z5, blkE w.heap.size 51 (l.map uv)] wy4 from HM.out.below hb)
        clear hb
        go_wp2_with fail
        refine hK.out _ _ ((HM.out.erase 0)) (fun hHeld => ?_)
        clear hK K
        (try simp only [Act.put, List.setIfInBounds_toArray, List.set_cons_zero, List.set_cons_succ])
        refine step_one 5 rfl (by kernel_rfl) (fun K hK => ?_)
        clear hHeld
        refine step_store_blk _ rfl 51 (.tmp 7) (.tmp 31) rfl P7 (r7.map uv) rfl (by show Value.agg cr7 = _; rw [Hr7.out.1]) 51 (z5) (HM.out.blk 0 rfl) (cells5 r7 Hr7.out.2) (len5 Hr7.out.2 rfl) (by intro v hv; obtain ⟨_, _, rfl⟩ := List.mem_map.1 hv; rfl) ?_
        intro wy5 hb hg
        replace HM := Lib.hid (show Mem w [blkE P7 51 (r7.map uv), blkE P6 51 (r6.map uv), blkE P5 51 (r5.map uv), blkE P4 51 (r4.map uv), blkE P3 51 (r3.map uv), blkE (w.heap.size + 1) 51 z5, blkE w.heap.size 51 (l.map uv)] wy5 from HM.out.put 0 rfl _ hg hb)
        clear hb hg
        refine hK.out _ _ ((HM.out.erase 0)) (fun hHeld => ?_)
        clear hK K
        (try simp only [Act.put])
        refine wpAnyH_done (by kernel_rfl) ?_ _
        go_wp2_with fail
        go_meet
        exact ⟨P7, rfl, HM.out⟩
    · clear hHeld
      go_simp
      replace HM := Lib.hid (show Mem w [blkE wd1.heap.size 51 (z5), blkE P6 51 (r6.map uv), blkE P5 51 (r5.map uv), blkE P4 51 (r4.map uv), blkE P3 51 (r3.map uv), blkE (w.heap.size + 1) 51 z5, blkE w.heap.size 51 (l.map uv)] (wd1.alloc (.cells #[.int .u64 0, .int .u64 0, .int .u64 0, .int .u64 0, .int .u64 0] 51)) from HM.out.alloc rfl 51 #[.int .u64 0, .int .u64 0, .int .u64 0, .int .u64 0, .int .u64 0] (z5) rfl)
      generalize wd1.alloc (.cells #[.int .u64 0, .int .u64 0, .int .u64 0, .int .u64 0, .int .u64 0] 51) = wy2 at HM ⊢
      generalize wd1.heap.size = P7 at HM ⊢
      refine hK.out _ _ ((HM.out.erase 0)) (fun hHeld => ?_)
      clear hK K
      (try simp only [Act.put, List.setIfInBounds_toArray, List.set_cons_zero, List.set_cons_succ])
      refine step_one 1 rfl (by kernel_rfl) (fun K hK => ?_)
      clear hHeld
      go_simp
      refine (KD7.out _).mono ?_
      rintro e wy3 ⟨rfl, hb⟩
      replace HM := Lib.hid (show Mem w [blkE P7 51 (z5), blkE P6 51 (r6.map uv), blkE P5 51 (r5.map uv), blkE P4 51 (r4.map uv), blkE P3 51 (r3.map uv), blkE (w.heap.size + 1) 51 z5, blkE w.heap.size 51 (l.map uv)] wy3 from HM.out.below hb)
      clear hb
      go_wp2_with fail
      refine hK.out _ _ ((HM.out.erase 0)) (fun hHeld => ?_)
      clear hK K
      (try simp only [Act.put, List.setIfInBounds_toArray, List.set_cons_zero, List.set_cons_succ])
      refine step_one 3 rfl (by kernel_rfl) (fun K hK => ?_)
      clear hHeld
      go_simp
      refine (KC7.out _).mono ?_
      rintro e wy4 ⟨rfl, hb⟩
      replace HM := Lib.hid (show Mem w [blkE P7 51 (z5), blkE P6 51 (r6.map uv), blkE P5 51 (r5.map uv), blkE P4 51 (r4.map uv), blkE P3 51 (r3.map uv), blkE (w.heap.size + 1) 51 z5, blkE w.heap.size 51 (l.map uv)] wy4 from HM.out.below hb)
      clear hb
      go_wp2_with fail
      refine hK.out _ _ ((HM.out.erase 0)) (fun hHeld => ?_)
      clear hK K
      (try simp only [Act.put, List.setIfInBounds_toArray, List.set_cons_zero, List.set_cons_succ])
      refine step_one 5 rfl (by kernel_rfl) (fun K hK => ?_)
      clear hHeld
      refine step_store_blk _ rfl 51 (.tmp 7) (.tmp 31) rfl P7 (r7.map uv) rfl (by show Value.agg cr7 = _; rw [Hr7.out.1]) 51 (z5) (HM.out.blk 0 rfl) (cells5 r7 Hr7.out.2) (len5 Hr7.out.2 rfl) (by intro v hv; obtain ⟨_, _, rfl⟩ := List.mem_map.1 hv; rfl) ?_
      intro wy5 hb hg
      replace HM := Lib.hid (show Mem w [blkE P7 51 (r7.map uv), blkE P6 51 (r6.map uv), blkE P5 51 (r5.map uv), blkE P4 51 (r4.map uv), blkE P3 51 (r3.map uv), blkE (w.heap.size + 1) 51 z5, blkE w.heap.size 51 (l.map uv)] wy5 from HM.out.put 0 rfl _ hg hb)
      clear hb hg
      refine hK.out _ _ ((HM.out.erase 0)) (fun hHeld => ?_)
      clear hK K
      (try simp only [Act.put])
      refine wpAnyH_done (by kernel_rfl) ?_ _
      go_wp2_with fail
      go_meet
      exact ⟨P7, rfl, HM.out⟩
  case rest =>
  clear HM
  revert wc
  intro w4 hcut
  obtain ⟨P7, rfl, hcut⟩ := hcut
  have HM := Lib.hid hcut
  clear hcut
  go_upto_region 6 with fail
  go_cut [8] (fun p wx => ∃ P8, p = .pointer (some ⟨P8, 0, none⟩) ∧ Mem w [blkE P8 51 (r8.map uv), blkE P7 51 (r7.map uv), blkE P6 51 (r6.map uv), blkE P5 51 (r5.map uv), blkE P4 51 (r4.map uv), blkE P3 51 (r3.map uv), blkE (w.heap.size + 1) 51 z5, blkE w.heap.size 51 (l.map uv)] wx)
  case first =>
    refine wp_region_held_drew (S := fun W' => Mem w [blkE P7 51 (r7.map uv), blkE P6 51 (r6.map uv), blkE P5 51 (r5.map uv), blkE P4 51 (r4.map uv), blkE P3 51 (r3.map uv), blkE (w.heap.size + 1) 51 z5, blkE w.heap.size 51 (l.map uv)] W') (by kernel_rfl) ((HM.out).drew) (fun hHeld => ?_)
    replace HM := Lib.hid HM.out.drew
    generalize w4.drew = wd1 at HM hHeld ⊢
    refine take_first (v := .agg cr7) 0 rfl (by kernel_rfl) (by kernel_rfl) (by kernel_rfl) (fun _ _ _ h => h) (by rw [← Hr7.out.1]; exact yields_load_blk (by rfl) 51 (.tmp 7) rfl P7 rfl 51 (r7.map uv) (fun w' hb => Mem.blk hb 0 rfl) 5 49 Try.underlying51 (cells5 r7 Hr7.out.2)) (by assumption) ?_
    (try simp only [Act.put, List.setIfInBounds_toArray, List.set_cons_zero, List.set_cons_succ])
    refine take_first (v := .agg cr7) 2 rfl (by kernel_rfl) (by kernel_rfl) (by kernel_rfl) (fun _ _ _ h => h) (by rw [← Hr7.out.1]; exact yields_load_blk (by rfl) 51 (.tmp 7) rfl P7 rfl 51 (r7.map uv) (fun w' hb => Mem.blk hb 0 rfl) 5 49 Try.underlying51 (cells5 r7 Hr7.out.2)) (by assumption) ?_
    (try simp only [Act.put, List.setIfInBounds_toArray, List.set_cons_zero, List.set_cons_succ])
    refine step_two 1 4 rfl rfl (by kernel_rfl) (fun K hK => ?_) (fun K hK => ?_)
    · clear hHeld
      go_simp
      refine (KD8.out _).mono ?_
      rintro e wy2 ⟨rfl, hb⟩
      replace HM := Lib.hid (show Mem w [blkE P7 51 (r7.map uv), blkE P6 51 (r6.map uv), blkE P5 51 (r5.map uv), blkE P4 51 (r4.map uv), blkE P3 51 (r3.map uv), blkE (w.heap.size + 1) 51 z5, blkE w.heap.size 51 (l.map uv)] wy2 from HM.out.below hb)
      clear hb
      go_wp2_with fail
      refine hK.out _ _ (HM.out) (fun hHeld => ?_)
      clear hK K
      (try simp only [Act.put, List.setIfInBounds_toArray, List.set_cons_zero, List.set_cons_succ])
      refine step_two 3 4 rfl rfl (by kernel_rfl) (fun K hK => ?_) (fun K hK => ?_)
      · clear hHeld
        go_simp
        refine (KC8.out _).mono ?_
        rintro e wy3 ⟨rfl, hb⟩
        replace HM := Lib.hid (show Mem w [blkE P7 51 (r7.map uv), blkE P6 51 (r6.map uv), blkE P5 51 (r5.map uv), blkE P4 51 (r4.map uv), blkE P3 51 (r3.map uv), blkE (w.heap.size + 1) 51 z5, blkE w.heap.size 51 (l.map uv)] wy3 from HM.out.below hb)
        clear hb
        go_wp2_with fail
        refine hK.out _ _ (HM.out) (fun hHeld => ?_)
        clear hK K
        (try simp only [Act.put, List.setIfInBounds_toArray, List.set_cons_zero, List.set_cons_succ])
        refine step_one 4 rfl (by kernel_rfl) (fun K hK => ?_)
        clear hHeld
        go_simp
        replace HM := Lib.hid (show Mem w [blkE wy3.heap.size 51 (z5), blkE P7 51 (r7.map uv), blkE P6 51 (r6.map uv), blkE P5 51 (r5.map uv), blkE P4 51 (r4.map uv), blkE P3 51 (r3.map uv), blkE (w.heap.size + 1) 51 z5, blkE w.heap.size 51 (l.map uv)] (wy3.alloc (.cells #[.int .u64 0, .int .u64 0, .int .u64 0, .int .u64 0, .int .u64 0] 51)) from HM.out.alloc rfl 51 #[.int .u64 0, .int .u64 0, .int .u64 0, .int .u64 0, .int .u64 0] (z5) rfl)
        generalize wy3.alloc (.cells #[.int .u64 0, .int .u64 0, .int .u64 0, .int .u64 0, .int .u64 0] 51) = wy4 at HM ⊢
        generalize wy3.heap.size = P8 at HM ⊢
        refine hK.out _ _ ((HM.out.erase 0)) (fun hHeld => ?_)
        clear hK K
        (try simp only [Act.put, List.setIfInBounds_toArray, List.set_cons_zero, List.set_cons_succ])
        refine step_one 5 rfl (by kernel_rfl) (fun K hK => ?_)
        clear hHeld
        refine step_store_blk _ rfl 51 (.tmp 8) (.tmp 35) rfl P8 (r8.map uv) rfl (by show Value.agg cr8 = _; rw [Hr8.out.1]) 51 (z5) (HM.out.blk 0 rfl) (cells5 r8 Hr8.out.2) (len5 Hr8.out.2 rfl) (by intro v hv; obtain ⟨_, _, rfl⟩ := List.mem_map.1 hv; rfl) ?_
        intro wy5 hb hg
        replace HM := Lib.hid (show Mem w [blkE P8 51 (r8.map uv), blkE P7 51 (r7.map uv), blkE P6 51 (r6.map uv), blkE P5 51 (r5.map uv), blkE P4 51 (r4.map uv), blkE P3 51 (r3.map uv), blkE (w.heap.size + 1) 51 z5, blkE w.heap.size 51 (l.map uv)] wy5 from HM.out.put 0 rfl _ hg hb)
        clear hb hg
        refine hK.out _ _ ((HM.out.erase 0)) (fun hHeld => ?_)
        clear hK K
        (try simp only [Act.put])
        refine wpAnyH_done (by kernel_rfl) ?_ _
        go_wp2_with fail
        go_meet
        exact ⟨P8, rfl, HM.out⟩
      · clear hHeld
        go_simp
        replace HM := Lib.hid (show Mem w [blkE wy2.heap.size 51 (z5), blkE P7 51 (r7.map uv), blkE P6 51 (r6.map uv), blkE P5 51 (r5.map uv), blkE P4 51 (r4.map uv), blkE P3 51 (r3.map uv), blkE (w.heap.size + 1) 51 z5, blkE w.heap.size 51 (l.map uv)] (wy2.alloc (.cells #[.int .u64 0, .int .u64 0, .int .u64 0, .int .u64 0, .int .u64 0] 51)) from HM.out.alloc rfl 51 #[.int .u64 0, .int .u64 0, .int .u64 0, .int .u64 0, .int .u64 0] (z5) rfl)
        generalize wy2.alloc (.cells #[.int .u64 0, .int .u64 0, .int .u64 0, .int .u64 0, .int .u64 0] 51) = wy3 at HM ⊢
        generalize wy2.heap.size = P8 at HM ⊢
        refine hK.out _ _ ((HM.out.erase 0)) (fun hHeld => ?_)
        clear hK K
        (try simp only [Act.put, List.setIfInBounds_toArray, List.set_cons_zero, List.set_cons_succ])
        refine step_one 3 rfl (by kernel_rfl) (fun K hK => ?_)
        clear hHeld
        go_simp
        refine (KC8.out _).mono ?_
        rintro e wy4 ⟨rfl, hb⟩
        replace HM := Lib.hid (show Mem w [blkE P8 51 (z5), blkE P7 51 (r7.map uv), blkE P6 51 (r6.map uv), blkE P5 51 (r5.map uv), blkE P4 51 (r4.map uv), blkE P3 51 (r3.map uv), blkE (w.heap.size + 1) 51 z5, blkE w.heap.size 51 (l.map uv)] wy4 from HM.out.below hb)
        clear hb
        go_wp2_with fail
        refine hK.out _ _ ((HM.out.erase 0)) (fun hHeld => ?_)
        clear hK K
        (try simp only [Act.put, List.setIfInBounds_toArray, List.set_cons_zero, List.set_cons_succ])
        refine step_one 5 rfl (by kernel_rfl) (fun K hK => ?_)
        clear hHeld
        refine step_store_blk _ rfl 51 (.tmp 8) (.tmp 35) rfl P8 (r8.map uv) rfl (by show Value.agg cr8 = _; rw [Hr8.out.1]) 51 (z5) (HM.out.blk 0 rfl) (cells5 r8 Hr8.out.2) (len5 Hr8.out.2 rfl) (by intro v hv; obtain ⟨_, _, rfl⟩ := List.mem_map.1 hv; rfl) ?_
        intro wy5 hb hg
        replace HM := Lib.hid (show Mem w [blkE P8 51 (r8.map uv), blkE P7 51 (r7.map uv), blkE P6 51 (r6.map uv), blkE P5 51 (r5.map uv), blkE P4 51 (r4.map uv), blkE P3 51 (r3.map uv), blkE (w.heap.size + 1) 51 z5, blkE w.heap.size 51 (l.map uv)] wy5 from HM.out.put 0 rfl _ hg hb)
        clear hb hg
        refine hK.out _ _ ((HM.out.erase 0)) (fun hHeld => ?_)
        clear hK K
        (try simp only [Act.put])
        refine wpAnyH_done (by kernel_rfl) ?_ _
        go_wp2_with fail
        go_meet
        exact ⟨P8, rfl, HM.out⟩
    · clear hHeld
      go_simp
      replace HM := Lib.hid (show Mem w [blkE wd1.heap.size 51 (z5), blkE P7 51 (r7.map uv), blkE P6 51 (r6.map uv), blkE P5 51 (r5.map uv), blkE P4 51 (r4.map uv), blkE P3 51 (r3.map uv), blkE (w.heap.size + 1) 51 z5, blkE w.heap.size 51 (l.map uv)] (wd1.alloc (.cells #[.int .u64 0, .int .u64 0, .int .u64 0, .int .u64 0, .int .u64 0] 51)) from HM.out.alloc rfl 51 #[.int .u64 0, .int .u64 0, .int .u64 0, .int .u64 0, .int .u64 0] (z5) rfl)
      generalize wd1.alloc (.cells #[.int .u64 0, .int .u64 0, .int .u64 0, .int .u64 0, .int .u64 0] 51) = wy2 at HM ⊢
      generalize wd1.heap.size = P8 at HM ⊢
      refine hK.out _ _ ((HM.out.erase 0)) (fun hHeld => ?_)
      clear hK K
      (try simp only [Act.put, List.setIfInBounds_toArray, List.set_cons_zero, List.set_cons_succ])
      refine step_one 1 rfl (by kernel_rfl) (fun K hK => ?_)
      clear hHeld
      go_simp
      refine (KD8.out _).mono ?_
      rintro e wy3 ⟨rfl, hb⟩
      replace HM := Lib.hid (show Mem w [blkE P8 51 (z5), blkE P7 51 (r7.map uv), blkE P6 51 (r6.map uv), blkE P5 51 (r5.map uv), blkE P4 51 (r4.map uv), blkE P3 51 (r3.map uv), blkE (w.heap.size + 1) 51 z5, blkE w.heap.size 51 (l.map uv)] wy3 from HM.out.below hb)
      clear hb
      go_wp2_with fail
      refine hK.out _ _ ((HM.out.erase 0)) (fun hHeld => ?_)
      clear hK K
      (try simp only [Act.put, List.setIfInBounds_toArray, List.set_cons_zero, List.set_cons_succ])
      refine step_one 3 rfl (by kernel_rfl) (fun K hK => ?_)
      clear hHeld
      go_simp
      refine (KC8.out _).mono ?_
      rintro e wy4 ⟨rfl, hb⟩
      replace HM := Lib.hid (show Mem w [blkE P8 51 (z5), blkE P7 51 (r7.map uv), blkE P6 51 (r6.map uv), blkE P5 51 (r5.map uv), blkE P4 51 (r4.map uv), blkE P3 51 (r3.map uv), blkE (w.heap.size + 1) 51 z5, blkE w.heap.size 51 (l.map uv)] wy4 from HM.out.below hb)
      clear hb
      go_wp2_with fail
      refine hK.out _ _ ((HM.out.erase 0)) (fun hHeld => ?_)
      clear hK K
      (try simp only [Act.put, List.setIfInBounds_toArray, List.set_cons_zero, List.set_cons_succ])
      refine step_one 5 rfl (by kernel_rfl) (fun K hK => ?_)
      clear hHeld
      refine step_store_blk _ rfl 51 (.tmp 8) (.tmp 35) rfl P8 (r8.map uv) rfl (by show Value.agg cr8 = _; rw [Hr8.out.1]) 51 (z5) (HM.out.blk 0 rfl) (cells5 r8 Hr8.out.2) (len5 Hr8.out.2 rfl) (by intro v hv; obtain ⟨_, _, rfl⟩ := List.mem_map.1 hv; rfl) ?_
      intro wy5 hb hg
      replace HM := Lib.hid (show Mem w [blkE P8 51 (r8.map uv), blkE P7 51 (r7.map uv), blkE P6 51 (r6.map uv), blkE P5 51 (r5.map uv), blkE P4 51 (r4.map uv), blkE P3 51 (r3.map uv), blkE (w.heap.size + 1) 51 z5, blkE w.heap.size 51 (l.map uv)] wy5 from HM.out.put 0 rfl _ hg hb)
      clear hb hg
      refine hK.out _ _ ((HM.out.erase 0)) (fun hHeld => ?_)
      clear hK K
      (try simp only [Act.put])
      refine wpAnyH_done (by kernel_rfl) ?_ _
      go_wp2_with fail
      go_meet
      exact ⟨P8, rfl, HM.out⟩
  case rest =>
  clear HM
  revert wc
  intro w4 hcut
  obtain ⟨P8, rfl, hcut⟩ := hcut
  have HM := Lib.hid hcut
  clear hcut
  go_upto_region 7 with fail
  go_cut [9] (fun p wx => ∃ P9, p = .pointer (some ⟨P9, 0, none⟩) ∧ Mem w [blkE P9 51 (r9.map uv), blkE P8 51 (r8.map uv), blkE P7 51 (r7.map uv), blkE P6 51 (r6.map uv), blkE P5 51 (r5.map uv), blkE P4 51 (r4.map uv), blkE P3 51 (r3.map uv), blkE (w.heap.size + 1) 51 z5, blkE w.heap.size 51 (l.map uv)] wx)
  case first =>
    refine wp_region_held_drew (S := fun W' => Mem w [blkE P8 51 (r8.map uv), blkE P7 51 (r7.map uv), blkE P6 51 (r6.map uv), blkE P5 51 (r5.map uv), blkE P4 51 (r4.map uv), blkE P3 51 (r3.map uv), blkE (w.heap.size + 1) 51 z5, blkE w.heap.size 51 (l.map uv)] W') (by kernel_rfl) ((HM.out).drew) (fun hHeld => ?_)
    replace HM := Lib.hid HM.out.drew
    generalize w4.drew = wd1 at HM hHeld ⊢
    refine take_first (v := .agg cr8) 0 rfl (by kernel_rfl) (by kernel_rfl) (by kernel_rfl) (fun _ _ _ h => h) (by rw [← Hr8.out.1]; exact yields_load_blk (by rfl) 51 (.tmp 8) rfl P8 rfl 51 (r8.map uv) (fun w' hb => Mem.blk hb 0 rfl) 5 49 Try.underlying51 (cells5 r8 Hr8.out.2)) (by assumption) ?_
    (try simp only [Act.put, List.setIfInBounds_toArray, List.set_cons_zero, List.set_cons_succ])
    refine take_first (v := .agg cr8) 2 rfl (by kernel_rfl) (by kernel_rfl) (by kernel_rfl) (fun _ _ _ h => h) (by rw [← Hr8.out.1]; exact yields_load_blk (by rfl) 51 (.tmp 8) rfl P8 rfl 51 (r8.map uv) (fun w' hb => Mem.blk hb 0 rfl) 5 49 Try.underlying51 (cells5 r8 Hr8.out.2)) (by assumption) ?_
    (try simp only [Act.put, List.setIfInBounds_toArray, List.set_cons_zero, List.set_cons_succ])
    refine step_two 1 4 rfl rfl (by kernel_rfl) (fun K hK => ?_) (fun K hK => ?_)
    · clear hHeld
      go_simp
      refine (KD9.out _).mono ?_
      rintro e wy2 ⟨rfl, hb⟩
      replace HM := Lib.hid (show Mem w [blkE P8 51 (r8.map uv), blkE P7 51 (r7.map uv), blkE P6 51 (r6.map uv), blkE P5 51 (r5.map uv), blkE P4 51 (r4.map uv), blkE P3 51 (r3.map uv), blkE (w.heap.size + 1) 51 z5, blkE w.heap.size 51 (l.map uv)] wy2 from HM.out.below hb)
      clear hb
      go_wp2_with fail
      refine hK.out _ _ (HM.out) (fun hHeld => ?_)
      clear hK K
      (try simp only [Act.put, List.setIfInBounds_toArray, List.set_cons_zero, List.set_cons_succ])
      refine step_two 3 4 rfl rfl (by kernel_rfl) (fun K hK => ?_) (fun K hK => ?_)
      · clear hHeld
        go_simp
        refine (KC9.out _).mono ?_
        rintro e wy3 ⟨rfl, hb⟩
        replace HM := Lib.hid (show Mem w [blkE P8 51 (r8.map uv), blkE P7 51 (r7.map uv), blkE P6 51 (r6.map uv), blkE P5 51 (r5.map uv), blkE P4 51 (r4.map uv), blkE P3 51 (r3.map uv), blkE (w.heap.size + 1) 51 z5, blkE w.heap.size 51 (l.map uv)] wy3 from HM.out.below hb)
        clear hb
        go_wp2_with fail
        refine hK.out _ _ (HM.out) (fun hHeld => ?_)
        clear hK K
        (try simp only [Act.put, List.setIfInBounds_toArray, List.set_cons_zero, List.set_cons_succ])
        refine step_one 4 rfl (by kernel_rfl) (fun K hK => ?_)
        clear hHeld
        go_simp
        replace HM := Lib.hid (show Mem w [blkE wy3.heap.size 51 (z5), blkE P8 51 (r8.map uv), blkE P7 51 (r7.map uv), blkE P6 51 (r6.map uv), blkE P5 51 (r5.map uv), blkE P4 51 (r4.map uv), blkE P3 51 (r3.map uv), blkE (w.heap.size + 1) 51 z5, blkE w.heap.size 51 (l.map uv)] (wy3.alloc (.cells #[.int .u64 0, .int .u64 0, .int .u64 0, .int .u64 0, .int .u64 0] 51)) from HM.out.alloc rfl 51 #[.int .u64 0, .int .u64 0, .int .u64 0, .int .u64 0, .int .u64 0] (z5) rfl)
        generalize wy3.alloc (.cells #[.int .u64 0, .int .u64 0, .int .u64 0, .int .u64 0, .int .u64 0] 51) = wy4 at HM ⊢
        generalize wy3.heap.size = P9 at HM ⊢
        refine hK.out _ _ ((HM.out.erase 0)) (fun hHeld => ?_)
        clear hK K
        (try simp only [Act.put, List.setIfInBounds_toArray, List.set_cons_zero, List.set_cons_succ])
        refine step_one 5 rfl (by kernel_rfl) (fun K hK => ?_)
        clear hHeld
        refine step_store_blk _ rfl 51 (.tmp 9) (.tmp 39) rfl P9 (r9.map uv) rfl (by show Value.agg cr9 = _; rw [Hr9.out.1]) 51 (z5) (HM.out.blk 0 rfl) (cells5 r9 Hr9.out.2) (len5 Hr9.out.2 rfl) (by intro v hv; obtain ⟨_, _, rfl⟩ := List.mem_map.1 hv; rfl) ?_
        intro wy5 hb hg
        replace HM := Lib.hid (show Mem w [blkE P9 51 (r9.map uv), blkE P8 51 (r8.map uv), blkE P7 51 (r7.map uv), blkE P6 51 (r6.map uv), blkE P5 51 (r5.map uv), blkE P4 51 (r4.map uv), blkE P3 51 (r3.map uv), blkE (w.heap.size + 1) 51 z5, blkE w.heap.size 51 (l.map uv)] wy5 from HM.out.put 0 rfl _ hg hb)
        clear hb hg
        refine hK.out _ _ ((HM.out.erase 0)) (fun hHeld => ?_)
        clear hK K
        (try simp only [Act.put])
        refine wpAnyH_done (by kernel_rfl) ?_ _
        go_wp2_with fail
        go_meet
        exact ⟨P9, rfl, HM.out⟩
      · clear hHeld
        go_simp
        replace HM := Lib.hid (show Mem w [blkE wy2.heap.size 51 (z5), blkE P8 51 (r8.map uv), blkE P7 51 (r7.map uv), blkE P6 51 (r6.map uv), blkE P5 51 (r5.map uv), blkE P4 51 (r4.map uv), blkE P3 51 (r3.map uv), blkE (w.heap.size + 1) 51 z5, blkE w.heap.size 51 (l.map uv)] (wy2.alloc (.cells #[.int .u64 0, .int .u64 0, .int .u64 0, .int .u64 0, .int .u64 0] 51)) from HM.out.alloc rfl 51 #[.int .u64 0, .int .u64 0, .int .u64 0, .int .u64 0, .int .u64 0] (z5) rfl)
        generalize wy2.alloc (.cells #[.int .u64 0, .int .u64 0, .int .u64 0, .int .u64 0, .int .u64 0] 51) = wy3 at HM ⊢
        generalize wy2.heap.size = P9 at HM ⊢
        refine hK.out _ _ ((HM.out.erase 0)) (fun hHeld => ?_)
        clear hK K
        (try simp only [Act.put, List.setIfInBounds_toArray, List.set_cons_zero, List.set_cons_succ])
        refine step_one 3 rfl (by kernel_rfl) (fun K hK => ?_)
        clear hHeld
        go_simp
        refine (KC9.out _).mono ?_
        rintro e wy4 ⟨rfl, hb⟩
        replace HM := Lib.hid (show Mem w [blkE P9 51 (z5), blkE P8 51 (r8.map uv), blkE P7 51 (r7.map uv), blkE P6 51 (r6.map uv), blkE P5 51 (r5.map uv), blkE P4 51 (r4.map uv), blkE P3 51 (r3.map uv), blkE (w.heap.size + 1) 51 z5, blkE w.heap.size 51 (l.map uv)] wy4 from HM.out.below hb)
        clear hb
        go_wp2_with fail
        refine hK.out _ _ ((HM.out.erase 0)) (fun hHeld => ?_)
        clear hK K
        (try simp only [Act.put, List.setIfInBounds_toArray, List.set_cons_zero, List.set_cons_succ])
        refine step_one 5 rfl (by kernel_rfl) (fun K hK => ?_)
        clear hHeld
        refine step_store_blk _ rfl 51 (.tmp 9) (.tmp 39) rfl P9 (r9.map uv) rfl (by show Value.agg cr9 = _; rw [Hr9.out.1]) 51 (z5) (HM.out.blk 0 rfl) (cells5 r9 Hr9.out.2) (len5 Hr9.out.2 rfl) (by intro v hv; obtain ⟨_, _, rfl⟩ := List.mem_map.1 hv; rfl) ?_
        intro wy5 hb hg
        replace HM := Lib.hid (show Mem w [blkE P9 51 (r9.map uv), blkE P8 51 (r8.map uv), blkE P7 51 (r7.map uv), blkE P6 51 (r6.map uv), blkE P5 51 (r5.map uv), blkE P4 51 (r4.map uv), blkE P3 51 (r3.map uv), blkE (w.heap.size + 1) 51 z5, blkE w.heap.size 51 (l.map uv)] wy5 from HM.out.put 0 rfl _ hg hb)
        clear hb hg
        refine hK.out _ _ ((HM.out.erase 0)) (fun hHeld => ?_)
        clear hK K
        (try simp only [Act.put])
        refine wpAnyH_done (by kernel_rfl) ?_ _
        go_wp2_with fail
        go_meet
        exact ⟨P9, rfl, HM.out⟩
    · clear hHeld
      go_simp
      replace HM := Lib.hid (show Mem w [blkE wd1.heap.size 51 (z5), blkE P8 51 (r8.map uv), blkE P7 51 (r7.map uv), blkE P6 51 (r6.map uv), blkE P5 51 (r5.map uv), blkE P4 51 (r4.map uv), blkE P3 51 (r3.map uv), blkE (w.heap.size + 1) 51 z5, blkE w.heap.size 51 (l.map uv)] (wd1.alloc (.cells #[.int .u64 0, .int .u64 0, .int .u64 0, .int .u64 0, .int .u64 0] 51)) from HM.out.alloc rfl 51 #[.int .u64 0, .int .u64 0, .int .u64 0, .int .u64 0, .int .u64 0] (z5) rfl)
      generalize wd1.alloc (.cells #[.int .u64 0, .int .u64 0, .int .u64 0, .int .u64 0, .int .u64 0] 51) = wy2 at HM ⊢
      generalize wd1.heap.size = P9 at HM ⊢
      refine hK.out _ _ ((HM.out.erase 0)) (fun hHeld => ?_)
      clear hK K
      (try simp only [Act.put, List.setIfInBounds_toArray, List.set_cons_zero, List.set_cons_succ])
      refine step_one 1 rfl (by kernel_rfl) (fun K hK => ?_)
      clear hHeld
      go_simp
      refine (KD9.out _).mono ?_
      rintro e wy3 ⟨rfl, hb⟩
      replace HM := Lib.hid (show Mem w [blkE P9 51 (z5), blkE P8 51 (r8.map uv), blkE P7 51 (r7.map uv), blkE P6 51 (r6.map uv), blkE P5 51 (r5.map uv), blkE P4 51 (r4.map uv), blkE P3 51 (r3.map uv), blkE (w.heap.size + 1) 51 z5, blkE w.heap.size 51 (l.map uv)] wy3 from HM.out.below hb)
      clear hb
      go_wp2_with fail
      refine hK.out _ _ ((HM.out.erase 0)) (fun hHeld => ?_)
      clear hK K
      (try simp only [Act.put, List.setIfInBounds_toArray, List.set_cons_zero, List.set_cons_succ])
      refine step_one 3 rfl (by kernel_rfl) (fun K hK => ?_)
      clear hHeld
      go_simp
      refine (KC9.out _).mono ?_
      rintro e wy4 ⟨rfl, hb⟩
      replace HM := Lib.hid (show Mem w [blkE P9 51 (z5), blkE P8 51 (r8.map uv), blkE P7 51 (r7.map uv), blkE P6 51 (r6.map uv), blkE P5 51 (r5.map uv), blkE P4 51 (r4.map uv), blkE P3 51 (r3.map uv), blkE (w.heap.size + 1) 51 z5, blkE w.heap.size 51 (l.map uv)] wy4 from HM.out.below hb)
      clear hb
      go_wp2_with fail
      refine hK.out _ _ ((HM.out.erase 0)) (fun hHeld => ?_)
      clear hK K
      (try simp only [Act.put, List.setIfInBounds_toArray, List.set_cons_zero, List.set_cons_succ])
      refine step_one 5 rfl (by kernel_rfl) (fun K hK => ?_)
      clear hHeld
      refine step_store_blk _ rfl 51 (.tmp 9) (.tmp 39) rfl P9 (r9.map uv) rfl (by show Value.agg cr9 = _; rw [Hr9.out.1]) 51 (z5) (HM.out.blk 0 rfl) (cells5 r9 Hr9.out.2) (len5 Hr9.out.2 rfl) (by intro v hv; obtain ⟨_, _, rfl⟩ := List.mem_map.1 hv; rfl) ?_
      intro wy5 hb hg
      replace HM := Lib.hid (show Mem w [blkE P9 51 (r9.map uv), blkE P8 51 (r8.map uv), blkE P7 51 (r7.map uv), blkE P6 51 (r6.map uv), blkE P5 51 (r5.map uv), blkE P4 51 (r4.map uv), blkE P3 51 (r3.map uv), blkE (w.heap.size + 1) 51 z5, blkE w.heap.size 51 (l.map uv)] wy5 from HM.out.put 0 rfl _ hg hb)
      clear hb hg
      refine hK.out _ _ ((HM.out.erase 0)) (fun hHeld => ?_)
      clear hK K
      (try simp only [Act.put])
      refine wpAnyH_done (by kernel_rfl) ?_ _
      go_wp2_with fail
      go_meet
      exact ⟨P9, rfl, HM.out⟩
  case rest =>
  clear HM
  revert wc
  intro w4 hcut
  obtain ⟨P9, rfl, hcut⟩ := hcut
  have HM := Lib.hid hcut
  clear hcut
  go_upto_region 8 with fail
  go_cut [10] (fun p wx => ∃ P10, p = .pointer (some ⟨P10, 0, none⟩) ∧ Mem w [blkE P10 51 (r10.map uv), blkE P9 51 (r9.map uv), blkE P8 51 (r8.map uv), blkE P7 51 (r7.map uv), blkE P6 51 (r6.map uv), blkE P5 51 (r5.map uv), blkE P4 51 (r4.map uv), blkE P3 51 (r3.map uv), blkE (w.heap.size + 1) 51 z5, blkE w.heap.size 51 (l.map uv)] wx)
  case first =>
    refine wp_region_held_drew (S := fun W' => Mem w [blkE P9 51 (r9.map uv), blkE P8 51 (r8.map uv), blkE P7 51 (r7.map uv), blkE P6 51 (r6.map uv), blkE P5 51 (r5.map uv), blkE P4 51 (r4.map uv), blkE P3 51 (r3.map uv), blkE (w.heap.size + 1) 51 z5, blkE w.heap.size 51 (l.map uv)] W') (by kernel_rfl) ((HM.out).drew) (fun hHeld => ?_)
    replace HM := Lib.hid HM.out.drew
    generalize w4.drew = wd1 at HM hHeld ⊢
    refine take_first (v := .agg cr9) 0 rfl (by kernel_rfl) (by kernel_rfl) (by kernel_rfl) (fun _ _ _ h => h) (by rw [← Hr9.out.1]; exact yields_load_blk (by rfl) 51 (.tmp 9) rfl P9 rfl 51 (r9.map uv) (fun w' hb => Mem.blk hb 0 rfl) 5 49 Try.underlying51 (cells5 r9 Hr9.out.2)) (by assumption) ?_
    (try simp only [Act.put, List.setIfInBounds_toArray, List.set_cons_zero, List.set_cons_succ])
    refine take_first (v := .agg cr7) 2 rfl (by kernel_rfl) (by kernel_rfl) (by kernel_rfl) (fun _ _ _ h => h) (by rw [← Hr7.out.1]; exact yields_load_blk (by rfl) 51 (.tmp 7) rfl P7 rfl 51 (r7.map uv) (fun w' hb => Mem.blk hb 2 rfl) 5 49 Try.underlying51 (cells5 r7 Hr7.out.2)) (by assumption) ?_
    (try simp only [Act.put, List.setIfInBounds_toArray, List.set_cons_zero, List.set_cons_succ])
    refine step_two 1 4 rfl rfl (by kernel_rfl) (fun K hK => ?_) (fun K hK => ?_)
    · clear hHeld
      go_simp
      refine (KD10.out _).mono ?_
      rintro e wy2 ⟨rfl, hb⟩
      replace HM := Lib.hid (show Mem w [blkE P9 51 (r9.map uv), blkE P8 51 (r8.map uv), blkE P7 51 (r7.map uv), blkE P6 51 (r6.map uv), blkE P5 51 (r5.map uv), blkE P4 51 (r4.map uv), blkE P3 51 (r3.map uv), blkE (w.heap.size + 1) 51 z5, blkE w.heap.size 51 (l.map uv)] wy2 from HM.out.below hb)
      clear hb
      go_wp2_with fail
      refine hK.out _ _ (HM.out) (fun hHeld => ?_)
      clear hK K
      (try simp only [Act.put, List.setIfInBounds_toArray, List.set_cons_zero, List.set_cons_succ])
      refine step_two 3 4 rfl rfl (by kernel_rfl) (fun K hK => ?_) (fun K hK => ?_)
      · clear hHeld
        go_simp
        refine (KC10.out _).mono ?_
        rintro e wy3 ⟨rfl, hb⟩
        replace HM := Lib.hid (show Mem w [blkE P9 51 (r9.map uv), blkE P8 51 (r8.map uv), blkE P7 51 (r7.map uv), blkE P6 51 (r6.map uv), blkE P5 51 (r5.map uv), blkE P4 51 (r4.map uv), blkE P3 51 (r3.map uv), blkE (w.heap.size + 1) 51 z5, blkE w.heap.size 51 (l.map uv)] wy3 from HM.out.below hb)
        clear hb
        go_wp2_with fail
        refine hK.out _ _ (HM.out) (fun hHeld => ?_)
        clear hK K
        (try simp only [Act.put, List.setIfInBounds_toArray, List.set_cons_zero, List.set_cons_succ])
        refine step_one 4 rfl (by kernel_rfl) (fun K hK => ?_)
        clear hHeld
        go_simp
        replace HM := Lib.hid (show Mem w [blkE wy3.heap.size 51 (z5), blkE P9 51 (r9.map uv), blkE P8 51 (r8.map uv), blkE P7 51 (r7.map uv), blkE P6 51 (r6.map uv), blkE P5 51 (r5.map uv), blkE P4 51 (r4.map uv), blkE P3 51 (r3.map uv), blkE (w.heap.size + 1) 51 z5, blkE w.heap.size 51 (l.map uv)] (wy3.alloc (.cells #[.int .u64 0, .int .u64 0, .int .u64 0, .int .u64 0, .int .u64 0] 51)) from HM.out.alloc rfl 51 #[.int .u64 0, .int .u64 0, .int .u64 0, .int .u64 0, .int .u64 0] (z5) rfl)
        generalize wy3.alloc (.cells #[.int .u64 0, .int .u64 0, .int .u64 0, .int .u64 0, .int .u64 0] 51) = wy4 at HM ⊢
        generalize wy3.heap.size = P10 at HM ⊢
        refine hK.out _ _ ((HM.out.erase 0)) (fun hHeld => ?_)
        clear hK K
        (try simp only [Act.put, List.setIfInBounds_toArray, List.set_cons_zero, List.set_cons_succ])
        refine step_one 5 rfl (by kernel_rfl) (fun K hK => ?_)
        clear hHeld
        refine step_store_blk _ rfl 51 (.tmp 10) (.tmp 43) rfl P10 (r10.map uv) rfl (by show Value.agg cr10 = _; rw [Hr10.out.1]) 51 (z5) (HM.out.blk 0 rfl) (cells5 r10 Hr10.out.2) (len5 Hr10.out.2 rfl) (by intro v hv; obtain ⟨_, _, rfl⟩ := List.mem_map.1 hv; rfl) ?_
        intro wy5 hb hg
        replace HM := Lib.hid (show Mem w [blkE P10 51 (r10.map uv), blkE P9 51 (r9.map uv), blkE P8 51 (r8.map uv), blkE P7 51 (r7.map uv), blkE P6 51 (r6.map uv), blkE P5 51 (r5.map uv), blkE P4 51 (r4.map uv), blkE P3 51 (r3.map uv), blkE (w.heap.size + 1) 51 z5, blkE w.heap.size 51 (l.map uv)] wy5 from HM.out.put 0 rfl _ hg hb)
        clear hb hg
        refine hK.out _ _ ((HM.out.erase 0)) (fun hHeld => ?_)
        clear hK K
        (try simp only [Act.put])
        refine wpAnyH_done (by kernel_rfl) ?_ _
        go_wp2_with fail
        go_meet
        exact ⟨P10, rfl, HM.out⟩
      · clear hHeld
        go_simp
        replace HM := Lib.hid (show Mem w [blkE wy2.heap.size 51 (z5), blkE P9 51 (r9.map uv), blkE P8 51 (r8.map uv), blkE P7 51 (r7.map uv), blkE P6 51 (r6.map uv), blkE P5 51 (r5.map uv), blkE P4 51 (r4.map uv), blkE P3 51 (r3.map uv), blkE (w.heap.size + 1) 51 z5, blkE w.heap.size 51 (l.map uv)] (wy2.alloc (.cells #[.int .u64 0, .int .u64 0, .int .u64 0, .int .u64 0, .int .u64 0] 51)) from HM.out.alloc rfl 51 #[.int .u64 0, .int .u64 0, .int .u64 0, .int .u64 0, .int .u64 0] (z5) rfl)
        generalize wy2.alloc (.cells #[.int .u64 0, .int .u64 0, .int .u64 0, .int .u64 0, .int .u64 0] 51) = wy3 at HM ⊢
        generalize wy2.heap.size = P10 at HM ⊢
        refine hK.out _ _ ((HM.out.erase 0)) (fun hHeld => ?_)
        clear hK K
        (try simp only [Act.put, List.setIfInBounds_toArray, List.set_cons_zero, List.set_cons_succ])
        refine step_one 3 rfl (by kernel_rfl) (fun K hK => ?_)
        clear hHeld
        go_simp
        refine (KC10.out _).mono ?_
        rintro e wy4 ⟨rfl, hb⟩
        replace HM := Lib.hid (show Mem w [blkE P10 51 (z5), blkE P9 51 (r9.map uv), blkE P8 51 (r8.map uv), blkE P7 51 (r7.map uv), blkE P6 51 (r6.map uv), blkE P5 51 (r5.map uv), blkE P4 51 (r4.map uv), blkE P3 51 (r3.map uv), blkE (w.heap.size + 1) 51 z5, blkE w.heap.size 51 (l.map uv)] wy4 from HM.out.below hb)
        clear hb
        go_wp2_with fail
        refine hK.out _ _ ((HM.out.erase 0)) (fun hHeld => ?_)
        clear hK K
        (try simp only [Act.put, List.setIfInBounds_toArray, List.set_cons_zero, List.set_cons_succ])
        refine step_one 5 rfl (by kernel_rfl) (fun K hK => ?_)
        clear hHeld
        refine step_store_blk _ rfl 51 (.tmp 10) (.tmp 43) rfl P10 (r10.map uv) rfl (by show Value.agg cr10 = _; rw [Hr10.out.1]) 51 (z5) (HM.out.blk 0 rfl) (cells5 r10 Hr10.out.2) (len5 Hr10.out.2 rfl) (by intro v hv; obtain ⟨_, _, rfl⟩ := List.mem_map.1 hv; rfl) ?_
        intro wy5 hb hg
        replace HM := Lib.hid (show Mem w [blkE P10 51 (r10.map uv), blkE P9 51 (r9.map uv), blkE P8 51 (r8.map uv), blkE P7 51 (r7.map uv), blkE P6 51 (r6.map uv), blkE P5 51 (r5.map uv), blkE P4 51 (r4.map uv), blkE P3 51 (r3.map uv), blkE (w.heap.size + 1) 51 z5, blkE w.heap.size 51 (l.map uv)] wy5 from HM.out.put 0 rfl _ hg hb)
        clear hb hg
        refine hK.out _ _ ((HM.out.erase 0)) (fun hHeld => ?_)
        clear hK K
        (try simp only [Act.put])
        refine wpAnyH_done (by kernel_rfl) ?_ _
        go_wp2_with fail
        go_meet
        exact ⟨P10, rfl, HM.out⟩
    · clear hHeld
      go_simp
      replace HM := Lib.hid (show Mem w [blkE wd1.heap.size 51 (z5), blkE P9 51 (r9.map uv), blkE P8 51 (r8.map uv), blkE P7 51 (r7.map uv), blkE P6 51 (r6.map uv), blkE P5 51 (r5.map uv), blkE P4 51 (r4.map uv), blkE P3 51 (r3.map uv), blkE (w.heap.size + 1) 51 z5, blkE w.heap.size 51 (l.map uv)] (wd1.alloc (.cells #[.int .u64 0, .int .u64 0, .int .u64 0, .int .u64 0, .int .u64 0] 51)) from HM.out.alloc rfl 51 #[.int .u64 0, .int .u64 0, .int .u64 0, .int .u64 0, .int .u64 0] (z5) rfl)
      generalize wd1.alloc (.cells #[.int .u64 0, .int .u64 0, .int .u64 0, .int .u64 0, .int .u64 0] 51) = wy2 at HM ⊢
      generalize wd1.heap.size = P10 at HM ⊢
      refine hK.out _ _ ((HM.out.erase 0)) (fun hHeld => ?_)
      clear hK K
      (try simp only [Act.put, List.setIfInBounds_toArray, List.set_cons_zero, List.set_cons_succ])
      refine step_one 1 rfl (by kernel_rfl) (fun K hK => ?_)
      clear hHeld
      go_simp
      refine (KD10.out _).mono ?_
      rintro e wy3 ⟨rfl, hb⟩
      replace HM := Lib.hid (show Mem w [blkE P10 51 (z5), blkE P9 51 (r9.map uv), blkE P8 51 (r8.map uv), blkE P7 51 (r7.map uv), blkE P6 51 (r6.map uv), blkE P5 51 (r5.map uv), blkE P4 51 (r4.map uv), blkE P3 51 (r3.map uv), blkE (w.heap.size + 1) 51 z5, blkE w.heap.size 51 (l.map uv)] wy3 from HM.out.below hb)
      clear hb
      go_wp2_with fail
      refine hK.out _ _ ((HM.out.erase 0)) (fun hHeld => ?_)
      clear hK K
      (try simp only [Act.put, List.setIfInBounds_toArray, List.set_cons_zero, List.set_cons_succ])
      refine step_one 3 rfl (by kernel_rfl) (fun K hK => ?_)
      clear hHeld
      go_simp
      refine (KC10.out _).mono ?_
      rintro e wy4 ⟨rfl, hb⟩
      replace HM := Lib.hid (show Mem w [blkE P10 51 (z5), blkE P9 51 (r9.map uv), blkE P8 51 (r8.map uv), blkE P7 51 (r7.map uv), blkE P6 51 (r6.map uv), blkE P5 51 (r5.map uv), blkE P4 51 (r4.map uv), blkE P3 51 (r3.map uv), blkE (w.heap.size + 1) 51 z5, blkE w.heap.size 51 (l.map uv)] wy4 from HM.out.below hb)
      clear hb
      go_wp2_with fail
      refine hK.out _ _ ((HM.out.erase 0)) (fun hHeld => ?_)
      clear hK K
      (try simp only [Act.put, List.setIfInBounds_toArray, List.set_cons_zero, List.set_cons_succ])
      refine step_one 5 rfl (by kernel_rfl) (fun K hK => ?_)
      clear hHeld
      refine step_store_blk _ rfl 51 (.tmp 10) (.tmp 43) rfl P10 (r10.map uv) rfl (by show Value.agg cr10 = _; rw [Hr10.out.1]) 51 (z5) (HM.out.blk 0 rfl) (cells5 r10 Hr10.out.2) (len5 Hr10.out.2 rfl) (by intro v hv; obtain ⟨_, _, rfl⟩ := List.mem_map.1 hv; rfl) ?_
      intro wy5 hb hg
      replace HM := Lib.hid (show Mem w [blkE P10 51 (r10.map uv), blkE P9 51 (r9.map uv), blkE P8 51 (r8.map uv), blkE P7 51 (r7.map uv), blkE P6 51 (r6.map uv), blkE P5 51 (r5.map uv), blkE P4 51 (r4.map uv), blkE P3 51 (r3.map uv), blkE (w.heap.size + 1) 51 z5, blkE w.heap.size 51 (l.map uv)] wy5 from HM.out.put 0 rfl _ hg hb)
      clear hb hg
      refine hK.out _ _ ((HM.out.erase 0)) (fun hHeld => ?_)
      clear hK K
      (try simp only [Act.put])
      refine wpAnyH_done (by kernel_rfl) ?_ _
      go_wp2_with fail
      go_meet
      exact ⟨P10, rfl, HM.out⟩
  case rest =>
  clear HM
  revert wc
  intro w4 hcut
  obtain ⟨P10, rfl, hcut⟩ := hcut
  have HM := Lib.hid hcut
  clear hcut
  go_upto_region 9 with fail
  go_cut [11] (fun p wx => ∃ P11, p = .pointer (some ⟨P11, 0, none⟩) ∧ Mem w [blkE P11 51 (r11.map uv), blkE P10 51 (r10.map uv), blkE P9 51 (r9.map uv), blkE P8 51 (r8.map uv), blkE P7 51 (r7.map uv), blkE P6 51 (r6.map uv), blkE P5 51 (r5.map uv), blkE P4 51 (r4.map uv), blkE P3 51 (r3.map uv), blkE (w.heap.size + 1) 51 z5, blkE w.heap.size 51 (l.map uv)] wx)
  case first =>
    refine wp_region_held_drew (S := fun W' => Mem w [blkE P10 51 (r10.map uv), blkE P9 51 (r9.map uv), blkE P8 51 (r8.map uv), blkE P7 51 (r7.map uv), blkE P6 51 (r6.map uv), blkE P5 51 (r5.map uv), blkE P4 51 (r4.map uv), blkE P3 51 (r3.map uv), blkE (w.heap.size + 1) 51 z5, blkE w.heap.size 51 (l.map uv)] W') (by kernel_rfl) ((HM.out).drew) (fun hHeld => ?_)
    replace HM := Lib.hid HM.out.drew
    generalize w4.drew = wd1 at HM hHeld ⊢
    refine take_first (v := .agg cr10) 0 rfl (by kernel_rfl) (by kernel_rfl) (by kernel_rfl) (fun _ _ _ h => h) (by rw [← Hr10.out.1]; exact yields_load_blk (by rfl) 51 (.tmp 10) rfl P10 rfl 51 (r10.map uv) (fun w' hb => Mem.blk hb 0 rfl) 5 49 Try.underlying51 (cells5 r10 Hr10.out.2)) (by assumption) ?_
    (try simp only [Act.put, List.setIfInBounds_toArray, List.set_cons_zero, List.set_cons_succ])
    refine take_first (v := .agg cr10) 2 rfl (by kernel_rfl) (by kernel_rfl) (by kernel_rfl) (fun _ _ _ h => h) (by rw [← Hr10.out.1]; exact yields_load_blk (by rfl) 51 (.tmp 10) rfl P10 rfl 51 (r10.map uv) (fun w' hb => Mem.blk hb 0 rfl) 5 49 Try.underlying51 (cells5 r10 Hr10.out.2)) (by assumption) ?_
    (try simp only [Act.put, List.setIfInBounds_toArray, List.set_cons_zero, List.set_cons_succ])
    refine step_two 1 4 rfl rfl (by kernel_rfl) (fun K hK => ?_) (fun K hK => ?_)
    · clear hHeld
      go_simp
      refine (KD11.out _).mono ?_
      rintro e wy2 ⟨rfl, hb⟩
      replace HM := Lib.hid (show Mem w [blkE P10 51 (r10.map uv), blkE P9 51 (r9.map uv), blkE P8 51 (r8.map uv), blkE P7 51 (r7.map uv), blkE P6 51 (r6.map uv), blkE P5 51 (r5.map uv), blkE P4 51 (r4.map uv), blkE P3 51 (r3.map uv), blkE (w.heap.size + 1) 51 z5, blkE w.heap.size 51 (l.map uv)] wy2 from HM.out.below hb)
      clear hb
      go_wp2_with fail
      refine hK.out _ _ (HM.out) (fun hHeld => ?_)
      clear hK K
      (try simp only [Act.put, List.setIfInBounds_toArray, List.set_cons_zero, List.set_cons_succ])
      refine step_two 3 4 rfl rfl (by kernel_rfl) (fun K hK => ?_) (fun K hK => ?_)
      · clear hHeld
        go_simp
        refine (KC11.out _).mono ?_
        rintro e wy3 ⟨rfl, hb⟩
        replace HM := Lib.hid (show Mem w [blkE P10 51 (r10.map uv), blkE P9 51 (r9.map uv), blkE P8 51 (r8.map uv), blkE P7 51 (r7.map uv), blkE P6 51 (r6.map uv), blkE P5 51 (r5.map uv), blkE P4 51 (r4.map uv), blkE P3 51 (r3.map uv), blkE (w.heap.size + 1) 51 z5, blkE w.heap.size 51 (l.map uv)] wy3 from HM.out.below hb)
        clear hb
        go_wp2_with fail
        refine hK.out _ _ (HM.out) (fun hHeld => ?_)
        clear hK K
        (try simp only [Act.put, List.setIfInBounds_toArray, List.set_cons_zero, List.set_cons_succ])
        refine step_one 4 rfl (by kernel_rfl) (fun K hK => ?_)
        clear hHeld
        go_simp
        replace HM := Lib.hid (show Mem w [blkE wy3.heap.size 51 (z5), blkE P10 51 (r10.map uv), blkE P9 51 (r9.map uv), blkE P8 51 (r8.map uv), blkE P7 51 (r7.map uv), blkE P6 51 (r6.map uv), blkE P5 51 (r5.map uv), blkE P4 51 (r4.map uv), blkE P3 51 (r3.map uv), blkE (w.heap.size + 1) 51 z5, blkE w.heap.size 51 (l.map uv)] (wy3.alloc (.cells #[.int .u64 0, .int .u64 0, .int .u64 0, .int .u64 0, .int .u64 0] 51)) from HM.out.alloc rfl 51 #[.int .u64 0, .int .u64 0, .int .u64 0, .int .u64 0, .int .u64 0] (z5) rfl)
        generalize wy3.alloc (.cells #[.int .u64 0, .int .u64 0, .int .u64 0, .int .u64 0, .int .u64 0] 51) = wy4 at HM ⊢
        generalize wy3.heap.size = P11 at HM ⊢
        refine hK.out _ _ ((HM.out.erase 0)) (fun hHeld => ?_)
        clear hK K
        (try simp only [Act.put, List.setIfInBounds_toArray, List.set_cons_zero, List.set_cons_succ])
        refine step_one 5 rfl (by kernel_rfl) (fun K hK => ?_)
        clear hHeld
        refine step_store_blk _ rfl 51 (.tmp 11) (.tmp 47) rfl P11 (r11.map uv) rfl (by show Value.agg cr11 = _; rw [Hr11.out.1]) 51 (z5) (HM.out.blk 0 rfl) (cells5 r11 Hr11.out.2) (len5 Hr11.out.2 rfl) (by intro v hv; obtain ⟨_, _, rfl⟩ := List.mem_map.1 hv; rfl) ?_
        intro wy5 hb hg
        replace HM := Lib.hid (show Mem w [blkE P11 51 (r11.map uv), blkE P10 51 (r10.map uv), blkE P9 51 (r9.map uv), blkE P8 51 (r8.map uv), blkE P7 51 (r7.map uv), blkE P6 51 (r6.map uv), blkE P5 51 (r5.map uv), blkE P4 51 (r4.map uv), blkE P3 51 (r3.map uv), blkE (w.heap.size + 1) 51 z5, blkE w.heap.size 51 (l.map uv)] wy5 from HM.out.put 0 rfl _ hg hb)
        clear hb hg
        refine hK.out _ _ ((HM.out.erase 0)) (fun hHeld => ?_)
        clear hK K
        (try simp only [Act.put])
        refine wpAnyH_done (by kernel_rfl) ?_ _
        go_wp2_with fail
        go_meet
        exact ⟨P11, rfl, HM.out⟩
      · clear hHeld
        go_simp
        replace HM := Lib.hid (show Mem w [blkE wy2.heap.size 51 (z5), blkE P10 51 (r10.map uv), blkE P9 51 (r9.map uv), blkE P8 51 (r8.map uv), blkE P7 51 (r7.map uv), blkE P6 51 (r6.map uv), blkE P5 51 (r5.map uv), blkE P4 51 (r4.map uv), blkE P3 51 (r3.map uv), blkE (w.heap.size + 1) 51 z5, blkE w.heap.size 51 (l.map uv)] (wy2.alloc (.cells #[.int .u64 0, .int .u64 0, .int .u64 0, .int .u64 0, .int .u64 0] 51)) from HM.out.alloc rfl 51 #[.int .u64 0, .int .u64 0, .int .u64 0, .int .u64 0, .int .u64 0] (z5) rfl)
        generalize wy2.alloc (.cells #[.int .u64 0, .int .u64 0, .int .u64 0, .int .u64 0, .int .u64 0] 51) = wy3 at HM ⊢
        generalize wy2.heap.size = P11 at HM ⊢
        refine hK.out _ _ ((HM.out.erase 0)) (fun hHeld => ?_)
        clear hK K
        (try simp only [Act.put, List.setIfInBounds_toArray, List.set_cons_zero, List.set_cons_succ])
        refine step_one 3 rfl (by kernel_rfl) (fun K hK => ?_)
        clear hHeld
        go_simp
        refine (KC11.out _).mono ?_
        rintro e wy4 ⟨rfl, hb⟩
        replace HM := Lib.hid (show Mem w [blkE P11 51 (z5), blkE P10 51 (r10.map uv), blkE P9 51 (r9.map uv), blkE P8 51 (r8.map uv), blkE P7 51 (r7.map uv), blkE P6 51 (r6.map uv), blkE P5 51 (r5.map uv), blkE P4 51 (r4.map uv), blkE P3 51 (r3.map uv), blkE (w.heap.size + 1) 51 z5, blkE w.heap.size 51 (l.map uv)] wy4 from HM.out.below hb)
        clear hb
        go_wp2_with fail
        refine hK.out _ _ ((HM.out.erase 0)) (fun hHeld => ?_)
        clear hK K
        (try simp only [Act.put, List.setIfInBounds_toArray, List.set_cons_zero, List.set_cons_succ])
        refine step_one 5 rfl (by kernel_rfl) (fun K hK => ?_)
        clear hHeld
        refine step_store_blk _ rfl 51 (.tmp 11) (.tmp 47) rfl P11 (r11.map uv) rfl (by show Value.agg cr11 = _; rw [Hr11.out.1]) 51 (z5) (HM.out.blk 0 rfl) (cells5 r11 Hr11.out.2) (len5 Hr11.out.2 rfl) (by intro v hv; obtain ⟨_, _, rfl⟩ := List.mem_map.1 hv; rfl) ?_
        intro wy5 hb hg
        replace HM := Lib.hid (show Mem w [blkE P11 51 (r11.map uv), blkE P10 51 (r10.map uv), blkE P9 51 (r9.map uv), blkE P8 51 (r8.map uv), blkE P7 51 (r7.map uv), blkE P6 51 (r6.map uv), blkE P5 51 (r5.map uv), blkE P4 51 (r4.map uv), blkE P3 51 (r3.map uv), blkE (w.heap.size + 1) 51 z5, blkE w.heap.size 51 (l.map uv)] wy5 from HM.out.put 0 rfl _ hg hb)
        clear hb hg
        refine hK.out _ _ ((HM.out.erase 0)) (fun hHeld => ?_)
        clear hK K
        (try simp only [Act.put])
        refine wpAnyH_done (by kernel_rfl) ?_ _
        go_wp2_with fail
        go_meet
        exact ⟨P11, rfl, HM.out⟩
    · clear hHeld
      go_simp
      replace HM := Lib.hid (show Mem w [blkE wd1.heap.size 51 (z5), blkE P10 51 (r10.map uv), blkE P9 51 (r9.map uv), blkE P8 51 (r8.map uv), blkE P7 51 (r7.map uv), blkE P6 51 (r6.map uv), blkE P5 51 (r5.map uv), blkE P4 51 (r4.map uv), blkE P3 51 (r3.map uv), blkE (w.heap.size + 1) 51 z5, blkE w.heap.size 51 (l.map uv)] (wd1.alloc (.cells #[.int .u64 0, .int .u64 0, .int .u64 0, .int .u64 0, .int .u64 0] 51)) from HM.out.alloc rfl 51 #[.int .u64 0, .int .u64 0, .int .u64 0, .int .u64 0, .int .u64 0] (z5) rfl)
      generalize wd1.alloc (.cells #[.int .u64 0, .int .u64 0, .int .u64 0, .int .u64 0, .int .u64 0] 51) = wy2 at HM ⊢
      generalize wd1.heap.size = P11 at HM ⊢
      refine hK.out _ _ ((HM.out.erase 0)) (fun hHeld => ?_)
      clear hK K
      (try simp only [Act.put, List.setIfInBounds_toArray, List.set_cons_zero, List.set_cons_succ])
      refine step_one 1 rfl (by kernel_rfl) (fun K hK => ?_)
      clear hHeld
      go_simp
      refine (KD11.out _).mono ?_
      rintro e wy3 ⟨rfl, hb⟩
      replace HM := Lib.hid (show Mem w [blkE P11 51 (z5), blkE P10 51 (r10.map uv), blkE P9 51 (r9.map uv), blkE P8 51 (r8.map uv), blkE P7 51 (r7.map uv), blkE P6 51 (r6.map uv), blkE P5 51 (r5.map uv), blkE P4 51 (r4.map uv), blkE P3 51 (r3.map uv), blkE (w.heap.size + 1) 51 z5, blkE w.heap.size 51 (l.map uv)] wy3 from HM.out.below hb)
      clear hb
      go_wp2_with fail
      refine hK.out _ _ ((HM.out.erase 0)) (fun hHeld => ?_)
      clear hK K
      (try simp only [Act.put, List.setIfInBounds_toArray, List.set_cons_zero, List.set_cons_succ])
      refine step_one 3 rfl (by kernel_rfl) (fun K hK => ?_)
      clear hHeld
      go_simp
      refine (KC11.out _).mono ?_
      rintro e wy4 ⟨rfl, hb⟩
      replace HM := Lib.hid (show Mem w [blkE P11 51 (z5), blkE P10 51 (r10.map uv), blkE P9 51 (r9.map uv), blkE P8 51 (r8.map uv), blkE P7 51 (r7.map uv), blkE P6 51 (r6.map uv), blkE P5 51 (r5.map uv), blkE P4 51 (r4.map uv), blkE P3 51 (r3.map uv), blkE (w.heap.size + 1) 51 z5, blkE w.heap.size 51 (l.map uv)] wy4 from HM.out.below hb)
      clear hb
      go_wp2_with fail
      refine hK.out _ _ ((HM.out.erase 0)) (fun hHeld => ?_)
      clear hK K
      (try simp only [Act.put, List.setIfInBounds_toArray, List.set_cons_zero, List.set_cons_succ])
      refine step_one 5 rfl (by kernel_rfl) (fun K hK => ?_)
      clear hHeld
      refine step_store_blk _ rfl 51 (.tmp 11) (.tmp 47) rfl P11 (r11.map uv) rfl (by show Value.agg cr11 = _; rw [Hr11.out.1]) 51 (z5) (HM.out.blk 0 rfl) (cells5 r11 Hr11.out.2) (len5 Hr11.out.2 rfl) (by intro v hv; obtain ⟨_, _, rfl⟩ := List.mem_map.1 hv; rfl) ?_
      intro wy5 hb hg
      replace HM := Lib.hid (show Mem w [blkE P11 51 (r11.map uv), blkE P10 51 (r10.map uv), blkE P9 51 (r9.map uv), blkE P8 51 (r8.map uv), blkE P7 51 (r7.map uv), blkE P6 51 (r6.map uv), blkE P5 51 (r5.map uv), blkE P4 51 (r4.map uv), blkE P3 51 (r3.map uv), blkE (w.heap.size + 1) 51 z5, blkE w.heap.size 51 (l.map uv)] wy5 from HM.out.put 0 rfl _ hg hb)
      clear hb hg
      refine hK.out _ _ ((HM.out.erase 0)) (fun hHeld => ?_)
      clear hK K
      (try simp only [Act.put])
      refine wpAnyH_done (by kernel_rfl) ?_ _
      go_wp2_with fail
      go_meet
      exact ⟨P11, rfl, HM.out⟩
  case rest =>
  clear HM
  revert wc
  intro w4 hcut
  obtain ⟨P11, rfl, hcut⟩ := hcut
  have HM := Lib.hid hcut
  clear hcut
  go_upto_region 10 with fail
  go_cut [12] (fun p wx => ∃ P12, p = .pointer (some ⟨P12, 0, none⟩) ∧ Mem w [blkE P12 51 (r12.map uv), blkE P11 51 (r11.map uv), blkE P10 51 (r10.map uv), blkE P9 51 (r9.map uv), blkE P8 51 (r8.map uv), blkE P7 51 (r7.map uv), blkE P6 51 (r6.map uv), blkE P5 51 (r5.map uv), blkE P4 51 (r4.map uv), blkE P3 51 (r3.map uv), blkE (w.heap.size + 1) 51 z5, blkE w.heap.size 51 (l.map uv)] wx)
  case first =>
    refine wp_region_held_drew (S := fun W' => Mem w [blkE P11 51 (r11.map uv), blkE P10 51 (r10.map uv), blkE P9 51 (r9.map uv), blkE P8 51 (r8.map uv), blkE P7 51 (r7.map uv), blkE P6 51 (r6.map uv), blkE P5 51 (r5.map uv), blkE P4 51 (r4.map uv), blkE P3 51 (r3.map uv), blkE (w.heap.size + 1) 51 z5, blkE w.heap.size 51 (l.map uv)] W') (by kernel_rfl) ((HM.out).drew) (fun hHeld => ?_)
    replace HM := Lib.hid HM.out.drew
    generalize w4.drew = wd1 at HM hHeld ⊢
    refine take_first (v := .agg cr11) 0 rfl (by kernel_rfl) (by kernel_rfl) (by kernel_rfl) (fun _ _ _ h => h) (by rw [← Hr11.out.1]; exact yields_load_blk (by rfl) 51 (.tmp 11) rfl P11 rfl 51 (r11.map uv) (fun w' hb => Mem.blk hb 0 rfl) 5 49 Try.underlying51 (cells5 r11 Hr11.out.2)) (by assumption) ?_
    (try simp only [Act.put, List.setIfInBounds_toArray, List.set_cons_zero, List.set_cons_succ])
    refine take_first (v := .agg cr11) 2 rfl (by kernel_rfl) (by kernel_rfl) (by kernel_rfl) (fun _ _ _ h => h) (by rw [← Hr11.out.1]; exact yields_load_blk (by rfl) 51 (.tmp 11) rfl P11 rfl 51 (r11.map uv) (fun w' hb => Mem.blk hb 0 rfl) 5 49 Try.underlying51 (cells5 r11 Hr11.out.2)) (by assumption) ?_
    (try simp only [Act.put, List.setIfInBounds_toArray, List.set_cons_zero, List.set_cons_succ])
    refine step_two 1 4 rfl rfl (by kernel_rfl) (fun K hK => ?_) (fun K hK => ?_)
    · clear hHeld
      go_simp
      refine (KD12.out _).mono ?_
      rintro e wy2 ⟨rfl, hb⟩
      replace HM := Lib.hid (show Mem w [blkE P11 51 (r11.map uv), blkE P10 51 (r10.map uv), blkE P9 51 (r9.map uv), blkE P8 51 (r8.map uv), blkE P7 51 (r7.map uv), blkE P6 51 (r6.map uv), blkE P5 51 (r5.map uv), blkE P4 51 (r4.map uv), blkE P3 51 (r3.map uv), blkE (w.heap.size + 1) 51 z5, blkE w.heap.size 51 (l.map uv)] wy2 from HM.out.below hb)
      clear hb
      go_wp2_with fail
      refine hK.out _ _ (HM.out) (fun hHeld => ?_)
      clear hK K
      (try simp only [Act.put, List.setIfInBounds_toArray, List.set_cons_zero, List.set_cons_succ])
      refine step_two 3 4 rfl rfl (by kernel_rfl) (fun K hK => ?_) (fun K hK => ?_)
      · clear hHeld
        go_simp
        refine (KC12.out _).mono ?_
        rintro e wy3 ⟨rfl, hb⟩
        replace HM := Lib.hid (show Mem w [blkE P11 51 (r11.map uv), blkE P10 51 (r10.map uv), blkE P9 51 (r9.map uv), blkE P8 51 (r8.map uv), blkE P7 51 (r7.map uv), blkE P6 51 (r6.map uv), blkE P5 51 (r5.map uv), blkE P4 51 (r4.map uv), blkE P3 51 (r3.map uv), blkE (w.heap.size + 1) 51 z5, blkE w.heap.size 51 (l.map uv)] wy3 from HM.out.below hb)
        clear hb
        go_wp2_with fail
        refine hK.out _ _ (HM.out) (fun hHeld => ?_)
        clear hK K
        (try simp only [Act.put, List.setIfInBounds_toArray, List.set_cons_zero, List.set_cons_succ])
        refine step_one 4 rfl (by kernel_rfl) (fun K hK => ?_)
        clear hHeld
        go_simp
        replace HM := Lib.hid (show Mem w [blkE wy3.heap.size 51 (z5), blkE P11 51 (r11.map uv), blkE P10 51 (r10.map uv), blkE P9 51 (r9.map uv), blkE P8 51 (r8.map uv), blkE P7 51 (r7.map uv), blkE P6 51 (r6.map uv), blkE P5 51 (r5.map uv), blkE P4 51 (r4.map uv), blkE P3 51 (r3.map uv), blkE (w.heap.size + 1) 51 z5, blkE w.heap.size 51 (l.map uv)] (wy3.alloc (.cells #[.int .u64 0, .int .u64 0, .int .u64 0, .int .u64 0, .int .u64 0] 51)) from HM.out.alloc rfl 51 #[.int .u64 0, .int .u64 0, .int .u64 0, .int .u64 0, .int .u64 0] (z5) rfl)
        generalize wy3.alloc (.cells #[.int .u64 0, .int .u64 0, .int .u64 0, .int .u64 0, .int .u64 0] 51) = wy4 at HM ⊢
        generalize wy3.heap.size = P12 at HM ⊢
        refine hK.out _ _ ((HM.out.erase 0)) (fun hHeld => ?_)
        clear hK K
        (try simp only [Act.put, List.setIfInBounds_toArray, List.set_cons_zero, List.set_cons_succ])
        refine step_one 5 rfl (by kernel_rfl) (fun K hK => ?_)
        clear hHeld
        refine step_store_blk _ rfl 51 (.tmp 12) (.tmp 51) rfl P12 (r12.map uv) rfl (by show Value.agg cr12 = _; rw [Hr12.out.1]) 51 (z5) (HM.out.blk 0 rfl) (cells5 r12 Hr12.out.2) (len5 Hr12.out.2 rfl) (by intro v hv; obtain ⟨_, _, rfl⟩ := List.mem_map.1 hv; rfl) ?_
        intro wy5 hb hg
        replace HM := Lib.hid (show Mem w [blkE P12 51 (r12.map uv), blkE P11 51 (r11.map uv), blkE P10 51 (r10.map uv), blkE P9 51 (r9.map uv), blkE P8 51 (r8.map uv), blkE P7 51 (r7.map uv), blkE P6 51 (r6.map uv), blkE P5 51 (r5.map uv), blkE P4 51 (r4.map uv), blkE P3 51 (r3.map uv), blkE (w.heap.size + 1) 51 z5, blkE w.heap.size 51 (l.map uv)] wy5 from HM.out.put 0 rfl _ hg hb)
        clear hb hg
        refine hK.out _ _ ((HM.out.erase 0)) (fun hHeld => ?_)
        clear hK K
        (try simp only [Act.put])
        refine wpAnyH_done (by kernel_rfl) ?_ _
        go_wp2_with fail
        go_meet
        exact ⟨P12, rfl, HM.out⟩
      · clear hHeld
        go_simp
        replace HM := Lib.hid (show Mem w [blkE wy2.heap.size 51 (z5), blkE P11 51 (r11.map uv), blkE P10 51 (r10.map uv), blkE P9 51 (r9.map uv), blkE P8 51 (r8.map uv), blkE P7 51 (r7.map uv), blkE P6 51 (r6.map uv), blkE P5 51 (r5.map uv), blkE P4 51 (r4.map uv), blkE P3 51 (r3.map uv), blkE (w.heap.size + 1) 51 z5, blkE w.heap.size 51 (l.map uv)] (wy2.alloc (.cells #[.int .u64 0, .int .u64 0, .int .u64 0, .int .u64 0, .int .u64 0] 51)) from HM.out.alloc rfl 51 #[.int .u64 0, .int .u64 0, .int .u64 0, .int .u64 0, .int .u64 0] (z5) rfl)
        generalize wy2.alloc (.cells #[.int .u64 0, .int .u64 0, .int .u64 0, .int .u64 0, .int .u64 0] 51) = wy3 at HM ⊢
        generalize wy2.heap.size = P12 at HM ⊢
        refine hK.out _ _ ((HM.out.erase 0)) (fun hHeld => ?_)
        clear hK K
        (try simp only [Act.put, List.setIfInBounds_toArray, List.set_cons_zero, List.set_cons_succ])
        refine step_one 3 rfl (by kernel_rfl) (fun K hK => ?_)
        clear hHeld
        go_simp
        refine (KC12.out _).mono ?_
        rintro e wy4 ⟨rfl, hb⟩
        replace HM := Lib.hid (show Mem w [blkE P12 51 (z5), blkE P11 51 (r11.map uv), blkE P10 51 (r10.map uv), blkE P9 51 (r9.map uv), blkE P8 51 (r8.map uv), blkE P7 51 (r7.map uv), blkE P6 51 (r6.map uv), blkE P5 51 (r5.map uv), blkE P4 51 (r4.map uv), blkE P3 51 (r3.map uv), blkE (w.heap.size + 1) 51 z5, blkE w.heap.size 51 (l.map uv)] wy4 from HM.out.below hb)
        clear hb
        go_wp2_with fail
        refine hK.out _ _ ((HM.out.erase 0)) (fun hHeld => ?_)
        clear hK K
        (try simp only [Act.put, List.setIfInBounds_toArray, List.set_cons_zero, List.set_cons_succ])
        refine step_one 5 rfl (by kernel_rfl) (fun K hK => ?_)
        clear hHeld
        refine step_store_blk _ rfl 51 (.tmp 12) (.tmp 51) rfl P12 (r12.map uv) rfl (by show Value.agg cr12 = _; rw [Hr12.out.1]) 51 (z5) (HM.out.blk 0 rfl) (cells5 r12 Hr12.out.2) (len5 Hr12.out.2 rfl) (by intro v hv; obtain ⟨_, _, rfl⟩ := List.mem_map.1 hv; rfl) ?_
        intro wy5 hb hg
        replace HM := Lib.hid (show Mem w [blkE P12 51 (r12.map uv), blkE P11 51 (r11.map uv), blkE P10 51 (r10.map uv), blkE P9 51 (r9.map uv), blkE P8 51 (r8.map uv), blkE P7 51 (r7.map uv), blkE P6 51 (r6.map uv), blkE P5 51 (r5.map uv), blkE P4 51 (r4.map uv), blkE P3 51 (r3.map uv), blkE (w.heap.size + 1) 51 z5, blkE w.heap.size 51 (l.map uv)] wy5 from HM.out.put 0 rfl _ hg hb)
        clear hb hg
        refine hK.out _ _ ((HM.out.erase 0)) (fun hHeld => ?_)
        clear hK K
        (try simp only [Act.put])
        refine wpAnyH_done (by kernel_rfl) ?_ _
        go_wp2_with fail
        go_meet
        exact ⟨P12, rfl, HM.out⟩
    · clear hHeld
      go_simp
      replace HM := Lib.hid (show Mem w [blkE wd1.heap.size 51 (z5), blkE P11 51 (r11.map uv), blkE P10 51 (r10.map uv), blkE P9 51 (r9.map uv), blkE P8 51 (r8.map uv), blkE P7 51 (r7.map uv), blkE P6 51 (r6.map uv), blkE P5 51 (r5.map uv), blkE P4 51 (r4.map uv), blkE P3 51 (r3.map uv), blkE (w.heap.size + 1) 51 z5, blkE w.heap.size 51 (l.map uv)] (wd1.alloc (.cells #[.int .u64 0, .int .u64 0, .int .u64 0, .int .u64 0, .int .u64 0] 51)) from HM.out.alloc rfl 51 #[.int .u64 0, .int .u64 0, .int .u64 0, .int .u64 0, .int .u64 0] (z5) rfl)
      generalize wd1.alloc (.cells #[.int .u64 0, .int .u64 0, .int .u64 0, .int .u64 0, .int .u64 0] 51) = wy2 at HM ⊢
      generalize wd1.heap.size = P12 at HM ⊢
      refine hK.out _ _ ((HM.out.erase 0)) (fun hHeld => ?_)
      clear hK K
      (try simp only [Act.put, List.setIfInBounds_toArray, List.set_cons_zero, List.set_cons_succ])
      refine step_one 1 rfl (by kernel_rfl) (fun K hK => ?_)
      clear hHeld
      go_simp
      refine (KD12.out _).mono ?_
      rintro e wy3 ⟨rfl, hb⟩
      replace HM := Lib.hid (show Mem w [blkE P12 51 (z5), blkE P11 51 (r11.map uv), blkE P10 51 (r10.map uv), blkE P9 51 (r9.map uv), blkE P8 51 (r8.map uv), blkE P7 51 (r7.map uv), blkE P6 51 (r6.map uv), blkE P5 51 (r5.map uv), blkE P4 51 (r4.map uv), blkE P3 51 (r3.map uv), blkE (w.heap.size + 1) 51 z5, blkE w.heap.size 51 (l.map uv)] wy3 from HM.out.below hb)
      clear hb
      go_wp2_with fail
      refine hK.out _ _ ((HM.out.erase 0)) (fun hHeld => ?_)
      clear hK K
      (try simp only [Act.put, List.setIfInBounds_toArray, List.set_cons_zero, List.set_cons_succ])
      refine step_one 3 rfl (by kernel_rfl) (fun K hK => ?_)
      clear hHeld
      go_simp
      refine (KC12.out _).mono ?_
      rintro e wy4 ⟨rfl, hb⟩
      replace HM := Lib.hid (show Mem w [blkE P12 51 (z5), blkE P11 51 (r11.map uv), blkE P10 51 (r10.map uv), blkE P9 51 (r9.map uv), blkE P8 51 (r8.map uv), blkE P7 51 (r7.map uv), blkE P6 51 (r6.map uv), blkE P5 51 (r5.map uv), blkE P4 51 (r4.map uv), blkE P3 51 (r3.map uv), blkE (w.heap.size + 1) 51 z5, blkE w.heap.size 51 (l.map uv)] wy4 from HM.out.below hb)
      clear hb
      go_wp2_with fail
      refine hK.out _ _ ((HM.out.erase 0)) (fun hHeld => ?_)
      clear hK K
      (try simp only [Act.put, List.setIfInBounds_toArray, List.set_cons_zero, List.set_cons_succ])
      refine step_one 5 rfl (by kernel_rfl) (fun K hK => ?_)
      clear hHeld
      refine step_store_blk _ rfl 51 (.tmp 12) (.tmp 51) rfl P12 (r12.map uv) rfl (by show Value.agg cr12 = _; rw [Hr12.out.1]) 51 (z5) (HM.out.blk 0 rfl) (cells5 r12 Hr12.out.2) (len5 Hr12.out.2 rfl) (by intro v hv; obtain ⟨_, _, rfl⟩ := List.mem_map.1 hv; rfl) ?_
      intro wy5 hb hg
      replace HM := Lib.hid (show Mem w [blkE P12 51 (r12.map uv), blkE P11 51 (r11.map uv), blkE P10 51 (r10.map uv), blkE P9 51 (r9.map uv), blkE P8 51 (r8.map uv), blkE P7 51 (r7.map uv), blkE P6 51 (r6.map uv), blkE P5 51 (r5.map uv), blkE P4 51 (r4.map uv), blkE P3 51 (r3.map uv), blkE (w.heap.size + 1) 51 z5, blkE w.heap.size 51 (l.map uv)] wy5 from HM.out.put 0 rfl _ hg hb)
      clear hb hg
      refine hK.out _ _ ((HM.out.erase 0)) (fun hHeld => ?_)
      clear hK K
      (try simp only [Act.put])
      refine wpAnyH_done (by kernel_rfl) ?_ _
      go_wp2_with fail
      go_meet
      exact ⟨P12, rfl, HM.out⟩
  case rest =>
  clear HM
  revert wc
  intro w4 hcut
  obtain ⟨P12, rfl, hcut⟩ := hcut
  have HM := Lib.hid hcut
  clear hcut
  go_upto_region 11 with fail
  go_cut [13] (fun p wx => ∃ P13, p = .pointer (some ⟨P13, 0, none⟩) ∧ Mem w [blkE P13 51 (r13.map uv), blkE P12 51 (r12.map uv), blkE P11 51 (r11.map uv), blkE P10 51 (r10.map uv), blkE P9 51 (r9.map uv), blkE P8 51 (r8.map uv), blkE P7 51 (r7.map uv), blkE P6 51 (r6.map uv), blkE P5 51 (r5.map uv), blkE P4 51 (r4.map uv), blkE P3 51 (r3.map uv), blkE (w.heap.size + 1) 51 z5, blkE w.heap.size 51 (l.map uv)] wx)
  case first =>
    refine wp_region_held_drew (S := fun W' => Mem w [blkE P12 51 (r12.map uv), blkE P11 51 (r11.map uv), blkE P10 51 (r10.map uv), blkE P9 51 (r9.map uv), blkE P8 51 (r8.map uv), blkE P7 51 (r7.map uv), blkE P6 51 (r6.map uv), blkE P5 51 (r5.map uv), blkE P4 51 (r4.map uv), blkE P3 51 (r3.map uv), blkE (w.heap.size + 1) 51 z5, blkE w.heap.size 51 (l.map uv)] W') (by kernel_rfl) ((HM.out).drew) (fun hHeld => ?_)
    replace HM := Lib.hid HM.out.drew
    generalize w4.drew = wd1 at HM hHeld ⊢
    refine take_first (v := .agg cr12) 0 rfl (by kernel_rfl) (by kernel_rfl) (by kernel_rfl) (fun _ _ _ h => h) (by rw [← Hr12.out.1]; exact yields_load_blk (by rfl) 51 (.tmp 12) rfl P12 rfl 51 (r12.map uv) (fun w' hb => Mem.blk hb 0 rfl) 5 49 Try.underlying51 (cells5 r12 Hr12.out.2)) (by assumption) ?_
    (try simp only [Act.put, List.setIfInBounds_toArray, List.set_cons_zero, List.set_cons_succ])
    refine take_first (v := .agg cr10) 2 rfl (by kernel_rfl) (by kernel_rfl) (by kernel_rfl) (fun _ _ _ h => h) (by rw [← Hr10.out.1]; exact yields_load_blk (by rfl) 51 (.tmp 10) rfl P10 rfl 51 (r10.map uv) (fun w' hb => Mem.blk hb 2 rfl) 5 49 Try.underlying51 (cells5 r10 Hr10.out.2)) (by assumption) ?_
    (try simp only [Act.put, List.setIfInBounds_toArray, List.set_cons_zero, List.set_cons_succ])
    refine step_two 1 4 rfl rfl (by kernel_rfl) (fun K hK => ?_) (fun K hK => ?_)
    · clear hHeld
      go_simp
      refine (KD13.out _).mono ?_
      rintro e wy2 ⟨rfl, hb⟩
      replace HM := Lib.hid (show Mem w [blkE P12 51 (r12.map uv), blkE P11 51 (r11.map uv), blkE P10 51 (r10.map uv), blkE P9 51 (r9.map uv), blkE P8 51 (r8.map uv), blkE P7 51 (r7.map uv), blkE P6 51 (r6.map uv), blkE P5 51 (r5.map uv), blkE P4 51 (r4.map uv), blkE P3 51 (r3.map uv), blkE (w.heap.size + 1) 51 z5, blkE w.heap.size 51 (l.map uv)] wy2 from HM.out.below hb)
      clear hb
      go_wp2_with fail
      refine hK.out _ _ (HM.out) (fun hHeld => ?_)
      clear hK K
      (try simp only [Act.put, List.setIfInBounds_toArray, List.set_cons_zero, List.set_cons_succ])
      refine step_two 3 4 rfl rfl (by kernel_rfl) (fun K hK => ?_) (fun K hK => ?_)
      · clear hHeld
        go_simp
        refine (KC13.out _).mono ?_
        rintro e wy3 ⟨rfl, hb⟩
        replace HM := Lib.hid (show Mem w [blkE P12 51 (r12.map uv), blkE P11 51 (r11.map uv), blkE P10 51 (r10.map uv), blkE P9 51 (r9.map uv), blkE P8 51 (r8.map uv), blkE P7 51 (r7.map uv), blkE P6 51 (r6.map uv), blkE P5 51 (r5.map uv), blkE P4 51 (r4.map uv), blkE P3 51 (r3.map uv), blkE (w.heap.size + 1) 51 z5, blkE w.heap.size 51 (l.map uv)] wy3 from HM.out.below hb)
        clear hb
        go_wp2_with fail
        refine hK.out _ _ (HM.out) (fun hHeld => ?_)
        clear hK K
        (try simp only [Act.put, List.setIfInBounds_toArray, List.set_cons_zero, List.set_cons_succ])
        refine step_one 4 rfl (by kernel_rfl) (fun K hK => ?_)
        clear hHeld
        go_simp
        replace HM := Lib.hid (show Mem w [blkE wy3.heap.size 51 (z5), blkE P12 51 (r12.map uv), blkE P11 51 (r11.map uv), blkE P10 51 (r10.map uv), blkE P9 51 (r9.map uv), blkE P8 51 (r8.map uv), blkE P7 51 (r7.map uv), blkE P6 51 (r6.map uv), blkE P5 51 (r5.map uv), blkE P4 51 (r4.map uv), blkE P3 51 (r3.map uv), blkE (w.heap.size + 1) 51 z5, blkE w.heap.size 51 (l.map uv)] (wy3.alloc (.cells #[.int .u64 0, .int .u64 0, .int .u64 0, .int .u64 0, .int .u64 0] 51)) from HM.out.alloc rfl 51 #[.int .u64 0, .int .u64 0, .int .u64 0, .int .u64 0, .int .u64 0] (z5) rfl)
        generalize wy3.alloc (.cells #[.int .u64 0, .int .u64 0, .int .u64 0, .int .u64 0, .int .u64 0] 51) = wy4 at HM ⊢
        generalize wy3.heap.size = P13 at HM ⊢
        refine hK.out _ _ ((HM.out.erase 0)) (fun hHeld => ?_)
        clear hK K
        (try simp only [Act.put, List.setIfInBounds_toArray, List.set_cons_zero, List.set_cons_succ])
        refine step_one 5 rfl (by kernel_rfl) (fun K hK => ?_)
        clear hHeld
        refine step_store_blk _ rfl 51 (.tmp 13) (.tmp 55) rfl P13 (r13.map uv) rfl (by show Value.agg cr13 = _; rw [Hr13.out.1]) 51 (z5) (HM.out.blk 0 rfl) (cells5 r13 Hr13.out.2) (len5 Hr13.out.2 rfl) (by intro v hv; obtain ⟨_, _, rfl⟩ := List.mem_map.1 hv; rfl) ?_
        intro wy5 hb hg
        replace HM := Lib.hid (show Mem w [blkE P13 51 (r13.map uv), blkE P12 51 (r12.map uv), blkE P11 51 (r11.map uv), blkE P10 51 (r10.map uv), blkE P9 51 (r9.map uv), blkE P8 51 (r8.map uv), blkE P7 51 (r7.map uv), blkE P6 51 (r6.map uv), blkE P5 51 (r5.map uv), blkE P4 51 (r4.map uv), blkE P3 51 (r3.map uv), blkE (w.heap.size + 1) 51 z5, blkE w.heap.size 51 (l.map uv)] wy5 from HM.out.put 0 rfl _ hg hb)
        clear hb hg
        refine hK.out _ _ ((HM.out.erase 0)) (fun hHeld => ?_)
        clear hK K
        (try simp only [Act.put])
        refine wpAnyH_done (by kernel_rfl) ?_ _
        go_wp2_with fail
        go_meet
        exact ⟨P13, rfl, HM.out⟩
      · clear hHeld
        go_simp
        replace HM := Lib.hid (show Mem w [blkE wy2.heap.size 51 (z5), blkE P12 51 (r12.map uv), blkE P11 51 (r11.map uv), blkE P10 51 (r10.map uv), blkE P9 51 (r9.map uv), blkE P8 51 (r8.map uv), blkE P7 51 (r7.map uv), blkE P6 51 (r6.map uv), blkE P5 51 (r5.map uv), blkE P4 51 (r4.map uv), blkE P3 51 (r3.map uv), blkE (w.heap.size + 1) 51 z5, blkE w.heap.size 51 (l.map uv)] (wy2.alloc (.cells #[.int .u64 0, .int .u64 0, .int .u64 0, .int .u64 0, .int .u64 0] 51)) from HM.out.alloc rfl 51 #[.int .u64 0, .int .u64 0, .int .u64 0, .int .u64 0, .int .u64 0] (z5) rfl)
        generalize wy2.alloc (.cells #[.int .u64 0, .int .u64 0, .int .u64 0, .int .u64 0, .int .u64 0] 51) = wy3 at HM ⊢
        generalize wy2.heap.size = P13 at HM ⊢
        refine hK.out _ _ ((HM.out.erase 0)) (fun hHeld => ?_)
        clear hK K
        (try simp only [Act.put, List.setIfInBounds_toArray, List.set_cons_zero, List.set_cons_succ])
        refine step_one 3 rfl (by kernel_rfl) (fun K hK => ?_)
        clear hHeld
        go_simp
        refine (KC13.out _).mono ?_
        rintro e wy4 ⟨rfl, hb⟩
        replace HM := Lib.hid (show Mem w [blkE P13 51 (z5), blkE P12 51 (r12.map uv), blkE P11 51 (r11.map uv), blkE P10 51 (r10.map uv), blkE P9 51 (r9.map uv), blkE P8 51 (r8.map uv), blkE P7 51 (r7.map uv), blkE P6 51 (r6.map uv), blkE P5 51 (r5.map uv), blkE P4 51 (r4.map uv), blkE P3 51 (r3.map uv), blkE (w.heap.size + 1) 51 z5, blkE w.heap.size 51 (l.map uv)] wy4 from HM.out.below hb)
        clear hb
        go_wp2_with fail
        refine hK.out _ _ ((HM.out.erase 0)) (fun hHeld => ?_)
        clear hK K
        (try simp only [Act.put, List.setIfInBounds_toArray, List.set_cons_zero, List.set_cons_succ])
        refine step_one 5 rfl (by kernel_rfl) (fun K hK => ?_)
        clear hHeld
        refine step_store_blk _ rfl 51 (.tmp 13) (.tmp 55) rfl P13 (r13.map uv) rfl (by show Value.agg cr13 = _; rw [Hr13.out.1]) 51 (z5) (HM.out.blk 0 rfl) (cells5 r13 Hr13.out.2) (len5 Hr13.out.2 rfl) (by intro v hv; obtain ⟨_, _, rfl⟩ := List.mem_map.1 hv; rfl) ?_
        intro wy5 hb hg
        replace HM := Lib.hid (show Mem w [blkE P13 51 (r13.map uv), blkE P12 51 (r12.map uv), blkE P11 51 (r11.map uv), blkE P10 51 (r10.map uv), blkE P9 51 (r9.map uv), blkE P8 51 (r8.map uv), blkE P7 51 (r7.map uv), blkE P6 51 (r6.map uv), blkE P5 51 (r5.map uv), blkE P4 51 (r4.map uv), blkE P3 51 (r3.map uv), blkE (w.heap.size + 1) 51 z5, blkE w.heap.size 51 (l.map uv)] wy5 from HM.out.put 0 rfl _ hg hb)
        clear hb hg
        refine hK.out _ _ ((HM.out.erase 0)) (fun hHeld => ?_)
        clear hK K
        (try simp only [Act.put])
        refine wpAnyH_done (by kernel_rfl) ?_ _
        go_wp2_with fail
        go_meet
        exact ⟨P13, rfl, HM.out⟩
    · clear hHeld
      go_simp
      replace HM := Lib.hid (show Mem w [blkE wd1.heap.size 51 (z5), blkE P12 51 (r12.map uv), blkE P11 51 (r11.map uv), blkE P10 51 (r10.map uv), blkE P9 51 (r9.map uv), blkE P8 51 (r8.map uv), blkE P7 51 (r7.map uv), blkE P6 51 (r6.map uv), blkE P5 51 (r5.map uv), blkE P4 51 (r4.map uv), blkE P3 51 (r3.map uv), blkE (w.heap.size + 1) 51 z5, blkE w.heap.size 51 (l.map uv)] (wd1.alloc (.cells #[.int .u64 0, .int .u64 0, .int .u64 0, .int .u64 0, .int .u64 0] 51)) from HM.out.alloc rfl 51 #[.int .u64 0, .int .u64 0, .int .u64 0, .int .u64 0, .int .u64 0] (z5) rfl)
      generalize wd1.alloc (.cells #[.int .u64 0, .int .u64 0, .int .u64 0, .int .u64 0, .int .u64 0] 51) = wy2 at HM ⊢
      generalize wd1.heap.size = P13 at HM ⊢
      refine hK.out _ _ ((HM.out.erase 0)) (fun hHeld => ?_)
      clear hK K
      (try simp only [Act.put, List.setIfInBounds_toArray, List.set_cons_zero, List.set_cons_succ])
      refine step_one 1 rfl (by kernel_rfl) (fun K hK => ?_)
      clear hHeld
      go_simp
      refine (KD13.out _).mono ?_
      rintro e wy3 ⟨rfl, hb⟩
      replace HM := Lib.hid (show Mem w [blkE P13 51 (z5), blkE P12 51 (r12.map uv), blkE P11 51 (r11.map uv), blkE P10 51 (r10.map uv), blkE P9 51 (r9.map uv), blkE P8 51 (r8.map uv), blkE P7 51 (r7.map uv), blkE P6 51 (r6.map uv), blkE P5 51 (r5.map uv), blkE P4 51 (r4.map uv), blkE P3 51 (r3.map uv), blkE (w.heap.size + 1) 51 z5, blkE w.heap.size 51 (l.map uv)] wy3 from HM.out.below hb)
      clear hb
      go_wp2_with fail
      refine hK.out _ _ ((HM.out.erase 0)) (fun hHeld => ?_)
      clear hK K
      (try simp only [Act.put, List.setIfInBounds_toArray, List.set_cons_zero, List.set_cons_succ])
      refine step_one 3 rfl (by kernel_rfl) (fun K hK => ?_)
      clear hHeld
      go_simp
      refine (KC13.out _).mono ?_
      rintro e wy4 ⟨rfl, hb⟩
      replace HM := Lib.hid (show Mem w [blkE P13 51 (z5), blkE P12 51 (r12.map uv), blkE P11 51 (r11.map uv), blkE P10 51 (r10.map uv), blkE P9 51 (r9.map uv), blkE P8 51 (r8.map uv), blkE P7 51 (r7.map uv), blkE P6 51 (r6.map uv), blkE P5 51 (r5.map uv), blkE P4 51 (r4.map uv), blkE P3 51 (r3.map uv), blkE (w.heap.size + 1) 51 z5, blkE w.heap.size 51 (l.map uv)] wy4 from HM.out.below hb)
      clear hb
      go_wp2_with fail
      refine hK.out _ _ ((HM.out.erase 0)) (fun hHeld => ?_)
      clear hK K
      (try simp only [Act.put, List.setIfInBounds_toArray, List.set_cons_zero, List.set_cons_succ])
      refine step_one 5 rfl (by kernel_rfl) (fun K hK => ?_)
      clear hHeld
      refine step_store_blk _ rfl 51 (.tmp 13) (.tmp 55) rfl P13 (r13.map uv) rfl (by show Value.agg cr13 = _; rw [Hr13.out.1]) 51 (z5) (HM.out.blk 0 rfl) (cells5 r13 Hr13.out.2) (len5 Hr13.out.2 rfl) (by intro v hv; obtain ⟨_, _, rfl⟩ := List.mem_map.1 hv; rfl) ?_
      intro wy5 hb hg
      replace HM := Lib.hid (show Mem w [blkE P13 51 (r13.map uv), blkE P12 51 (r12.map uv), blkE P11 51 (r11.map uv), blkE P10 51 (r10.map uv), blkE P9 51 (r9.map uv), blkE P8 51 (r8.map uv), blkE P7 51 (r7.map uv), blkE P6 51 (r6.map uv), blkE P5 51 (r5.map uv), blkE P4 51 (r4.map uv), blkE P3 51 (r3.map uv), blkE (w.heap.size + 1) 51 z5, blkE w.heap.size 51 (l.map uv)] wy5 from HM.out.put 0 rfl _ hg hb)
      clear hb hg
      refine hK.out _ _ ((HM.out.erase 0)) (fun hHeld => ?_)
      clear hK K
      (try simp only [Act.put])
      refine wpAnyH_done (by kernel_rfl) ?_ _
      go_wp2_with fail
      go_meet
      exact ⟨P13, rfl, HM.out⟩
  case rest =>
  clear HM
  revert wc
  intro w4 hcut
  obtain ⟨P13, rfl, hcut⟩ := hcut
  have HM := Lib.hid hcut
  clear hcut
  go_upto_region 12 with fail
  refine wp_region_held_drew (S := fun W' => Mem w [blkE P13 51 (r13.map uv), blkE P12 51 (r12.map uv), blkE P11 51 (r11.map uv), blkE P10 51 (r10.map uv), blkE P9 51 (r9.map uv), blkE P8 51 (r8.map uv), blkE P7 51 (r7.map uv), blkE P6 51 (r6.map uv), blkE P5 51 (r5.map uv), blkE P4 51 (r4.map uv), blkE P3 51 (r3.map uv), blkE w.heap.size 51 (l.map uv)] W') (by kernel_rfl) (((HM.out.erase 11)).drew) (fun hHeld => ?_)
  replace HM := Lib.hid HM.out.drew
  generalize w4.drew = wd1 at HM hHeld ⊢
  refine take_first (v := .agg cr13) 0 rfl (by kernel_rfl) (by kernel_rfl) (by kernel_rfl) (fun _ _ _ h => h) (by rw [← Hr13.out.1]; exact yields_load_blk (by rfl) 51 (.tmp 13) rfl P13 rfl 51 (r13.map uv) (fun w' hb => Mem.blk hb 0 rfl) 5 49 Try.underlying51 (cells5 r13 Hr13.out.2)) (by assumption) ?_
  (try simp only [Act.put, List.setIfInBounds_toArray, List.set_cons_zero, List.set_cons_succ])
  refine take_first (v := .agg cr5) 2 rfl (by kernel_rfl) (by kernel_rfl) (by kernel_rfl) (fun _ _ _ h => h) (by rw [← Hr5.out.1]; exact yields_load_blk (by rfl) 51 (.tmp 5) rfl P5 rfl 51 (r5.map uv) (fun w' hb => Mem.blk hb 8 rfl) 5 49 Try.underlying51 (cells5 r5 Hr5.out.2)) (by assumption) ?_
  (try simp only [Act.put, List.setIfInBounds_toArray, List.set_cons_zero, List.set_cons_succ])
  refine step_one 1 rfl (by kernel_rfl) (fun K hK => ?_)
  clear hHeld
  go_simp
  refine (KD2.out _).mono ?_
  rintro e wy2 ⟨rfl, hb⟩
  replace HM := Lib.hid (show Mem w [blkE P13 51 (r13.map uv), blkE P12 51 (r12.map uv), blkE P11 51 (r11.map uv), blkE P10 51 (r10.map uv), blkE P9 51 (r9.map uv), blkE P8 51 (r8.map uv), blkE P7 51 (r7.map uv), blkE P6 51 (r6.map uv), blkE P5 51 (r5.map uv), blkE P4 51 (r4.map uv), blkE P3 51 (r3.map uv), blkE (w.heap.size + 1) 51 z5, blkE w.heap.size 51 (l.map uv)] wy2 from HM.out.below hb)
  clear hb
  go_wp2_with fail
  refine hK.out _ _ ((HM.out.erase 11)) (fun hHeld => ?_)
  clear hK K
  (try simp only [Act.put, List.setIfInBounds_toArray, List.set_cons_zero, List.set_cons_succ])
  refine step_one 3 rfl (by kernel_rfl) (fun K hK => ?_)
  clear hHeld
  go_simp
  refine (KC2.out _).mono ?_
  rintro e wy3 ⟨rfl, hb⟩
  replace HM := Lib.hid (show Mem w [blkE P13 51 (r13.map uv), blkE P12 51 (r12.map uv), blkE P11 51 (r11.map uv), blkE P10 51 (r10.map uv), blkE P9 51 (r9.map uv), blkE P8 51 (r8.map uv), blkE P7 51 (r7.map uv), blkE P6 51 (r6.map uv), blkE P5 51 (r5.map uv), blkE P4 51 (r4.map uv), blkE P3 51 (r3.map uv), blkE (w.heap.size + 1) 51 z5, blkE w.heap.size 51 (l.map uv)] wy3 from HM.out.below hb)
  clear hb
  go_wp2_with fail
  refine hK.out _ _ ((HM.out.erase 11)) (fun hHeld => ?_)
  clear hK K
  (try simp only [Act.put, List.setIfInBounds_toArray, List.set_cons_zero, List.set_cons_succ])
  refine step_one 4 rfl (by kernel_rfl) (fun K hK => ?_)
  clear hHeld
  refine step_store_blk _ rfl 51 (.tmp 2) (.tmp 59) rfl (w.heap.size + 1) (r2.map uv) rfl (by show Value.agg cr2 = _; rw [Hr2.out.1]) 51 (z5) (HM.out.blk 11 rfl) (cells5 r2 Hr2.out.2) (len5 Hr2.out.2 rfl) (by intro v hv; obtain ⟨_, _, rfl⟩ := List.mem_map.1 hv; rfl) ?_
  intro wy4 hb hg
  replace HM := Lib.hid (show Mem w [blkE P13 51 (r13.map uv), blkE P12 51 (r12.map uv), blkE P11 51 (r11.map uv), blkE P10 51 (r10.map uv), blkE P9 51 (r9.map uv), blkE P8 51 (r8.map uv), blkE P7 51 (r7.map uv), blkE P6 51 (r6.map uv), blkE P5 51 (r5.map uv), blkE P4 51 (r4.map uv), blkE P3 51 (r3.map uv), blkE (w.heap.size + 1) 51 (r2.map uv), blkE w.heap.size 51 (l.map uv)] wy4 from HM.out.put 11 rfl _ hg hb)
  clear hb hg
  refine hK.out _ _ ((HM.out.erase 11)) (fun hHeld => ?_)
  clear hK K
  (try simp only [Act.put])
  refine wpAnyH_done (by kernel_rfl) ?_ _
  go_wp2_with fail
  exact bodyPost_ret (results_blk rfl _ _ (w.heap.size + 1) 51 (r2.map uv) 5 49 rfl (HM.out.blk 11 rfl) Try.underlying51 (cells5 r2 Hr2.out.2)) rfl ⟨r2, HF.out.1, HF.out.2, rfl, HM.out.bel⟩
end Go.Proofs.Ytgdgecehmnokdaa.Cv
