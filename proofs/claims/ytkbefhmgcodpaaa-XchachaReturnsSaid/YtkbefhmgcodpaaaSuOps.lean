/-
  The contract of the program's sum of two numbers of five limbs. The contracts of the program's split and join. The contract of the program's product of two numbers of five limbs. No statement is proved here.
-/
import Derived.Test.YtkbefhmgcodpaaaSuCarry
namespace Go.Proofs.Ytkbefhmgcodpaaa
open Go.RowKit

set_option maxRecDepth 100000 in
set_option maxHeartbeats 2000000 in
theorem add_any (x y : List Nat) (hx : x.length = 5 ∧ ∀ i, dg x i ≤ 4611686018427387904) (hy : y.length = 5 ∧ ∀ i, dg y i ≤ 4611686018427387904) (w : World) :
    Calls Try.prog 52 #[.agg (x.map lv).toArray, .agg (y.map lv).toArray] w fun e w' => e = .returned (.agg ((addS x y 5).map lv).toArray) ∧ Below w.heap.size w w' := by
  obtain ⟨cx, hcx⟩ : ∃ cx, (x.map lv).toArray = cx := ⟨_, rfl⟩
  obtain ⟨cy, hcy⟩ : ∃ cy, (y.map lv).toArray = cy := ⟨_, rfl⟩
  rw [hcx, hcy]
  have HB0 := Lib.hid (show Blk (w.alloc (.cells cx 76)) w.heap.size 76 (x.map lv) by rw [← hcx]; exact Blk.new w _ _)
  have HB1 := Lib.hid (show Blk ((w.alloc (.cells cx 76)).alloc (.cells cy 76)) (w.heap.size + 1) 76 (y.map lv) by rw [← hcy]; exact Blk.new' _ (by simp) _ _)
  have HX := Lib.hid hx
  have HY := Lib.hid hy
  clear hx hy
  go_enter Try.func52, Try.ntmps52
  go_upto_region 1 with fail
  have h0 := (HB0.out.alloc (.cells cy 76)).alloc (.cells z5.toArray 76)
  have h1 := HB1.out.alloc (.cells z5.toArray 76)
  have h2 : Blk (((w.alloc (.cells cx 76)).alloc (.cells cy 76)).alloc (.cells z5.toArray 76)) (w.heap.size + 2) 76 z5 := Blk.new' _ (by simp) _ _
  have h3 : Below w.heap.size w (((w.alloc (.cells cx 76)).alloc (.cells cy 76)).alloc (.cells z5.toArray 76)) := (((Below.refl _ _).alloc (Nat.le_refl _) _).alloc (by simp) _).alloc (by simp; omega) _
  rw [z5_arr] at h0 h1 h2 h3
  have hsz : (((w.alloc (.cells cx 76)).alloc (.cells cy 76)).alloc (.cells #[.int .u64 0, .int .u64 0, .int .u64 0, .int .u64 0, .int .u64 0] 76)).heap.size = w.heap.size + 3 := by simp
  clear HB0 HB1
  have HC := Lib.hid (And.intro hcx hcy)
  clear hcx hcy
  generalize (((w.alloc (.cells cx 76)).alloc (.cells cy 76)).alloc (.cells #[.int .u64 0, .int .u64 0, .int .u64 0, .int .u64 0, .int .u64 0] 76)) = w1 at h0 h1 h2 h3 hsz ⊢
  rw [show w.heap.size + 1 + 1 = w.heap.size + 2 from rfl]
  have H1 := Lib.hid (And.intro h0 (And.intro h1 (And.intro h2 (And.intro h3 hsz))))
  clear h0 h1 h2 h3 hsz
  go_upto_region 2 with (first | (refine wpList_load_blk rfl 76 (.tmp 2) rfl w.heap.size rfl 76 (x.map lv) H1.out.1 5 51 Try.underlying76 (cells5 x HX.out.1) ?_; rw [HC.out.1]) | (refine wpList_store_blk rfl 76 (.tmp 5) (.tmp 7) rfl w1.heap.size (x.map lv) rfl (by show Value.agg cx = _; rw [HC.out.1]) 76 z5 (Blk.new w1 76 z5) (cells5 x HX.out.1) (by rw [List.length_map, HX.out.1]; rfl) (lv_one _) ?_; intro w2 hb2 hg2))
  simp only [Act.put]
  have e2 := H1.out.2.2.2.2
  have hk1 := (H1.out.2.1.alloc (.cells z5.toArray 76)).grown hg2 (fun e => by injection e; omega)
  have hk2 := (H1.out.2.2.1.alloc (.cells z5.toArray 76)).grown hg2 (fun e => by injection e; omega)
  have hk3 : Below w.heap.size w w2 := below_blk (H1.out.2.2.2.1.alloc (by omega) (.cells z5.toArray 76)) hg2 (by omega)
  rw [e2] at hb2 ⊢
  have H2 := Lib.hid (And.intro hb2 (And.intro hk1 (And.intro hk2 hk3)))
  clear hb2 hk1 hk2 hk3 hg2 e2 H1
  go_wp2_with fail
  go_loopw [8, 6] (fun i _ wr => ∃ n : Nat, n ≤ 5 ∧ i = .int .i64 (n : Int) ∧ Blk wr (w.heap.size + 3) 76 ((addS x y n).map lv) ∧ Blk wr (w.heap.size + 1) 76 (y.map lv) ∧ Blk wr (w.heap.size + 2) 76 z5 ∧ Below w.heap.size w wr) (fun i _ _ => 5 - (intOf i).toNat)
  case atStart => exact ⟨0, by omega, rfl, H2.out.1, H2.out.2.1, H2.out.2.2.1, H2.out.2.2.2⟩
  case round =>
    clear H2
    obtain ⟨n, hn, rfl, hblk, hyb, hz, hbel⟩ := hrel
    by_cases hln : n < 5
    · have d5 : decide ((n : Int) < 5) = true := by simp; omega
      have hlen : (addS x y n).length = 5 := by rw [addS_length]; exact HX.out.1
      have fx := hblk.lim n (by omega)
      have fy := hyb.lim n (by rw [HY.out.1]; omega)
      have zx := hblk.frozen n
      have hd : dg (addS x y n) n ≤ 4611686018427387904 := by rw [addS_dg x y HX.out.1 n n (by omega), if_neg (by omega)]; exact HX.out.2 n
      have hg := HY.out.2 n
      have hnx : addS x y (n + 1) = (addS x y n).set n (dg (addS x y n) n + dg y n) := rfl
      generalize hdd : dg (addS x y n) n = d at fx hd hnx
      generalize dg y n = g at fy hg hnx
      obtain ⟨s, hs⟩ : ∃ s, d + g = s := ⟨_, rfl⟩
      have hs1 : IntKind.u64.wrap ((d : Int) + (g : Int)) = (s : Int) := by rw [IntKind.wrap_u64]; omega
      have hs2 : ((d : Int) + (g : Int)) % 18446744073709551616 = (s : Int) := by omega
      rw [hs] at hnx
      have HNX := Lib.hid hnx
      have HB := Lib.hid (And.intro hblk (And.intro hyb (And.intro hz hbel)))
      clear hnx hblk hyb hz hbel hdd hlen hs hd hg
      go_upto_region 5 with fail
      go_region
      (try simp only [hs1, hs2])
      clear fx fy zx hs1 hs2
      go_wp2_with fail
      go_roundw
      case rel =>
        refine ⟨n + 1, by omega, by go_num, ?_, ?_, ?_, ?_⟩
        · rw [HNX.out]
          exact HB.out.1.drew.setLim n s
        · exact HB.out.2.1.drew.far (by simp) _
        · exact HB.out.2.2.1.drew.far (by simp) _
        · exact HB.out.2.2.2.drew.setCell (by dsimp only; omega) _
      case measure => simp [intOf]; omega
    · obtain rfl : n = 5 := by omega
      obtain ⟨lz, hlz⟩ : ∃ lz, addS x y 5 = lz := ⟨_, rfl⟩
      have HLz := Lib.hid (show lz.length = 5 by rw [← hlz, addS_length]; exact HX.out.1)
      rw [hlz] at hblk
      have HZ := Lib.hid hlz
      have HB := Lib.hid (And.intro hblk (And.intro hz hbel))
      obtain ⟨cz, hcz⟩ : ∃ cz, (lz.map lv).toArray = cz := ⟨_, rfl⟩
      have HCZ := Lib.hid hcz
      clear hblk hz hbel hcz hlz hyb
      rw [show ((5 : Nat) : Int) = 5 from rfl]
      go_wp2_with (first | (refine wpList_load_blk rfl 76 (.tmp 5) rfl (w.heap.size + 3) rfl 76 (lz.map lv) HB.out.1 5 51 Try.underlying76 (cells5 lz HLz.out) ?_; rw [HCZ.out]) | (refine wpList_store_blk rfl 76 (.tmp 4) (.tmp 20) rfl (w.heap.size + 2) (lz.map lv) rfl (by show Value.agg cz = _; rw [HCZ.out]) 76 z5 HB.out.2.1 (cells5 lz HLz.out) (by rw [List.length_map, HLz.out]; rfl) (lv_one _) ?_; intro w9 hb9 hg9))
      exact bodyPost_ret (results_blk rfl _ _ (w.heap.size + 2) 76 (lz.map lv) 5 51 rfl hb9 Try.underlying76 (cells5 lz HLz.out)) rfl ⟨by rw [HZ.out], below_blk HB.out.2.2 hg9 (by omega)⟩

theorem splitN_eq (a b c : Nat) : splitN a b c = [dg (splitN a b c) 0, dg (splitN a b c) 1, dg (splitN a b c) 2, dg (splitN a b c) 3, dg (splitN a b c) 4] := by
  unfold splitN dg
  simp only [List.getD_cons_zero, List.getD_cons_succ]
theorem split_mid (a b : Nat) (ha : a < 18446744073709551616) (_hb : b < 18446744073709551616) : bits BinOp.and IntKind.u64 (bits BinOp.or IntKind.u64 ((a : Int) / 4503599627370496) (IntKind.u64.wrap ((b : Int) * 4096))) 67108863 = ((a / 4503599627370496 + b % 16384 * 4096 : Nat) : Int) := by
  have h1 : a / 4503599627370496 < 4096 := Nat.div_lt_of_lt_mul (by omega)
  have e1 : (a : Int) / 4503599627370496 = ((a / 4503599627370496 : Nat) : Int) := by rw [Int.natCast_ediv]; rfl
  generalize a / 4503599627370496 = x at h1 e1 ⊢
  have e2 : IntKind.u64.wrap ((b : Int) * 4096) = ((2 ^ 12 * (b % 4503599627370496) : Nat) : Int) := by rw [IntKind.wrap_u64]; omega
  have h3 : b % 4503599627370496 < 4503599627370496 := Nat.mod_lt _ (by omega)
  have h4 : b % 4503599627370496 % 16384 = b % 16384 := Nat.mod_mod_of_dvd b (by decide)
  generalize b % 4503599627370496 = y at h3 h4 e2
  rw [e1, e2, u64_or_nat _ _ (by omega) (by omega), or_low y x 12 h1]
  have h5 := and_mask64 (x + 2 ^ 12 * y) 26 (by omega) (by omega)
  rw [show (((2 ^ 26 - 1 : Nat)) : Int) = 67108863 by decide] at h5
  rw [h5, ← h4]
  congr 1
  omega
theorem split_top (b c : Nat) (hb : b < 18446744073709551616) (hc : c < 4) : bits BinOp.or IntKind.u64 ((b : Int) / 1099511627776) ((c : Int) * 16777216) = ((b / 1099511627776 + c * 16777216 : Nat) : Int) := by
  have h1 : b / 1099511627776 < 16777216 := Nat.div_lt_of_lt_mul (by omega)
  have e1 : (b : Int) / 1099511627776 = ((b / 1099511627776 : Nat) : Int) := by rw [Int.natCast_ediv]; rfl
  generalize b / 1099511627776 = x at h1 e1 ⊢
  have e2 : (c : Int) * 16777216 = ((2 ^ 24 * c : Nat) : Int) := by omega
  rw [e1, e2, u64_or_nat _ _ (by omega) (by omega), or_low c x 24 h1]
  congr 1
  omega
theorem mask26 (a : Nat) (ha : a < 18446744073709551616) : bits BinOp.and IntKind.u64 (a : Int) 67108863 = ((a % 67108864 : Nat) : Int) := by
  have h := and_mask64 a 26 ha (by omega)
  rwa [show (((2 ^ 26 - 1 : Nat)) : Int) = 67108863 by decide, show (2 : Nat) ^ 26 = 67108864 by decide] at h
theorem five_lv (d0 d1 d2 d3 d4 : Nat) : ([d0, d1, d2, d3, d4].map lv).toArray = #[.int .u64 (d0 : Int), .int .u64 (d1 : Int), .int .u64 (d2 : Int), .int .u64 (d3 : Int), .int .u64 (d4 : Int)] := rfl

set_option maxRecDepth 100000 in
set_option maxHeartbeats 2000000 in
theorem split_any (a b c : Nat) (ha : a < 18446744073709551616) (hb : b < 18446744073709551616) (hc : c < 4) (w : World) :
    Calls Try.prog 59 #[.int .u64 a, .int .u64 b, .int .u64 c] w fun e w' => e = .returned (.agg ((splitN a b c).map lv).toArray) ∧ Below w.heap.size w w' := by
  have k0 := mask26 a ha
  have k1 := mask26 (a / 67108864) (by omega)
  rw [Int.natCast_ediv, show ((67108864 : Nat) : Int) = 67108864 from rfl] at k1
  have k2 := split_mid a b ha hb
  have k3 := mask26 (b / 16384) (by omega)
  rw [Int.natCast_ediv, show ((16384 : Nat) : Int) = 16384 from rfl] at k3
  have k4 := split_top b c hb hc
  rw [← splitN_0 a b c] at k0
  rw [← splitN_1 a b c] at k1
  rw [← splitN_2 a b c] at k2
  rw [← splitN_3 a b c] at k3
  rw [← splitN_4 a b c] at k4
  have hs := splitN_eq a b c
  generalize dg (splitN a b c) 0 = d0 at k0 hs
  generalize dg (splitN a b c) 1 = d1 at k1 hs
  generalize dg (splitN a b c) 2 = d2 at k2 hs
  generalize dg (splitN a b c) 3 = d3 at k3 hs
  generalize dg (splitN a b c) 4 = d4 at k4 hs
  have HS := Lib.hid hs
  have HK := Lib.hid (And.intro k0 (And.intro k1 (And.intro k2 (And.intro k3 k4))))
  clear hs k0 k1 k2 k3 k4
  go_enter Try.func59, Try.ntmps59
  go_upto_region 1 with fail
  go_wp2_with fail
  rw [HK.out.1, HK.out.2.1, HK.out.2.2.1, HK.out.2.2.2.1, HK.out.2.2.2.2]
  rw [HS.out]
  have hb9 := Blk.new w 76 ([d0, d1, d2, d3, d4].map lv)
  have hb8 : Below w.heap.size w (w.alloc (.cells ([d0, d1, d2, d3, d4].map lv).toArray 76)) := (Below.refl _ _).alloc (Nat.le_refl _) _
  exact bodyPost_ret (results_blk rfl _ _ w.heap.size 76 ([d0, d1, d2, d3, d4].map lv) 5 51 rfl hb9 Try.underlying76 (cells5 _ rfl)) rfl ⟨rfl, hb8⟩

theorem join_or (x y z : Nat) (hx : x ≤ 67108863) (hy : y ≤ 67108863) (_hz : z ≤ 67108863) :
    bits BinOp.or IntKind.u64 (bits BinOp.or IntKind.u64 (x : Int) (IntKind.u64.wrap ((y : Int) * 67108864))) (IntKind.u64.wrap ((z : Int) * 4503599627370496)) = ((x + y * 67108864 + z % 4096 * 4503599627370496 : Nat) : Int) := by
  have e1 : IntKind.u64.wrap ((y : Int) * 67108864) = ((2 ^ 26 * y : Nat) : Int) := by rw [IntKind.wrap_u64]; omega
  have h2 : z % 4096 < 4096 := Nat.mod_lt _ (by omega)
  have e2 : IntKind.u64.wrap ((z : Int) * 4503599627370496) = ((2 ^ 52 * (z % 4096) : Nat) : Int) := by rw [IntKind.wrap_u64]; omega
  generalize z % 4096 = t at h2 e2 ⊢
  rw [e1, e2, u64_or_nat _ _ (by omega) (by omega), or_low y x 26 (by omega), u64_or_nat _ _ (by omega) (by omega), or_low t (x + 2 ^ 26 * y) 52 (by omega)]
  congr 1
  omega
theorem join_or' (x y z : Nat) (hx : x ≤ 67108863) (hy : y ≤ 67108863) (_hz : z ≤ 67108863) :
    bits BinOp.or IntKind.u64 (bits BinOp.or IntKind.u64 ((x : Int) / 4096) (IntKind.u64.wrap ((y : Int) * 16384))) (IntKind.u64.wrap ((z : Int) * 1099511627776)) = ((x / 4096 + y * 16384 + z % 16777216 * 1099511627776 : Nat) : Int) := by
  have h1 : x / 4096 < 16384 := by omega
  have e0 : (x : Int) / 4096 = ((x / 4096 : Nat) : Int) := by rw [Int.natCast_ediv]; rfl
  generalize x / 4096 = u at h1 e0 ⊢
  have e1 : IntKind.u64.wrap ((y : Int) * 16384) = ((2 ^ 14 * y : Nat) : Int) := by rw [IntKind.wrap_u64]; omega
  have h2 : z % 16777216 < 16777216 := Nat.mod_lt _ (by omega)
  have e2 : IntKind.u64.wrap ((z : Int) * 1099511627776) = ((2 ^ 40 * (z % 16777216) : Nat) : Int) := by rw [IntKind.wrap_u64]; omega
  generalize z % 16777216 = t at h2 e2 ⊢
  rw [e0, e1, e2, u64_or_nat _ _ (by omega) (by omega), or_low y u 14 (by omega), u64_or_nat _ _ (by omega) (by omega), or_low t (u + 2 ^ 14 * y) 40 (by omega)]
  congr 1
  omega

set_option maxRecDepth 100000 in
set_option maxHeartbeats 2000000 in
theorem join_any (l : List Nat) (hl : l.length = 5) (hd : ∀ i, dg l i ≤ 67108863) (w : World) :
    Calls Try.prog 61 #[.agg (l.map lv).toArray] w fun e w' => e = .returned (.tuple #[.int .u64 (joinL l : Int), .int .u64 (joinH l : Int)]) ∧ Below w.heap.size w w' := by
  have h1 := hd 0
  have h2 := hd 1
  have h3 := hd 2
  have h4 := hd 3
  have h5 := hd 4
  have k0 := join_or (dg l 0) (dg l 1) (dg l 2) h1 h2 h3
  have k1 := join_or' (dg l 2) (dg l 3) (dg l 4) h3 h4 h5
  rw [show dg l 0 + dg l 1 * 67108864 + dg l 2 % 4096 * 4503599627370496 = joinL l by unfold joinL; simp only []] at k0
  rw [show dg l 2 / 4096 + dg l 3 * 16384 + dg l 4 % 16777216 * 1099511627776 = joinH l by unfold joinH; simp only []] at k1
  obtain ⟨cl, hcl⟩ : ∃ cl, (l.map lv).toArray = cl := ⟨_, rfl⟩
  rw [hcl]
  have hb0 : Blk (w.alloc (.cells cl 76)) w.heap.size 76 (l.map lv) := by rw [← hcl]; exact Blk.new w _ _
  have f0 := hb0.lim 0 (by omega)
  have f1 := hb0.lim 1 (by omega)
  have f2 := hb0.lim 2 (by omega)
  have f3 := hb0.lim 3 (by omega)
  have f4 := hb0.lim 4 (by omega)
  have hB := Lib.hid ((Below.refl w.heap.size w).alloc (Nat.le_refl _) (.cells cl 76))
  generalize joinL l = jl at k0 ⊢
  generalize joinH l = jh at k1 ⊢
  generalize dg l 0 = d0 at k0 f0
  generalize dg l 1 = d1 at k0 f1
  generalize dg l 2 = d2 at k0 k1 f2
  generalize dg l 3 = d3 at k1 f3
  generalize dg l 4 = d4 at k1 f4
  have HK := Lib.hid (And.intro k0 k1)
  clear k0 k1 h1 h2 h3 h4 h5 hb0 hcl hd hl
  go_enter Try.func61, Try.ntmps61
  go_upto_region 1 with fail
  generalize (w.alloc (.cells cl 76)) = w1 at f0 f1 f2 f3 f4 hB ⊢
  go_wp2_with fail
  simp only [HK.out.1, HK.out.2]
  exact bodyPost_ret (results_tmp2 rfl _ _ _) rfl ⟨rfl, hB.out⟩

theorem prod_bound (x y : List Nat) (hx : ∀ i, dg x i ≤ 268435455) (hy : ∀ i, dg y i ≤ 67108863) (n : Nat) (hn : n < 5) (m : Nat) (hm : m ≤ 5) (k : Nat) : dg (terms x y (prod x y n) n m) k ≤ 2251799771742208125 := by
  have h1 := terms_le x y (prod x y n) _ _ _ hx hy n hn (prod_length x y n) (prod_le x y _ _ hx hy n (by omega)) m hm k
  have h2 : n * (5 * (5 * (268435455 * 67108863))) ≤ 4 * (5 * (5 * (268435455 * 67108863))) := Nat.mul_le_mul_right _ (by omega)
  have h3 : m * (5 * (268435455 * 67108863)) ≤ 5 * (5 * (268435455 * 67108863)) := Nat.mul_le_mul_right _ hm
  omega
theorem carry1_le (x y : List Nat) (hx : ∀ i, dg x i ≤ 268435455) (hy : ∀ i, dg y i ≤ 67108863) (k : Nat) : dg (carryN (prod x y 5)) k ≤ 4611686018427387904 := by
  have h1 := carryN_digit _ (prod_length x y 5) k
  have h2 := prod_val_lt x y hx hy
  have h3 : val5 (prod x y 5) / 1361129467683753853853498429727072845824 < 68719476736 := Nat.div_lt_of_lt_mul (by omega)
  split at h1 <;> omega

set_option maxRecDepth 100000 in
set_option maxHeartbeats 2000000 in
theorem multiply_any (x y : List Nat) (hxl : x.length = 5) (hx : ∀ i, dg x i ≤ 268435455) (hyl : y.length = 5) (hy : ∀ i, dg y i ≤ 67108863) (w : World) :
    Calls Try.prog 51 #[.agg (x.map lv).toArray, .agg (y.map lv).toArray] w fun e w' => e = .returned (.agg ((mulN x y).map lv).toArray) ∧ Below w.heap.size w w' := by
  obtain ⟨cx, hcx⟩ : ∃ cx, (x.map lv).toArray = cx := ⟨_, rfl⟩
  obtain ⟨cy, hcy⟩ : ∃ cy, (y.map lv).toArray = cy := ⟨_, rfl⟩
  rw [hcx, hcy]
  have HB0 := Lib.hid (show Blk (w.alloc (.cells cx 76)) w.heap.size 76 (x.map lv) by rw [← hcx]; exact Blk.new w _ _)
  have HB1 := Lib.hid (show Blk ((w.alloc (.cells cx 76)).alloc (.cells cy 76)) (w.heap.size + 1) 76 (y.map lv) by rw [← hcy]; exact Blk.new' _ (by simp) _ _)
  have HX := Lib.hid (And.intro hxl hx)
  have HY := Lib.hid (And.intro hyl hy)
  clear hx hy hxl hyl
  go_enter Try.func51, Try.ntmps51
  go_upto_region 2 with fail
  have h1 := ((HB0.out.alloc (.cells cy 76)).alloc (.cells z5.toArray 76)).alloc (.cells z5.toArray 76)
  have h2 := (HB1.out.alloc (.cells z5.toArray 76)).alloc (.cells z5.toArray 76)
  have h3 : Blk ((((w.alloc (.cells cx 76)).alloc (.cells cy 76)).alloc (.cells z5.toArray 76)).alloc (.cells z5.toArray 76)) (w.heap.size + 2) 76 z5 := (Blk.new' ((w.alloc (.cells cx 76)).alloc (.cells cy 76)) (by simp) 76 z5).alloc _
  have h5 : Blk ((((w.alloc (.cells cx 76)).alloc (.cells cy 76)).alloc (.cells z5.toArray 76)).alloc (.cells z5.toArray 76)) (w.heap.size + 3) 76 z5 := Blk.new' _ (by simp) _ _
  have h4 : Below w.heap.size w ((((w.alloc (.cells cx 76)).alloc (.cells cy 76)).alloc (.cells z5.toArray 76)).alloc (.cells z5.toArray 76)) := ((((Below.refl _ _).alloc (Nat.le_refl _) _).alloc (by simp) _).alloc (by simp; omega) _).alloc (by simp; omega) _
  rw [z5_arr] at h1 h2 h3 h4 h5
  clear HB0 HB1 hcx hcy
  generalize ((((w.alloc (.cells cx 76)).alloc (.cells cy 76)).alloc (.cells #[.int .u64 0, .int .u64 0, .int .u64 0, .int .u64 0, .int .u64 0] 76)).alloc (.cells #[.int .u64 0, .int .u64 0, .int .u64 0, .int .u64 0, .int .u64 0] 76)) = w1 at h1 h2 h3 h4 h5 ⊢
  rw [show w.heap.size + 1 + 1 = w.heap.size + 2 from rfl, show w.heap.size + 2 + 1 = w.heap.size + 3 from rfl]
  have H1 := Lib.hid (And.intro h1 (And.intro h2 (And.intro h3 (And.intro h5 h4))))
  clear h1 h2 h3 h4 h5
  go_wp2_with fail
  go_loopw [8, 6, 7, 11] (fun v _ _ _ wr => ∃ n : Nat, n ≤ 5 ∧ v = .int .i64 (n : Int) ∧ Blk wr w.heap.size 76 (x.map lv) ∧ Blk wr (w.heap.size + 1) 76 (y.map lv) ∧ Blk wr (w.heap.size + 2) 76 z5 ∧ Blk wr (w.heap.size + 3) 76 ((prod x y n).map lv) ∧ Below w.heap.size w wr) (fun v _ _ _ _ => 5 - (intOf v).toNat)
  case atStart => exact ⟨0, by omega, rfl, H1.out.1, H1.out.2.1, H1.out.2.2.1, H1.out.2.2.2.1, H1.out.2.2.2.2⟩
  case round =>
    clear H1
    obtain ⟨n, hn, rfl, ha, hb, hz, hr, hbel⟩ := hrel
    have HH := Lib.hid (And.intro ha (And.intro hb (And.intro hz (And.intro hr hbel))))
    clear ha hb hz hr hbel
    by_cases hnl : n < 5
    · have d5 : decide ((n : Int) < 5) = true := by simp; omega
      go_upto_region 6 with fail
      go_loopw [11, 7] (fun v _ wr => ∃ m : Nat, m ≤ 5 ∧ v = .int .i64 (m : Int) ∧ Blk wr w.heap.size 76 (x.map lv) ∧ Blk wr (w.heap.size + 1) 76 (y.map lv) ∧ Blk wr (w.heap.size + 2) 76 z5 ∧ Blk wr (w.heap.size + 3) 76 ((terms x y (prod x y n) n m).map lv) ∧ Below w.heap.size w wr) (fun v _ _ => 5 - (intOf v).toNat)
      case atStart => exact ⟨0, by omega, rfl, HH.out.1, HH.out.2.1, HH.out.2.2.1, HH.out.2.2.2.1, HH.out.2.2.2.2⟩
      case round =>
        clear HH
        obtain ⟨m, hm, rfl, hx0, hy0, hz, hr, hbel⟩ := hrel
        have HH := Lib.hid (And.intro hx0 (And.intro hy0 (And.intro hz (And.intro hr hbel))))
        by_cases hml : m < 5
        · have dn : decide ((m : Int) < 5) = true := by simp; omega
          have fx := hx0.lim n (by rw [HX.out.1]; omega)
          have fy := hy0.lim m (by rw [HY.out.1]; omega)
          have hx := HX.out.2 n
          have hy := HY.out.2 m
          have hrl : (terms x y (prod x y n) n m).length = 5 := by rw [terms_length, prod_length]
          have hB := fun k => prod_bound x y HX.out.2 HY.out.2 n hnl m hm k
          by_cases hnm : n + m < 5
          · have dl : decide ((n : Int) + (m : Int) < 5) = true := by simp; omega
            obtain ⟨t, ht⟩ : ∃ t, n + m = t := ⟨_, rfl⟩
            have hsw1 : IntKind.i64.wrap ((n : Int) + (m : Int)) = (n : Int) + (m : Int) := IntWalk.i64_in _ (by omega)
            have hsb : (n : Int) + (m : Int) = (t : Int) := by omega
            have bt : (t : Int) < 5 := by omega
            have ft := hr.lim t (by omega)
            have zt := hr.frozen t
            have hp := hB t
            have htm : terms x y (prod x y n) n (m + 1) = (terms x y (prod x y n) n m).set t (dg (terms x y (prod x y n) n m) t + dg x n * dg y m) := by
              rw [← ht]
              show term x y _ n m = _
              unfold term
              rw [if_pos hnm]
            generalize hPP : dg (terms x y (prod x y n) n m) t = e at hp ft htm
            generalize dg x n = a at fx hx htm
            generalize dg y m = b at fy hy htm
            have hmul := Nat.mul_le_mul hx hy
            obtain ⟨p, hpq⟩ : ∃ p, a * b = p := ⟨_, rfl⟩
            rw [hpq] at hmul htm
            have hp1 : (a : Int) * (b : Int) = (p : Int) := by rw [← hpq, Int.natCast_mul]
            have hp2 : IntKind.u64.wrap ((a : Int) * (b : Int)) = (p : Int) := by rw [hp1, IntKind.wrap_u64]; omega
            have hp3 : ((a : Int) * (b : Int)) % 18446744073709551616 = (p : Int) := by rw [hp1]; omega
            obtain ⟨s, hs⟩ : ∃ s, e + p = s := ⟨_, rfl⟩
            rw [hs] at htm
            have hs1 : IntKind.u64.wrap ((e : Int) + (p : Int)) = (s : Int) := by rw [IntKind.wrap_u64]; omega
            have hs2 : ((e : Int) + (p : Int)) % 18446744073709551616 = (s : Int) := by omega
            have HNX := Lib.hid htm
            clear hx0 hy0 hz hr hbel htm hs hpq hp1 hmul hx hy hp hPP ht hB 
            go_upto_region 9 with fail
            clear dn dl
            go_region
            (try simp only [hp2, hp3, hs1, hs2])
            clear fx fy ft zt hsw1 hsb bt hp2 hp3 hs1 hs2 
            go_wp2_with fail
            go_roundw
            case rel =>
              refine ⟨m + 1, by omega, by go_num, HH.out.1.drew.far (by simp) _, HH.out.2.1.drew.far (by simp) _, HH.out.2.2.1.drew.far (by simp) _, ?_, HH.out.2.2.2.2.drew.setCell (by dsimp only; omega) _⟩
              rw [HNX.out]
              exact HH.out.2.2.2.1.drew.setLim t s
            case measure => simp [intOf]; omega
          · have dl : decide ((n : Int) + (m : Int) < 5) = false := by simp; omega
            obtain ⟨t, ht⟩ : ∃ t, n + m - 5 = t := ⟨_, rfl⟩
            have hsw1 : IntKind.i64.wrap ((n : Int) + (m : Int)) = (n : Int) + (m : Int) := IntWalk.i64_in _ (by omega)
            have hsb : (n : Int) + (m : Int) - 5 = (t : Int) := by omega
            have hsw : IntKind.i64.wrap ((n : Int) + (m : Int) - 5) = (t : Int) := by rw [hsb]; exact IntWalk.i64_in _ (by omega)
            have bt : (t : Int) < 5 := by omega
            have ft := hr.lim t (by omega)
            have zt := hr.frozen t
            have hp := hB t
            have htm : terms x y (prod x y n) n (m + 1) = (terms x y (prod x y n) n m).set t (dg (terms x y (prod x y n) n m) t + 5 * dg x n * dg y m) := by
              rw [← ht]
              show term x y _ n m = _
              unfold term
              rw [if_neg hnm]
            generalize hPP : dg (terms x y (prod x y n) n m) t = e at hp ft htm
            generalize dg x n = a at fx hx htm
            generalize dg y m = b at fy hy htm
            have hmul := Nat.mul_le_mul hx hy
            obtain ⟨c, hcq⟩ : ∃ c, 5 * a = c := ⟨_, rfl⟩
            have hmul := Nat.mul_le_mul (show c ≤ 1342177275 by omega) hy
            obtain ⟨p, hpq⟩ : ∃ p, c * b = p := ⟨_, rfl⟩
            rw [hcq, hpq] at htm
            rw [hpq] at hmul
            have hc2 : IntKind.u64.wrap (5 * (a : Int)) = (c : Int) := by rw [IntKind.wrap_u64]; omega
            have hc3 : (5 * (a : Int)) % 18446744073709551616 = (c : Int) := by omega
            have hp1 : (c : Int) * (b : Int) = (p : Int) := by rw [← hpq, Int.natCast_mul]
            have hp2 : IntKind.u64.wrap ((c : Int) * (b : Int)) = (p : Int) := by rw [hp1, IntKind.wrap_u64]; omega
            have hp3 : ((c : Int) * (b : Int)) % 18446744073709551616 = (p : Int) := by rw [hp1]; omega
            obtain ⟨s, hs⟩ : ∃ s, e + p = s := ⟨_, rfl⟩
            rw [hs] at htm
            have hs1 : IntKind.u64.wrap ((e : Int) + (p : Int)) = (s : Int) := by rw [IntKind.wrap_u64]; omega
            have hs2 : ((e : Int) + (p : Int)) % 18446744073709551616 = (s : Int) := by omega
            have HNX := Lib.hid htm
            clear hx0 hy0 hz hr hbel htm hs hpq hp1 hmul hx hy hp hPP ht hB hcq
            go_upto_region 10 with fail
            clear dn dl
            go_region
            (try simp only [hc2, hc3, hp2, hp3, hs1, hs2])
            clear fx fy ft zt hsw1 hsb bt hp2 hp3 hs1 hs2 hsw hc2 hc3
            go_wp2_with fail
            go_roundw
            case rel =>
              refine ⟨m + 1, by omega, by go_num, HH.out.1.drew.far (by simp) _, HH.out.2.1.drew.far (by simp) _, HH.out.2.2.1.drew.far (by simp) _, ?_, HH.out.2.2.2.2.drew.setCell (by dsimp only; omega) _⟩
              rw [HNX.out]
              exact HH.out.2.2.2.1.drew.setLim t s
            case measure => simp [intOf]; omega
        · obtain rfl : m = 5 := by omega
          clear hx0 hy0 hz hr hbel
          rw [show ((5 : Nat) : Int) = 5 from rfl]
          go_wp2_with fail
          go_roundw
          case rel => exact ⟨n + 1, by omega, by go_num, HH.out.1, HH.out.2.1, HH.out.2.2.1, HH.out.2.2.2.1, HH.out.2.2.2.2⟩
          case measure => simp [intOf]; omega
    · obtain rfl : n = 5 := by omega
      have C1 := carry_any (prod x y 5) (prod_length x y 5) (fun k => by have := prod_le x y _ _ HX.out.2 HY.out.2 5 (by omega) k; omega)
      have C2 := carry_any (carryN (prod x y 5)) (by rw [carryN_length, prod_length]) (fun k => carry1_le x y HX.out.2 HY.out.2 k)
      have hlz := mulN_length x y
      rw [show carryN (carryN (prod x y 5)) = mulN x y from rfl] at C2
      have hpl := prod_length x y 5
      have hr := HH.out.2.2.2.1
      obtain ⟨lz, hz⟩ : ∃ lz, mulN x y = lz := ⟨_, rfl⟩
      rw [hz] at C2 hlz
      have HZ := Lib.hid hz
      clear hz
      obtain ⟨cp, hcp⟩ : ∃ cp, ((prod x y 5).map lv).toArray = cp := ⟨_, rfl⟩
      obtain ⟨c1, hc1⟩ : ∃ c1, ((carryN (prod x y 5)).map lv).toArray = c1 := ⟨_, rfl⟩
      obtain ⟨cz, hcz⟩ : ∃ cz, (lz.map lv).toArray = cz := ⟨_, rfl⟩
      rw [hcp, hc1] at C1
      rw [hc1, hcz] at C2
      generalize prod x y 5 = lp at hr hcp hpl HH
      have HC := Lib.hid (And.intro C1 C2)
      have HL := Lib.hid (And.intro hcp (And.intro hcz (And.intro hpl hlz)))
      have HB := Lib.hid (And.intro hr (And.intro HH.out.2.2.1 HH.out.2.2.2.2))
      clear C1 C2 hlz hpl hr hcp hc1 hcz HH
      rw [show ((5 : Nat) : Int) = 5 from rfl]
      go_wp2_with (refine wpList_load_blk rfl 76 (.tmp 5) rfl (w.heap.size + 3) rfl 76 (lp.map lv) HB.out.1 5 51 Try.underlying76 (cells5 lp HL.out.2.2.1) ?_; rw [HL.out.1])
      refine (HC.out.1 _).mono ?_
      rintro e w4 ⟨rfl, hb4⟩
      have HB4 := Lib.hid (And.intro (HB.out.2.1.below hb4 HB.out.2.1.lt) (HB.out.2.2.trans (hb4.mono HB.out.2.2.size)))
      clear hb4 HB
      go_wp2_with fail
      refine (HC.out.2 _).mono ?_
      rintro e w5 ⟨rfl, hb5⟩
      have HB5 := Lib.hid (And.intro (HB4.out.1.below hb5 HB4.out.1.lt) (HB4.out.2.trans (hb5.mono HB4.out.2.size)))
      clear hb5 HB4
      go_wp2_with (refine wpList_store_blk rfl 76 (.tmp 4) (.tmp 52) rfl (w.heap.size + 2) (lz.map lv) rfl (by show Value.agg cz = _; rw [HL.out.2.1]) 76 z5 HB5.out.1 (cells5 lz HL.out.2.2.2) (by rw [List.length_map, HL.out.2.2.2]; rfl) (lv_one _) ?_; intro w9 hb9 hg9)
      exact bodyPost_ret (results_blk rfl _ _ (w.heap.size + 2) 76 (lz.map lv) 5 51 rfl hb9 Try.underlying76 (cells5 lz HL.out.2.2.2)) rfl ⟨by rw [HZ.out], below_blk HB5.out.2 hg9 (by omega)⟩
end Go.Proofs.Ytkbefhmgcodpaaa
