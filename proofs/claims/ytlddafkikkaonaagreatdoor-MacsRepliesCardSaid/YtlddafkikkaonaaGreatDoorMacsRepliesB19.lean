/-
  The contract of the program's sum of two numbers of five limbs. The contracts of the program's split and join. The contract of the program's product of two numbers of five limbs. The contracts of the program's factor and numberOf. The contracts of bits.Add64 and bits.Sub64 off the library's shelf, at this translation's numbers. The contract of the program's finish: the remainder, the second half of the key, the bytes. The contract of the program's numberOf: the number of a piece and its byte 1. What the laws of layer 3 and the layers above ask of poly.Sum. poly.Sum gives the authenticator: what the laws of layer 3 ask of it. No statement is proved here.
-/
import Derived.Shelf.Spec.BitsCarry
import Derived.Test.YtlddafkikkaonaaGreatDoorProg
import Derived.Lib.SlBytesConst
import Derived.Test.YtlddafkikkaonaaGreatDoorMacsRepliesB18
namespace Go.Proofs.YtlddafkikkaonaaGreatDoor
open Go.RowKit
set_option maxRecDepth 100000 in
set_option maxHeartbeats 2000000 in
theorem add_any (x y : List Nat) (hx : x.length = 5 ∧ ∀ i, dg x i ≤ 4611686018427387904) (hy : y.length = 5 ∧ ∀ i, dg y i ≤ 4611686018427387904) (w : World) :
 Calls Tryz.prog 88 #[.agg (x.map lv).toArray, .agg (y.map lv).toArray] w fun e w' => e = .returned (.agg ((addS x y 5).map lv).toArray) ∧ Below w.heap.size w w' := by
 obtain ⟨cx, hcx⟩ : ∃ cx, (x.map lv).toArray = cx := ⟨_, rfl⟩
 obtain ⟨cy, hcy⟩ : ∃ cy, (y.map lv).toArray = cy := ⟨_, rfl⟩
 rw [hcx, hcy]
 have HB0 := Lib.hid (show Blk (w.alloc (.cells cx 116)) w.heap.size 116 (x.map lv) by rw [← hcx]; exact Blk.new w _ _)
 have HB1 := Lib.hid (show Blk ((w.alloc (.cells cx 116)).alloc (.cells cy 116)) (w.heap.size + 1) 116 (y.map lv) by rw [← hcy]; exact Blk.new' _ (by simp) _ _)
 have HX := Lib.hid hx
 have HY := Lib.hid hy
 clear hx hy
 go_enter Tryz.func88, Tryz.ntmps88
 go_upto_region 1 with fail
 have h0 := (HB0.out.alloc (.cells cy 116)).alloc (.cells z5.toArray 116)
 have h1 := HB1.out.alloc (.cells z5.toArray 116)
 have h2 : Blk (((w.alloc (.cells cx 116)).alloc (.cells cy 116)).alloc (.cells z5.toArray 116)) (w.heap.size + 2) 116 z5 := Blk.new' _ (by simp) _ _
 have h3 : Below w.heap.size w (((w.alloc (.cells cx 116)).alloc (.cells cy 116)).alloc (.cells z5.toArray 116)) := (((Below.refl _ _).alloc (Nat.le_refl _) _).alloc (by simp) _).alloc (by simp; omega) _
 rw [z5_arr] at h0 h1 h2 h3
 have hsz : (((w.alloc (.cells cx 116)).alloc (.cells cy 116)).alloc (.cells #[.int .u64 0, .int .u64 0, .int .u64 0, .int .u64 0, .int .u64 0] 116)).heap.size = w.heap.size + 3 := by simp
 clear HB0 HB1
 have HC := Lib.hid (And.intro hcx hcy)
 clear hcx hcy
 generalize (((w.alloc (.cells cx 116)).alloc (.cells cy 116)).alloc (.cells #[.int .u64 0, .int .u64 0, .int .u64 0, .int .u64 0, .int .u64 0] 116)) = w1 at h0 h1 h2 h3 hsz ⊢
 rw [show w.heap.size + 1 + 1 = w.heap.size + 2 from rfl]
 have H1 := Lib.hid (And.intro h0 (And.intro h1 (And.intro h2 (And.intro h3 hsz))))
 clear h0 h1 h2 h3 hsz
 go_upto_region 2 with (first | (refine wpList_load_blk rfl 116 (.tmp 2) rfl w.heap.size rfl 116 (x.map lv) H1.out.1 5 81 Tryz.underlying116 (cells5 x HX.out.1) ?_; rw [HC.out.1]) | (refine wpList_store_blk rfl 116 (.tmp 5) (.tmp 7) rfl w1.heap.size (x.map lv) rfl (by show Value.agg cx = _; rw [HC.out.1]) 116 z5 (Blk.new w1 116 z5) (cells5 x HX.out.1) (by rw [List.length_map, HX.out.1]; rfl) (lv_one _) ?_; intro w2 hb2 hg2))
 simp only [Act.put]
 have e2 := H1.out.2.2.2.2
 have hk1 := (H1.out.2.1.alloc (.cells z5.toArray 116)).grown hg2 (fun e => by injection e; omega)
 have hk2 := (H1.out.2.2.1.alloc (.cells z5.toArray 116)).grown hg2 (fun e => by injection e; omega)
 have hk3 : Below w.heap.size w w2 := below_blk (H1.out.2.2.2.1.alloc (by omega) (.cells z5.toArray 116)) hg2 (by omega)
 rw [e2] at hb2 ⊢
 have H2 := Lib.hid (And.intro hb2 (And.intro hk1 (And.intro hk2 hk3)))
 clear hb2 hk1 hk2 hk3 hg2 e2 H1
 go_wp2_with fail
 go_loopw [8, 6] (fun i _ wr => ∃ n : Nat, n ≤ 5 ∧ i = .int .i64 (n : Int) ∧ Blk wr (w.heap.size + 3) 116 ((addS x y n).map lv) ∧ Blk wr (w.heap.size + 1) 116 (y.map lv) ∧ Blk wr (w.heap.size + 2) 116 z5 ∧ Below w.heap.size w wr) (fun i _ _ => 5 - (intOf i).toNat)
 case atStart => exact ⟨0, by omega, rfl, H2.out.1, H2.out.2.1, H2.out.2.2.1, H2.out.2.2.2⟩
 case round =>
  clear H2
  obtain ⟨n, hn, rfl, hblk, hyb, hz, hbel⟩ := hrel
  by_cases hln : n < 5
  ·
   have d5 : decide ((n : Int) < 5) = true := by simp; omega
   have hlen : (addS x y n).length = 5 := by rw [addS_length]; exact HX.out.1
   have fx := hblk.lim n (by omega)
   have fy := hyb.lim n (by rw [HY.out.1]; omega)
   have zx := hblk.frozen n
   have hd : dg (addS x y n) n ≤ 4611686018427387904 := by rw [addS_dg x y HX.out.1 n n (by omega), if_neg (by omega)]; exact HX.out.2 n
   have hg := HY.out.2 n
   have hnx : addS x y (n + 1) = (addS x y n).set n (dg (addS x y n) n + dg y n) := rfl
   generalize hdd : dg (addS x y n) n = d at fx hd hnx
   generalize dg y n = g at fy hg hnx
   obtain ⟨s, hs⟩ : ∃ s, d + g = s := ⟨_, rfl⟩
   have hs1 : IntKind.u64.wrap ((d : Int) + (g : Int)) = (s : Int) := by rw [IntKind.wrap_u64]; omega
   have hs2 : ((d : Int) + (g : Int)) % 18446744073709551616 = (s : Int) := by omega
   rw [hs] at hnx
   have HNX := Lib.hid hnx
   have HB := Lib.hid (And.intro hblk (And.intro hyb (And.intro hz hbel)))
   clear hnx hblk hyb hz hbel hdd hlen hs hd hg
   go_upto_region 5 with fail
   go_region
   (try simp only [hs1, hs2])
   clear fx fy zx hs1 hs2
   go_wp2_with fail
   go_roundw
   case rel =>
    refine ⟨n + 1, by omega, by go_num, ?_, ?_, ?_, ?_⟩
    ·
     rw [HNX.out]
     exact HB.out.1.drew.setLim n s
    · exact HB.out.2.1.drew.far (by simp) _
    · exact HB.out.2.2.1.drew.far (by simp) _
    · exact HB.out.2.2.2.drew.setCell (by dsimp only; omega) _
   case measure => simp [intOf]; omega
  ·
   obtain rfl : n = 5 := by omega
   obtain ⟨lz, hlz⟩ : ∃ lz, addS x y 5 = lz := ⟨_, rfl⟩
   have HLz := Lib.hid (show lz.length = 5 by rw [← hlz, addS_length]; exact HX.out.1)
   rw [hlz] at hblk
   have HZ := Lib.hid hlz
   have HB := Lib.hid (And.intro hblk (And.intro hz hbel))
   obtain ⟨cz, hcz⟩ : ∃ cz, (lz.map lv).toArray = cz := ⟨_, rfl⟩
   have HCZ := Lib.hid hcz
   clear hblk hz hbel hcz hlz hyb
   rw [show ((5 : Nat) : Int) = 5 from rfl]
   go_wp2_with (first | (refine wpList_load_blk rfl 116 (.tmp 5) rfl (w.heap.size + 3) rfl 116 (lz.map lv) HB.out.1 5 81 Tryz.underlying116 (cells5 lz HLz.out) ?_; rw [HCZ.out]) | (refine wpList_store_blk rfl 116 (.tmp 4) (.tmp 20) rfl (w.heap.size + 2) (lz.map lv) rfl (by show Value.agg cz = _; rw [HCZ.out]) 116 z5 HB.out.2.1 (cells5 lz HLz.out) (by rw [List.length_map, HLz.out]; rfl) (lv_one _) ?_; intro w9 hb9 hg9))
   exact bodyPost_ret (results_blk rfl _ _ (w.heap.size + 2) 116 (lz.map lv) 5 81 rfl hb9 Tryz.underlying116 (cells5 lz HLz.out)) rfl ⟨by rw [HZ.out], below_blk HB.out.2.2 hg9 (by omega)⟩
theorem splitN_eq (a b c : Nat) : splitN a b c = [dg (splitN a b c) 0, dg (splitN a b c) 1, dg (splitN a b c) 2, dg (splitN a b c) 3, dg (splitN a b c) 4] := by
 unfold splitN dg
 simp only [List.getD_cons_zero, List.getD_cons_succ]
theorem split_mid (a b : Nat) (ha : a < 18446744073709551616) (_hb : b < 18446744073709551616) : bits BinOp.and IntKind.u64 (bits BinOp.or IntKind.u64 ((a : Int) / 4503599627370496) (IntKind.u64.wrap ((b : Int) * 4096))) 67108863 = ((a / 4503599627370496 + b % 16384 * 4096 : Nat) : Int) := by
 have h1 : a / 4503599627370496 < 4096 := Nat.div_lt_of_lt_mul (by omega)
 have e1 : (a : Int) / 4503599627370496 = ((a / 4503599627370496 : Nat) : Int) := by rw [Int.natCast_ediv]; rfl
 generalize a / 4503599627370496 = x at h1 e1 ⊢
 have e2 : IntKind.u64.wrap ((b : Int) * 4096) = ((2 ^ 12 * (b % 4503599627370496) : Nat) : Int) := by rw [IntKind.wrap_u64]; omega
 have h3 : b % 4503599627370496 < 4503599627370496 := Nat.mod_lt _ (by omega)
 have h4 : b % 4503599627370496 % 16384 = b % 16384 := Nat.mod_mod_of_dvd b (by decide)
 generalize b % 4503599627370496 = y at h3 h4 e2
 rw [e1, e2, u64_or_nat _ _ (by omega) (by omega), or_low y x 12 h1]
 have h5 := and_mask64 (x + 2 ^ 12 * y) 26 (by omega) (by omega)
 rw [show (((2 ^ 26 - 1 : Nat)) : Int) = 67108863 by decide] at h5
 rw [h5, ← h4]
 congr 1
 omega
theorem split_top (b c : Nat) (hb : b < 18446744073709551616) (hc : c < 4) : bits BinOp.or IntKind.u64 ((b : Int) / 1099511627776) ((c : Int) * 16777216) = ((b / 1099511627776 + c * 16777216 : Nat) : Int) := by
 have h1 : b / 1099511627776 < 16777216 := Nat.div_lt_of_lt_mul (by omega)
 have e1 : (b : Int) / 1099511627776 = ((b / 1099511627776 : Nat) : Int) := by rw [Int.natCast_ediv]; rfl
 generalize b / 1099511627776 = x at h1 e1 ⊢
 have e2 : (c : Int) * 16777216 = ((2 ^ 24 * c : Nat) : Int) := by omega
 rw [e1, e2, u64_or_nat _ _ (by omega) (by omega), or_low c x 24 h1]
 congr 1
 omega
theorem mask26 (a : Nat) (ha : a < 18446744073709551616) : bits BinOp.and IntKind.u64 (a : Int) 67108863 = ((a % 67108864 : Nat) : Int) := by
 have h := and_mask64 a 26 ha (by omega)
 rwa [show (((2 ^ 26 - 1 : Nat)) : Int) = 67108863 by decide, show (2 : Nat) ^ 26 = 67108864 by decide] at h
set_option maxRecDepth 100000 in
set_option maxHeartbeats 2000000 in
theorem split_any (a b c : Nat) (ha : a < 18446744073709551616) (hb : b < 18446744073709551616) (hc : c < 4) (w : World) :
 Calls Tryz.prog 100 #[.int .u64 a, .int .u64 b, .int .u64 c] w fun e w' => e = .returned (.agg ((splitN a b c).map lv).toArray) ∧ Below w.heap.size w w' := by
 have k0 := mask26 a ha
 have k1 := mask26 (a / 67108864) (by omega)
 rw [Int.natCast_ediv, show ((67108864 : Nat) : Int) = 67108864 from rfl] at k1
 have k2 := split_mid a b ha hb
 have k3 := mask26 (b / 16384) (by omega)
 rw [Int.natCast_ediv, show ((16384 : Nat) : Int) = 16384 from rfl] at k3
 have k4 := split_top b c hb hc
 rw [← splitN_0 a b c] at k0
 rw [← splitN_1 a b c] at k1
 rw [← splitN_2 a b c] at k2
 rw [← splitN_3 a b c] at k3
 rw [← splitN_4 a b c] at k4
 have hs := splitN_eq a b c
 generalize dg (splitN a b c) 0 = d0 at k0 hs
 generalize dg (splitN a b c) 1 = d1 at k1 hs
 generalize dg (splitN a b c) 2 = d2 at k2 hs
 generalize dg (splitN a b c) 3 = d3 at k3 hs
 generalize dg (splitN a b c) 4 = d4 at k4 hs
 have HS := Lib.hid hs
 have HK := Lib.hid (And.intro k0 (And.intro k1 (And.intro k2 (And.intro k3 k4))))
 clear hs k0 k1 k2 k3 k4
 go_enter Tryz.func100, Tryz.ntmps100
 go_upto_region 1 with fail
 go_wp2_with fail
 rw [HK.out.1, HK.out.2.1, HK.out.2.2.1, HK.out.2.2.2.1, HK.out.2.2.2.2]
 rw [HS.out]
 have hb9 := Blk.new w 116 ([d0, d1, d2, d3, d4].map lv)
 have hb8 : Below w.heap.size w (w.alloc (.cells ([d0, d1, d2, d3, d4].map lv).toArray 116)) := (Below.refl _ _).alloc (Nat.le_refl _) _
 exact bodyPost_ret (results_blk rfl _ _ w.heap.size 116 ([d0, d1, d2, d3, d4].map lv) 5 81 rfl hb9 Tryz.underlying116 (cells5 _ rfl)) rfl ⟨rfl, hb8⟩
theorem join_or (x y z : Nat) (hx : x ≤ 67108863) (hy : y ≤ 67108863) (_hz : z ≤ 67108863) :
 bits BinOp.or IntKind.u64 (bits BinOp.or IntKind.u64 (x : Int) (IntKind.u64.wrap ((y : Int) * 67108864))) (IntKind.u64.wrap ((z : Int) * 4503599627370496)) = ((x + y * 67108864 + z % 4096 * 4503599627370496 : Nat) : Int) := by
 have e1 : IntKind.u64.wrap ((y : Int) * 67108864) = ((2 ^ 26 * y : Nat) : Int) := by rw [IntKind.wrap_u64]; omega
 have h2 : z % 4096 < 4096 := Nat.mod_lt _ (by omega)
 have e2 : IntKind.u64.wrap ((z : Int) * 4503599627370496) = ((2 ^ 52 * (z % 4096) : Nat) : Int) := by rw [IntKind.wrap_u64]; omega
 generalize z % 4096 = t at h2 e2 ⊢
 rw [e1, e2, u64_or_nat _ _ (by omega) (by omega), or_low y x 26 (by omega), u64_or_nat _ _ (by omega) (by omega), or_low t (x + 2 ^ 26 * y) 52 (by omega)]
 congr 1
 omega
theorem join_or' (x y z : Nat) (hx : x ≤ 67108863) (hy : y ≤ 67108863) (_hz : z ≤ 67108863) :
 bits BinOp.or IntKind.u64 (bits BinOp.or IntKind.u64 ((x : Int) / 4096) (IntKind.u64.wrap ((y : Int) * 16384))) (IntKind.u64.wrap ((z : Int) * 1099511627776)) = ((x / 4096 + y * 16384 + z % 16777216 * 1099511627776 : Nat) : Int) := by
 have h1 : x / 4096 < 16384 := by omega
 have e0 : (x : Int) / 4096 = ((x / 4096 : Nat) : Int) := by rw [Int.natCast_ediv]; rfl
 generalize x / 4096 = u at h1 e0 ⊢
 have e1 : IntKind.u64.wrap ((y : Int) * 16384) = ((2 ^ 14 * y : Nat) : Int) := by rw [IntKind.wrap_u64]; omega
 have h2 : z % 16777216 < 16777216 := Nat.mod_lt _ (by omega)
 have e2 : IntKind.u64.wrap ((z : Int) * 1099511627776) = ((2 ^ 40 * (z % 16777216) : Nat) : Int) := by rw [IntKind.wrap_u64]; omega
 generalize z % 16777216 = t at h2 e2 ⊢
 rw [e0, e1, e2, u64_or_nat _ _ (by omega) (by omega), or_low y u 14 (by omega), u64_or_nat _ _ (by omega) (by omega), or_low t (u + 2 ^ 14 * y) 40 (by omega)]
 congr 1
 omega
set_option maxRecDepth 100000 in
set_option maxHeartbeats 2000000 in
theorem join_any (l : List Nat) (hl : l.length = 5) (hd : ∀ i, dg l i ≤ 67108863) (w : World) :
 Calls Tryz.prog 102 #[.agg (l.map lv).toArray] w fun e w' => e = .returned (.tuple #[.int .u64 (joinL l : Int), .int .u64 (joinH l : Int)]) ∧ Below w.heap.size w w' := by
 have h1 := hd 0
 have h2 := hd 1
 have h3 := hd 2
 have h4 := hd 3
 have h5 := hd 4
 have k0 := join_or (dg l 0) (dg l 1) (dg l 2) h1 h2 h3
 have k1 := join_or' (dg l 2) (dg l 3) (dg l 4) h3 h4 h5
 rw [show dg l 0 + dg l 1 * 67108864 + dg l 2 % 4096 * 4503599627370496 = joinL l by unfold joinL; simp only []] at k0
 rw [show dg l 2 / 4096 + dg l 3 * 16384 + dg l 4 % 16777216 * 1099511627776 = joinH l by unfold joinH; simp only []] at k1
 obtain ⟨cl, hcl⟩ : ∃ cl, (l.map lv).toArray = cl := ⟨_, rfl⟩
 rw [hcl]
 have hb0 : Blk (w.alloc (.cells cl 116)) w.heap.size 116 (l.map lv) := by rw [← hcl]; exact Blk.new w _ _
 have f0 := hb0.lim 0 (by omega)
 have f1 := hb0.lim 1 (by omega)
 have f2 := hb0.lim 2 (by omega)
 have f3 := hb0.lim 3 (by omega)
 have f4 := hb0.lim 4 (by omega)
 have hB := Lib.hid ((Below.refl w.heap.size w).alloc (Nat.le_refl _) (.cells cl 116))
 generalize joinL l = jl at k0 ⊢
 generalize joinH l = jh at k1 ⊢
 generalize dg l 0 = d0 at k0 f0
 generalize dg l 1 = d1 at k0 f1
 generalize dg l 2 = d2 at k0 k1 f2
 generalize dg l 3 = d3 at k1 f3
 generalize dg l 4 = d4 at k1 f4
 have HK := Lib.hid (And.intro k0 k1)
 clear k0 k1 h1 h2 h3 h4 h5 hb0 hcl hd hl
 go_enter Tryz.func102, Tryz.ntmps102
 go_upto_region 1 with fail
 generalize (w.alloc (.cells cl 116)) = w1 at f0 f1 f2 f3 f4 hB ⊢
 go_wp2_with fail
 simp only [HK.out.1, HK.out.2]
 exact bodyPost_ret (results_tmp2 rfl _ _ _) rfl ⟨rfl, hB.out⟩
theorem prod_bound (x y : List Nat) (hx : ∀ i, dg x i ≤ 268435455) (hy : ∀ i, dg y i ≤ 67108863) (n : Nat) (hn : n < 5) (m : Nat) (hm : m ≤ 5) (k : Nat) : dg (terms x y (prod x y n) n m) k ≤ 2251799771742208125 := by
 have h1 := terms_le x y (prod x y n) _ _ _ hx hy n hn (prod_length x y n) (prod_le x y _ _ hx hy n (by omega)) m hm k
 have h2 : n * (5 * (5 * (268435455 * 67108863))) ≤ 4 * (5 * (5 * (268435455 * 67108863))) := Nat.mul_le_mul_right _ (by omega)
 have h3 : m * (5 * (268435455 * 67108863)) ≤ 5 * (5 * (268435455 * 67108863)) := Nat.mul_le_mul_right _ hm
 omega
theorem carry1_le (x y : List Nat) (hx : ∀ i, dg x i ≤ 268435455) (hy : ∀ i, dg y i ≤ 67108863) (k : Nat) : dg (carryN (prod x y 5)) k ≤ 4611686018427387904 := by
 have h1 := carryN_digit _ (prod_length x y 5) k
 have h2 := prod_val_lt x y hx hy
 have h3 : val5 (prod x y 5) / 1361129467683753853853498429727072845824 < 68719476736 := Nat.div_lt_of_lt_mul (by omega)
 split at h1 <;> omega
set_option maxRecDepth 100000 in
set_option maxHeartbeats 2000000 in
theorem multiply_any (x y : List Nat) (hxl : x.length = 5) (hx : ∀ i, dg x i ≤ 268435455) (hyl : y.length = 5) (hy : ∀ i, dg y i ≤ 67108863) (w : World) :
 Calls Tryz.prog 87 #[.agg (x.map lv).toArray, .agg (y.map lv).toArray] w fun e w' => e = .returned (.agg ((mulN x y).map lv).toArray) ∧ Below w.heap.size w w' := by
 obtain ⟨cx, hcx⟩ : ∃ cx, (x.map lv).toArray = cx := ⟨_, rfl⟩
 obtain ⟨cy, hcy⟩ : ∃ cy, (y.map lv).toArray = cy := ⟨_, rfl⟩
 rw [hcx, hcy]
 have HB0 := Lib.hid (show Blk (w.alloc (.cells cx 116)) w.heap.size 116 (x.map lv) by rw [← hcx]; exact Blk.new w _ _)
 have HB1 := Lib.hid (show Blk ((w.alloc (.cells cx 116)).alloc (.cells cy 116)) (w.heap.size + 1) 116 (y.map lv) by rw [← hcy]; exact Blk.new' _ (by simp) _ _)
 have HX := Lib.hid (And.intro hxl hx)
 have HY := Lib.hid (And.intro hyl hy)
 clear hx hy hxl hyl
 go_enter Tryz.func87, Tryz.ntmps87
 go_upto_region 2 with fail
 have h1 := ((HB0.out.alloc (.cells cy 116)).alloc (.cells z5.toArray 116)).alloc (.cells z5.toArray 116)
 have h2 := (HB1.out.alloc (.cells z5.toArray 116)).alloc (.cells z5.toArray 116)
 have h3 : Blk ((((w.alloc (.cells cx 116)).alloc (.cells cy 116)).alloc (.cells z5.toArray 116)).alloc (.cells z5.toArray 116)) (w.heap.size + 2) 116 z5 := (Blk.new' ((w.alloc (.cells cx 116)).alloc (.cells cy 116)) (by simp) 116 z5).alloc _
 have h5 : Blk ((((w.alloc (.cells cx 116)).alloc (.cells cy 116)).alloc (.cells z5.toArray 116)).alloc (.cells z5.toArray 116)) (w.heap.size + 3) 116 z5 := Blk.new' _ (by simp) _ _
 have h4 : Below w.heap.size w ((((w.alloc (.cells cx 116)).alloc (.cells cy 116)).alloc (.cells z5.toArray 116)).alloc (.cells z5.toArray 116)) := ((((Below.refl _ _).alloc (Nat.le_refl _) _).alloc (by simp) _).alloc (by simp; omega) _).alloc (by simp; omega) _
 rw [z5_arr] at h1 h2 h3 h4 h5
 clear HB0 HB1 hcx hcy
 generalize ((((w.alloc (.cells cx 116)).alloc (.cells cy 116)).alloc (.cells #[.int .u64 0, .int .u64 0, .int .u64 0, .int .u64 0, .int .u64 0] 116)).alloc (.cells #[.int .u64 0, .int .u64 0, .int .u64 0, .int .u64 0, .int .u64 0] 116)) = w1 at h1 h2 h3 h4 h5 ⊢
 rw [show w.heap.size + 1 + 1 = w.heap.size + 2 from rfl, show w.heap.size + 2 + 1 = w.heap.size + 3 from rfl]
 have H1 := Lib.hid (And.intro h1 (And.intro h2 (And.intro h3 (And.intro h5 h4))))
 clear h1 h2 h3 h4 h5
 go_wp2_with fail
 go_loopw [8, 6, 7, 11] (fun v _ _ _ wr => ∃ n : Nat, n ≤ 5 ∧ v = .int .i64 (n : Int) ∧ Blk wr w.heap.size 116 (x.map lv) ∧ Blk wr (w.heap.size + 1) 116 (y.map lv) ∧ Blk wr (w.heap.size + 2) 116 z5 ∧ Blk wr (w.heap.size + 3) 116 ((prod x y n).map lv) ∧ Below w.heap.size w wr) (fun v _ _ _ _ => 5 - (intOf v).toNat)
 case atStart => exact ⟨0, by omega, rfl, H1.out.1, H1.out.2.1, H1.out.2.2.1, H1.out.2.2.2.1, H1.out.2.2.2.2⟩
 case round =>
  clear H1
  obtain ⟨n, hn, rfl, ha, hb, hz, hr, hbel⟩ := hrel
  have HH := Lib.hid (And.intro ha (And.intro hb (And.intro hz (And.intro hr hbel))))
  clear ha hb hz hr hbel
  by_cases hnl : n < 5
  ·
   have d5 : decide ((n : Int) < 5) = true := by simp; omega
   go_upto_region 6 with fail
   go_loopw [11, 7] (fun v _ wr => ∃ m : Nat, m ≤ 5 ∧ v = .int .i64 (m : Int) ∧ Blk wr w.heap.size 116 (x.map lv) ∧ Blk wr (w.heap.size + 1) 116 (y.map lv) ∧ Blk wr (w.heap.size + 2) 116 z5 ∧ Blk wr (w.heap.size + 3) 116 ((terms x y (prod x y n) n m).map lv) ∧ Below w.heap.size w wr) (fun v _ _ => 5 - (intOf v).toNat)
   case atStart => exact ⟨0, by omega, rfl, HH.out.1, HH.out.2.1, HH.out.2.2.1, HH.out.2.2.2.1, HH.out.2.2.2.2⟩
   case round =>
    clear HH
    obtain ⟨m, hm, rfl, hx0, hy0, hz, hr, hbel⟩ := hrel
    have HH := Lib.hid (And.intro hx0 (And.intro hy0 (And.intro hz (And.intro hr hbel))))
    by_cases hml : m < 5
    ·
     have dn : decide ((m : Int) < 5) = true := by simp; omega
     have fx := hx0.lim n (by rw [HX.out.1]; omega)
     have fy := hy0.lim m (by rw [HY.out.1]; omega)
     have hx := HX.out.2 n
     have hy := HY.out.2 m
     have hrl : (terms x y (prod x y n) n m).length = 5 := by rw [terms_length, prod_length]
     have hB := fun k => prod_bound x y HX.out.2 HY.out.2 n hnl m hm k
     by_cases hnm : n + m < 5
     ·
      have dl : decide ((n : Int) + (m : Int) < 5) = true := by simp; omega
      obtain ⟨t, ht⟩ : ∃ t, n + m = t := ⟨_, rfl⟩
      have hsw1 : IntKind.i64.wrap ((n : Int) + (m : Int)) = (n : Int) + (m : Int) := IntWalk.i64_in _ (by omega)
      have hsb : (n : Int) + (m : Int) = (t : Int) := by omega
      have bt : (t : Int) < 5 := by omega
      have ft := hr.lim t (by omega)
      have zt := hr.frozen t
      have hp := hB t
      have htm : terms x y (prod x y n) n (m + 1) = (terms x y (prod x y n) n m).set t (dg (terms x y (prod x y n) n m) t + dg x n * dg y m) := by
       rw [← ht]
       show term x y _ n m = _
       unfold term
       rw [if_pos hnm]
      generalize hPP : dg (terms x y (prod x y n) n m) t = e at hp ft htm
      generalize dg x n = a at fx hx htm
      generalize dg y m = b at fy hy htm
      have hmul := Nat.mul_le_mul hx hy
      obtain ⟨p, hpq⟩ : ∃ p, a * b = p := ⟨_, rfl⟩
      rw [hpq] at hmul htm
      have hp1 : (a : Int) * (b : Int) = (p : Int) := by rw [← hpq, Int.natCast_mul]
      have hp2 : IntKind.u64.wrap ((a : Int) * (b : Int)) = (p : Int) := by rw [hp1, IntKind.wrap_u64]; omega
      have hp3 : ((a : Int) * (b : Int)) % 18446744073709551616 = (p : Int) := by rw [hp1]; omega
      obtain ⟨s, hs⟩ : ∃ s, e + p = s := ⟨_, rfl⟩
      rw [hs] at htm
      have hs1 : IntKind.u64.wrap ((e : Int) + (p : Int)) = (s : Int) := by rw [IntKind.wrap_u64]; omega
      have hs2 : ((e : Int) + (p : Int)) % 18446744073709551616 = (s : Int) := by omega
      have HNX := Lib.hid htm
      clear hx0 hy0 hz hr hbel htm hs hpq hp1 hmul hx hy hp hPP ht hB 
      go_upto_region 9 with fail
      clear dn dl
      go_region
      (try simp only [hp2, hp3, hs1, hs2])
      clear fx fy ft zt hsw1 hsb bt hp2 hp3 hs1 hs2 
      go_wp2_with fail
      go_roundw
      case rel =>
       refine ⟨m + 1, by omega, by go_num, HH.out.1.drew.far (by simp) _, HH.out.2.1.drew.far (by simp) _, HH.out.2.2.1.drew.far (by simp) _, ?_, HH.out.2.2.2.2.drew.setCell (by dsimp only; omega) _⟩
       rw [HNX.out]
       exact HH.out.2.2.2.1.drew.setLim t s
      case measure => simp [intOf]; omega
     ·
      have dl : decide ((n : Int) + (m : Int) < 5) = false := by simp; omega
      obtain ⟨t, ht⟩ : ∃ t, n + m - 5 = t := ⟨_, rfl⟩
      have hsw1 : IntKind.i64.wrap ((n : Int) + (m : Int)) = (n : Int) + (m : Int) := IntWalk.i64_in _ (by omega)
      have hsb : (n : Int) + (m : Int) - 5 = (t : Int) := by omega
      have hsw : IntKind.i64.wrap ((n : Int) + (m : Int) - 5) = (t : Int) := by rw [hsb]; exact IntWalk.i64_in _ (by omega)
      have bt : (t : Int) < 5 := by omega
      have ft := hr.lim t (by omega)
      have zt := hr.frozen t
      have hp := hB t
      have htm : terms x y (prod x y n) n (m + 1) = (terms x y (prod x y n) n m).set t (dg (terms x y (prod x y n) n m) t + 5 * dg x n * dg y m) := by
       rw [← ht]
       show term x y _ n m = _
       unfold term
       rw [if_neg hnm]
      generalize hPP : dg (terms x y (prod x y n) n m) t = e at hp ft htm
      generalize dg x n = a at fx hx htm
      generalize dg y m = b at fy hy htm
      have hmul := Nat.mul_le_mul hx hy
      obtain ⟨c, hcq⟩ : ∃ c, 5 * a = c := ⟨_, rfl⟩
      have hmul := Nat.mul_le_mul (show c ≤ 1342177275 by omega) hy
      obtain ⟨p, hpq⟩ : ∃ p, c * b = p := ⟨_, rfl⟩
      rw [hcq, hpq] at htm
      rw [hpq] at hmul
      have hc2 : IntKind.u64.wrap (5 * (a : Int)) = (c : Int) := by rw [IntKind.wrap_u64]; omega
      have hc3 : (5 * (a : Int)) % 18446744073709551616 = (c : Int) := by omega
      have hp1 : (c : Int) * (b : Int) = (p : Int) := by rw [← hpq, Int.natCast_mul]
      have hp2 : IntKind.u64.wrap ((c : Int) * (b : Int)) = (p : Int) := by rw [hp1, IntKind.wrap_u64]; omega
      have hp3 : ((c : Int) * (b : Int)) % 18446744073709551616 = (p : Int) := by rw [hp1]; omega
      obtain ⟨s, hs⟩ : ∃ s, e + p = s := ⟨_, rfl⟩
      rw [hs] at htm
      have hs1 : IntKind.u64.wrap ((e : Int) + (p : Int)) = (s : Int) := by rw [IntKind.wrap_u64]; omega
      have hs2 : ((e : Int) + (p : Int)) % 18446744073709551616 = (s : Int) := by omega
      have HNX := Lib.hid htm
      clear hx0 hy0 hz hr hbel htm hs hpq hp1 hmul hx hy hp hPP ht hB hcq
      go_upto_region 10 with fail
      clear dn dl
      go_region
      (try simp only [hc2, hc3, hp2, hp3, hs1, hs2])
      clear fx fy ft zt hsw1 hsb bt hp2 hp3 hs1 hs2 hsw hc2 hc3
      go_wp2_with fail
      go_roundw
      case rel =>
       refine ⟨m + 1, by omega, by go_num, HH.out.1.drew.far (by simp) _, HH.out.2.1.drew.far (by simp) _, HH.out.2.2.1.drew.far (by simp) _, ?_, HH.out.2.2.2.2.drew.setCell (by dsimp only; omega) _⟩
       rw [HNX.out]
       exact HH.out.2.2.2.1.drew.setLim t s
      case measure => simp [intOf]; omega
    ·
     obtain rfl : m = 5 := by omega
     clear hx0 hy0 hz hr hbel
     rw [show ((5 : Nat) : Int) = 5 from rfl]
     go_wp2_with fail
     go_roundw
     case rel => exact ⟨n + 1, by omega, by go_num, HH.out.1, HH.out.2.1, HH.out.2.2.1, HH.out.2.2.2.1, HH.out.2.2.2.2⟩
     case measure => simp [intOf]; omega
  ·
   obtain rfl : n = 5 := by omega
   have C1 := carry_any (prod x y 5) (prod_length x y 5) (fun k => by have := prod_le x y _ _ HX.out.2 HY.out.2 5 (by omega) k; omega)
   have C2 := carry_any (carryN (prod x y 5)) (by rw [carryN_length, prod_length]) (fun k => carry1_le x y HX.out.2 HY.out.2 k)
   have hlz := mulN_length x y
   rw [show carryN (carryN (prod x y 5)) = mulN x y from rfl] at C2
   have hpl := prod_length x y 5
   have hr := HH.out.2.2.2.1
   obtain ⟨lz, hz⟩ : ∃ lz, mulN x y = lz := ⟨_, rfl⟩
   rw [hz] at C2 hlz
   have HZ := Lib.hid hz
   clear hz
   obtain ⟨cp, hcp⟩ : ∃ cp, ((prod x y 5).map lv).toArray = cp := ⟨_, rfl⟩
   obtain ⟨c1, hc1⟩ : ∃ c1, ((carryN (prod x y 5)).map lv).toArray = c1 := ⟨_, rfl⟩
   obtain ⟨cz, hcz⟩ : ∃ cz, (lz.map lv).toArray = cz := ⟨_, rfl⟩
   rw [hcp, hc1] at C1
   rw [hc1, hcz] at C2
   generalize prod x y 5 = lp at hr hcp hpl HH
   have HC := Lib.hid (And.intro C1 C2)
   have HL := Lib.hid (And.intro hcp (And.intro hcz (And.intro hpl hlz)))
   have HB := Lib.hid (And.intro hr (And.intro HH.out.2.2.1 HH.out.2.2.2.2))
   clear C1 C2 hlz hpl hr hcp hc1 hcz HH
   rw [show ((5 : Nat) : Int) = 5 from rfl]
   go_wp2_with (refine wpList_load_blk rfl 116 (.tmp 5) rfl (w.heap.size + 3) rfl 116 (lp.map lv) HB.out.1 5 81 Tryz.underlying116 (cells5 lp HL.out.2.2.1) ?_; rw [HL.out.1])
   refine (HC.out.1 _).mono ?_
   rintro e w4 ⟨rfl, hb4⟩
   have HB4 := Lib.hid (And.intro (HB.out.2.1.below hb4 HB.out.2.1.lt) (HB.out.2.2.trans (hb4.mono HB.out.2.2.size)))
   clear hb4 HB
   go_wp2_with fail
   refine (HC.out.2 _).mono ?_
   rintro e w5 ⟨rfl, hb5⟩
   have HB5 := Lib.hid (And.intro (HB4.out.1.below hb5 HB4.out.1.lt) (HB4.out.2.trans (hb5.mono HB4.out.2.size)))
   clear hb5 HB4
   go_wp2_with (refine wpList_store_blk rfl 116 (.tmp 4) (.tmp 52) rfl (w.heap.size + 2) (lz.map lv) rfl (by show Value.agg cz = _; rw [HL.out.2.1]) 116 z5 HB5.out.1 (cells5 lz HL.out.2.2.2) (by rw [List.length_map, HL.out.2.2.2]; rfl) (lv_one _) ?_; intro w9 hb9 hg9)
   exact bodyPost_ret (results_blk rfl _ _ (w.heap.size + 2) 116 (lz.map lv) 5 81 rfl hb9 Tryz.underlying116 (cells5 lz HL.out.2.2.2)) rfl ⟨by rw [HZ.out], below_blk HB5.out.2 hg9 (by omega)⟩
theorem and_word (a m : Nat) (ha : a < 18446744073709551616) (hm : m < 18446744073709551616) : bits BinOp.and IntKind.u64 (a : Int) (m : Int) = ((a &&& m : Nat) : Int) := u64_and_nat _ _ ha hm
set_option maxRecDepth 100000 in
set_option maxHeartbeats 2000000 in
theorem factor_any (k : List UInt8) (hk : k.length = 32) (w : World) :
 Calls Tryz.prog 86 #[.agg (k.map u8v).toArray] w fun e w' => e = .returned (.agg ((facN k).map lv).toArray) ∧ Below w.heap.size w w' := by
 obtain ⟨ck, hck⟩ : ∃ ck, (k.map u8v).toArray = ck := ⟨_, rfl⟩
 rw [hck]
 have hb0 : Blk (w.alloc (.cells ck 23)) w.heap.size 23 (k.map u8v) := by rw [← hck]; exact Blk.new w _ _
 have h1 := hb0.alloc (.cells z5.toArray 116)
 have h2 : Blk ((w.alloc (.cells ck 23)).alloc (.cells z5.toArray 116)) (w.heap.size + 1) 116 z5 := Blk.new' _ (by simp) _ _
 have h3 : Below w.heap.size w ((w.alloc (.cells ck 23)).alloc (.cells z5.toArray 116)) := ((Below.refl _ _).alloc (Nat.le_refl _) _).alloc (by simp) _
 have r1 := h1.rd 0 8 (by omega)
 have r2 := h1.rd 8 8 (by omega)
 rw [List.drop_zero] at r1
 have sc := split_any (lowW k &&& 1152921487695413247) (highW k &&& 1152921487695413244) 0 (rN_zero_words k).1 (rN_zero_words k).2 (by omega)
 have a1 := and_word (lowW k) 1152921487695413247 (take8_lt _) (by omega)
 have a2 := and_word (highW k) 1152921487695413244 (take8_lt _) (by omega)
 rw [show ((1152921487695413247 : Nat) : Int) = 1152921487695413247 from rfl] at a1
 rw [show ((1152921487695413244 : Nat) : Int) = 1152921487695413244 from rfl] at a2
 rw [z5_arr] at h1 h2 h3 r1 r2
 obtain ⟨lz, hlz⟩ : ∃ lz, facN k = lz := ⟨_, rfl⟩
 rw [show splitN (lowW k &&& 1152921487695413247) (highW k &&& 1152921487695413244) 0 = lz from hlz] at sc
 have HZL := Lib.hid (show lz.length = 5 by rw [← hlz, facN, splitN_length])
 generalize lowW k &&& 1152921487695413247 = x at sc a1
 generalize highW k &&& 1152921487695413244 = y at sc a2
 rw [hlz]
 obtain ⟨cz, hcz⟩ : ∃ cz, (lz.map lv).toArray = cz := ⟨_, rfl⟩
 rw [hcz] at sc
 have e1 : numL (((k.take 8)).take 8) = lowW k := by rw [List.take_take]; rfl
 have e2 : numL ((((k.drop 8).take 8)).take 8) = highW k := by rw [List.take_take]; rfl
 have HR := Lib.hid (And.intro r1 (And.intro r2 (And.intro e1 e2)))
 have HSC := Lib.hid (And.intro sc hcz)
 have HA := Lib.hid (And.intro a1 a2)
 have HB := Lib.hid (And.intro h2 h3)
 clear r1 r2 e1 e2 sc hcz a1 a2 h1 h2 h3 hb0 hck hlz
 generalize lowW k = lw at HR HA
 generalize highW k = hw at HR HA
 go_enter Tryz.func86, Tryz.ntmps86
 go_upto_region 1 with fail
 generalize ((w.alloc (.cells ck 23)).alloc (.cells #[.int .u64 0, .int .u64 0, .int .u64 0, .int .u64 0, .int .u64 0] 116)) = w1 at HR HB ⊢
 go_wp2_with fail
 refine (readLittle_any _ _ 8 32 _ (by omega) _ HR.out.1).mono ?_
 rintro e w2 ⟨rfl, rfl⟩
 rw [HR.out.2.2.1]
 go_wp2_with fail
 refine (readLittle_any _ _ 8 24 _ (by omega) _ HR.out.2.1).mono ?_
 rintro e w2 ⟨rfl, rfl⟩
 rw [HR.out.2.2.2]
 go_upto_region 3 with fail
 clear HR
 have ha1 := HA.out.1
 have ha2 := HA.out.2
 go_wp2_with fail
 (try rw [ha1, ha2])
 refine (HSC.out.1 _).mono ?_
 rintro e w3 ⟨rfl, hb3⟩
 have HB3 := Lib.hid (And.intro (HB.out.1.below hb3 HB.out.1.lt) (HB.out.2.trans (hb3.mono HB.out.2.size)))
 clear hb3 HB ha1 ha2 HA
 go_wp2_with (refine wpList_store_blk rfl 116 (.tmp 2) (.tmp 13) rfl (w.heap.size + 1) (lz.map lv) rfl (by show Value.agg cz = _; rw [HSC.out.2]) 116 z5 HB3.out.1 (cells5 lz HZL.out) (by rw [List.length_map, HZL.out]; rfl) (lv_one _) ?_; intro w9 hb9 hg9)
 exact bodyPost_ret (results_blk rfl _ _ (w.heap.size + 1) 116 (lz.map lv) 5 81 rfl hb9 Tryz.underlying116 (cells5 lz HZL.out)) rfl ⟨rfl, below_blk HB3.out.2 hg9 (by omega)⟩
end Go.Proofs.YtlddafkikkaonaaGreatDoor
namespace Go.Proofs.YtlddafkikkaonaaGreatDoor
open Go.Shelf
def bits_ren : Go.Shelf.Ren := ⟨fun | 25 => 103 | 26 => 104 | n => n, fun | 22 => 81 | n => n, fun | n => n⟩
theorem info_u64 : (Tryz.prog.info? 81).map (fun i => (i.zero, i.size, i.bytes)) = some (some (.int .u64 0), 1, 8) := by kernel_rfl
theorem add_lays : Go.Proofs.Lays7.n25 Tryz.prog bits_ren := {
 mixed := by kernel_rfl
 f25 := Tryz.func103.trans (congrArg some (by kernel_rfl))
 t22 := Tryz.underlying81
 a22 := Tryz.isAgg81
 z22 := Tryz.sizeOf81
 v22 := Tryz.zeroValue81
 i22 := info_u64 }
theorem sub_lays : Go.Proofs.Lays7.n26 Tryz.prog bits_ren := {
 mixed := by kernel_rfl
 f26 := Tryz.func104.trans (congrArg some (by kernel_rfl))
 t22 := Tryz.underlying81
 a22 := Tryz.isAgg81
 z22 := Tryz.sizeOf81
 v22 := Tryz.zeroValue81
 i22 := info_u64 }
theorem add64_run (x y c : Nat) (hc : c ≤ 1) (w : World) : (callFunc 103 #[.int .u64 x, .int .u64 y, .int .u64 c]).run Tryz.prog w =
 .ok (.value (.tuple #[.int .u64 (((x + y + c) % 18446744073709551616 : Nat) : Int), .int .u64 (((x + y + c) / 18446744073709551616 : Nat) : Int)])) w := Any7.bits_Add64 add_lays x y c hc w
theorem sub64_run (x y b : Nat) (hb : b ≤ 1) (w : World) : (callFunc 104 #[.int .u64 x, .int .u64 y, .int .u64 b]).run Tryz.prog w =
 .ok (.value (.tuple #[.int .u64 (((x + 18446744073709551616 - y - b) % 18446744073709551616 : Nat) : Int), .int .u64 ((if x < y + b then 1 else 0 : Nat) : Int)])) w := Any7.bits_Sub64 sub_lays x y b hb w
end Go.Proofs.YtlddafkikkaonaaGreatDoor
namespace Go.Proofs.YtlddafkikkaonaaGreatDoor
open Go.RowKit
theorem half_fit_8l (f : Nat) : 8 + 8 ≤ ((littleL f 8 ++ List.replicate 8 0).map u8v).length := by simp [littleL_length]
theorem half_one (f : Nat) : zT.take 0 ++ (littleL f 8).map u8v ++ zT.drop (0 + ((littleL f 8).map u8v).length) = (littleL f 8 ++ List.replicate 8 0).map u8v := by
 rw [List.take_zero, List.nil_append, List.map_append, List.length_map, littleL_length, Nat.zero_add, zT, List.drop_replicate, List.map_replicate]
 rfl
theorem half_two (f g : Nat) : ((littleL f 8 ++ List.replicate 8 0).map u8v).take 8 ++ (littleL g 8).map u8v ++ ((littleL f 8 ++ List.replicate 8 0).map u8v).drop (8 + ((littleL g 8).map u8v).length) = (littleL f 8 ++ littleL g 8).map u8v := by
 have h1 : ((littleL f 8 ++ List.replicate 8 0).map u8v).take 8 = (littleL f 8).map u8v := by rw [← List.map_take, List.take_left' (littleL_length f 8)]
 have h2 : ((littleL f 8 ++ List.replicate 8 0).map u8v).drop (8 + ((littleL g 8).map u8v).length) = [] := by
  rw [List.length_map, littleL_length]
  exact List.drop_eq_nil_of_le (by simp [littleL_length])
 rw [h1, h2, List.append_nil, List.map_append]
theorem finish_numbers (n : List Nat) (k : List UInt8) (ht : tight n) (hk : k.length = 32) :
 littleL (fin2 (joinL (carryN (raised n))) (keyLow k)) 8 ++ littleL (fin3 (joinL (carryN (raised n))) (joinH (carryN (raised n))) (keyLow k) (keyHigh k)) 8 = littleL (val5 n % primeP + sN k) 16 := by
 obtain ⟨h1, h2⟩ := raised_carry ht
 obtain ⟨j1, j2, j3⟩ := join_val _ h2
 rw [h1] at j3
 have hf := fin_val _ _ (keyLow k) (keyHigh k) _ j1 j2 (take8_lt _) (take8_lt _) j3
 rw [← sN_words k hk] at hf
 refine littleL_halves _ _ _ ?_ ?_
 ·
  have l2 : fin2 (joinL (carryN (raised n))) (keyLow k) < 18446744073709551616 := Nat.mod_lt _ (by omega)
  omega
 ·
  have l2 : fin2 (joinL (carryN (raised n))) (keyLow k) < 18446744073709551616 := Nat.mod_lt _ (by omega)
  have l3 : fin3 (joinL (carryN (raised n))) (joinH (carryN (raised n))) (keyLow k) (keyHigh k) < 18446744073709551616 := Nat.mod_lt _ (by omega)
  omega
set_option maxRecDepth 100000 in
set_option maxHeartbeats 4000000 in
theorem finish_any (n : List Nat) (k : List UInt8) (ht : tight n) (hk : k.length = 32) (w : World) :
 Calls Tryz.prog 90 #[.agg (n.map lv).toArray, .agg (k.map u8v).toArray] w fun e w' => e = .returned (.agg ((littleL (val5 n % primeP + sN k) 16).map u8v).toArray) ∧ Below w.heap.size w w' := by
 rw [← finish_numbers n k ht hk]
 have hnl : n.length = 5 := ht.1
 have hrc := (raised_carry ht).2
 have hd0 : dg n 0 ≤ 67108868 := by have := ht.2 0; rwa [if_pos rfl] at this
 have hrd : ∀ i, dg (raised n) i ≤ 4611686018427387904 := fun i => by
  rw [raised, dg_set _ _ _ _ (by omega)]
  have := ht.2 i
  split
  · omega
  · split at this <;> omega
 have C1 := carry_any (raised n) (by rw [raised_length, hnl]) hrd
 have C2 := join_any (carryN (raised n)) (by rw [carryN_length, raised_length, hnl]) hrc
 obtain ⟨_, _, _⟩ := join_val _ hrc
 have llo : joinL (carryN (raised n)) < 18446744073709551616 := by assumption
 have lhi : joinH (carryN (raised n)) < 18446744073709551616 := by assumption
 have lk0 : keyLow k < 18446744073709551616 := take8_lt _
 have lk1 : keyHigh k < 18446744073709551616 := take8_lt _
 have hrl : (raised n).length = 5 := by rw [raised_length, hnl]
 have hset : n.set 0 (dg n 0 + 5) = raised n := rfl
 obtain ⟨d0, hdd⟩ : ∃ d, dg n 0 = d := ⟨_, rfl⟩
 rw [hdd] at hset hd0
 generalize carryN (raised n) = lc at *
 generalize hrn : raised n = lr at *
 have q0 : fin0 (joinL lc) (keyLow k) = (joinL lc + keyLow k + 0) % 18446744073709551616 := by unfold fin0; rw [Nat.add_zero]
 have q1 : over0 (joinL lc) (keyLow k) = (joinL lc + keyLow k + 0) / 18446744073709551616 := by unfold over0; rw [Nat.add_zero]
 have lo1 : over0 (joinL lc) (keyLow k) ≤ 1 := by rw [q1]; omega
 have q2 : fin1 (joinL lc) (joinH lc) (keyLow k) (keyHigh k) = (joinH lc + keyHigh k + over0 (joinL lc) (keyLow k)) % 18446744073709551616 := by unfold fin1; simp only []
 have q3 : fin2 (joinL lc) (keyLow k) = (fin0 (joinL lc) (keyLow k) + 18446744073709551616 - 5 - 0) % 18446744073709551616 := by unfold fin2; rw [Nat.sub_zero]
 have q4 : under2 (joinL lc) (keyLow k) = if fin0 (joinL lc) (keyLow k) < 5 + 0 then 1 else 0 := by unfold under2; simp only [Nat.add_zero]
 have lu1 : under2 (joinL lc) (keyLow k) ≤ 1 := by rw [q4]; split <;> omega
 have q5 : fin3 (joinL lc) (joinH lc) (keyLow k) (keyHigh k) = (fin1 (joinL lc) (joinH lc) (keyLow k) (keyHigh k) + 18446744073709551616 - 0 - under2 (joinL lc) (keyLow k)) % 18446744073709551616 := by unfold fin3; rw [Nat.sub_zero]
 have A0 := add64_run (joinL lc) (keyLow k) 0 (by omega)
 rw [← q0, ← q1] at A0
 have A1 := add64_run (joinH lc) (keyHigh k) (over0 (joinL lc) (keyLow k)) lo1
 rw [← q2] at A1
 have S0 := sub64_run (fin0 (joinL lc) (keyLow k)) 5 0 (by omega)
 rw [← q3, ← q4] at S0
 have S1 := sub64_run (fin1 (joinL lc) (joinH lc) (keyLow k) (keyHigh k)) 0 (under2 (joinL lc) (keyLow k)) lu1
 rw [← q5] at S1
 have l2 : fin2 (joinL lc) (keyLow k) < 18446744073709551616 := by rw [q3]; exact Nat.mod_lt _ (by omega)
 have l3 : fin3 (joinL lc) (joinH lc) (keyLow k) (keyHigh k) < 18446744073709551616 := by rw [q5]; exact Nat.mod_lt _ (by omega)
 have LA := little_any _ l2 8 (by omega) (by omega)
 have LB := little_any _ l3 8 (by omega) (by omega)
 clear q0 q1 q2 q3 q4 q5 lo1 lu1
 generalize fin3 (joinL lc) (joinH lc) (keyLow k) (keyHigh k) = f3 at *
 generalize fin2 (joinL lc) (keyLow k) = f2 at *
 generalize fin1 (joinL lc) (joinH lc) (keyLow k) (keyHigh k) = f1 at *
 generalize under2 (joinL lc) (keyLow k) = u2 at *
 generalize over0 (joinL lc) (keyLow k) = o0 at *
 generalize fin0 (joinL lc) (keyLow k) = f0 at *
 generalize joinL lc = jl at *
 generalize joinH lc = jh at *
 have e1 : numL (((k.drop 16).take 8).take 8) = keyLow k := by rw [List.take_take]; rfl
 have e2 : numL (((k.drop 24).take 8).take 8) = keyHigh k := by rw [List.take_take]; rfl
 generalize keyLow k = k0 at *
 generalize keyHigh k = k1 at *
 obtain ⟨cn, hcn⟩ : ∃ cn, (n.map lv).toArray = cn := ⟨_, rfl⟩
 obtain ⟨ck, hck⟩ : ∃ ck, (k.map u8v).toArray = ck := ⟨_, rfl⟩
 obtain ⟨cr, hcr⟩ : ∃ cr, (lr.map lv).toArray = cr := ⟨_, rfl⟩
 obtain ⟨cc, hcc⟩ : ∃ cc, (lc.map lv).toArray = cc := ⟨_, rfl⟩
 rw [hcr, hcc] at C1
 rw [hcc] at C2
 rw [hcn, hck]
 have h0 : Blk (((w.alloc (.cells cn 116)).alloc (.cells ck 23)).alloc (.cells zT.toArray 27)) w.heap.size 116 (n.map lv) := by rw [← hcn]; exact ((Blk.new w _ _).alloc _).alloc _
 have h1 : Blk (((w.alloc (.cells cn 116)).alloc (.cells ck 23)).alloc (.cells zT.toArray 27)) (w.heap.size + 1) 23 (k.map u8v) := by rw [← hck]; exact (Blk.new' (w.alloc (.cells cn 116)) (by simp) _ _).alloc _
 have h2 : Blk (((w.alloc (.cells cn 116)).alloc (.cells ck 23)).alloc (.cells zT.toArray 27)) (w.heap.size + 2) 27 zT := Blk.new' _ (by simp) _ _
 have h3 : Below w.heap.size w (((w.alloc (.cells cn 116)).alloc (.cells ck 23)).alloc (.cells zT.toArray 27)) := (((Below.refl _ _).alloc (Nat.le_refl _) _).alloc (by simp) _).alloc (by simp; omega) _
 have h4 : (((w.alloc (.cells cn 116)).alloc (.cells ck 23)).alloc (.cells zT.toArray 27)).heap.size = w.heap.size + 3 := by simp
 rw [zT_arr] at h0 h1 h2 h3 h4
 have HC := Lib.hid (And.intro C1 C2)
 rw [show ((0 : Nat) : Int) = 0 from rfl] at A0 S1
 rw [show ((5 : Nat) : Int) = 5 from rfl, show ((0 : Nat) : Int) = 0 from rfl] at S0
 rw [show ((8 : Nat) : Int) = 8 from rfl] at LA LB
 generalize (jh + k1 + o0) / 18446744073709551616 = x1 at A1
 generalize (if f1 < 0 + u2 then 1 else 0) = x2 at S1
 have HA := Lib.hid (And.intro A0 (And.intro A1 (And.intro S0 S1)))
 have HL := Lib.hid (And.intro LA LB)
 have HE := Lib.hid (And.intro e1 (And.intro e2 (And.intro hcn (And.intro hcr (And.intro hrl hnl)))))
 have HD := Lib.hid (And.intro hset (And.intro hdd hd0))
 have HK := Lib.hid hk
 clear C1 C2 A0 A1 S0 S1 LA LB e1 e2 hcn hck hcr hcc hrl hnl hset hdd hd0 hk ht hrc hrd llo lhi lk0 lk1 l2 l3 hrn
 go_enter Tryz.func90, Tryz.ntmps90
 go_upto_region 1 with fail
 generalize (((w.alloc (.cells cn 116)).alloc (.cells ck 23)).alloc (.cells zb16 27)) = w1 at h0 h1 h2 h3 h4 ⊢
 rw [show w.heap.size + 1 + 1 = w.heap.size + 2 from rfl]
 have H1 := Lib.hid (And.intro h0 (And.intro h1 (And.intro h2 (And.intro h3 h4))))
 clear h0 h1 h2 h3 h4
 go_upto_region 2 with (first | (refine wpList_load_blk rfl 116 (.tmp 2) rfl w.heap.size rfl 116 (n.map lv) H1.out.1 5 81 Tryz.underlying116 (cells5 n HE.out.2.2.2.2.2) ?_; rw [HE.out.2.2.1]) | (refine wpList_store_blk rfl 116 (.tmp 5) (.tmp 11) rfl w1.heap.size (n.map lv) rfl (by show Value.agg cn = _; rw [HE.out.2.2.1]) 116 z5 (Blk.new w1 116 z5) (cells5 n HE.out.2.2.2.2.2) (by rw [List.length_map, HE.out.2.2.2.2.2]; rfl) (lv_one _) ?_; intro w2 hb2 hg2))
 simp only [Act.put]
 have e3 := H1.out.2.2.2.2
 have hk1 := (H1.out.2.1.alloc (.cells z5.toArray 116)).grown hg2 (fun e => by injection e; omega)
 have hk2 := (H1.out.2.2.1.alloc (.cells z5.toArray 116)).grown hg2 (fun e => by injection e; omega)
 have hk3 : Below w.heap.size w w2 := below_blk (H1.out.2.2.2.1.alloc (by omega) (.cells z5.toArray 116)) hg2 (by omega)
 rw [e3] at hb2 ⊢
 have fx := hb2.lim 0 (by rw [HE.out.2.2.2.2.2]; omega)
 rw [HD.out.2.1] at fx
 have zx := hb2.frozen 0
 obtain ⟨d1, hd1⟩ : ∃ d1, d0 + 5 = d1 := ⟨_, rfl⟩
 have hw1 : IntKind.u64.wrap ((d0 : Int) + 5) = (d1 : Int) := by have := HD.out.2.2; rw [IntKind.wrap_u64]; omega
 have hst := hb2.setLim 0 d1
 rw [← hd1, HD.out.1, hd1] at hst
 have H2 := Lib.hid (show Blk (w2.setCell ⟨w.heap.size + 3, 0, none⟩ (.int .u64 (d1 : Int))) (w.heap.size + 3) 116 (lr.map lv) ∧ Blk (w2.setCell ⟨w.heap.size + 3, 0, none⟩ (.int .u64 (d1 : Int))) (w.heap.size + 1) 23 (k.map u8v) ∧ Blk (w2.setCell ⟨w.heap.size + 3, 0, none⟩ (.int .u64 (d1 : Int))) (w.heap.size + 2) 27 zT ∧ Below w.heap.size w (w2.setCell ⟨w.heap.size + 3, 0, none⟩ (.int .u64 (d1 : Int))) from ⟨hst, hk1.far (by simp) _, hk2.far (by simp) _, hk3.setCell (by dsimp only; omega) _⟩)
 clear hb2 hk1 hk2 hk3 hg2 e3 H1 hst hd1
 go_upto_region 3 with fail
 (try simp only [hw1])
 generalize w2.setCell ⟨w.heap.size + 3, 0, none⟩ (.int .u64 (d1 : Int)) = w3 at H2 ⊢
 clear fx zx hw1
 go_wp2_with (refine wpList_load_blk rfl 116 (.tmp 5) rfl (w.heap.size + 3) rfl 116 (lr.map lv) H2.out.1 5 81 Tryz.underlying116 (cells5 lr HE.out.2.2.2.2.1) ?_; rw [HE.out.2.2.2.1])
 refine (HC.out.1 _).mono ?_
 rintro e w4 ⟨rfl, hb4⟩
 have H4 := Lib.hid (And.intro (H2.out.2.1.below hb4 H2.out.2.1.lt) (And.intro (H2.out.2.2.1.below hb4 H2.out.2.2.1.lt) (H2.out.2.2.2.trans (hb4.mono H2.out.2.2.2.size))))
 clear hb4 H2
 go_wp2_with fail
 refine (HC.out.2 _).mono ?_
 rintro e w5 ⟨rfl, hb5⟩
 have H5 := Lib.hid (And.intro (H4.out.1.below hb5 H4.out.1.lt) (And.intro (H4.out.2.1.below hb5 H4.out.2.1.lt) (H4.out.2.2.trans (hb5.mono H4.out.2.2.size))))
 clear hb5 H4 HC
 go_upto_region 4 with fail
 have r1 := H5.out.1.rd 16 8 (by rw [HK.out]; omega)
 have r2 := H5.out.1.rd 24 8 (by rw [HK.out]; omega)
 have HR := Lib.hid (And.intro r1 r2)
 clear r1 r2
 go_wp2_with fail
 refine (readLittle_any _ _ 8 16 _ (by omega) _ HR.out.1).mono ?_
 rintro e w6 ⟨rfl, rfl⟩
 rw [HE.out.1]
 have a0 := HA.out.1
 go_upto_region 5 with fail
 clear a0
 go_wp2_with fail
 refine (readLittle_any _ _ 8 8 _ (by omega) _ HR.out.2).mono ?_
 rintro e w6 ⟨rfl, rfl⟩
 rw [HE.out.2.1]
 have a1 := HA.out.2.1
 go_upto_region 6 with fail
 clear a1 HR
 have a2 := HA.out.2.2.1
 go_upto_region 7 with fail
 clear a2
 have a3 := HA.out.2.2.2
 go_upto_region 9 with fail
 clear a3
 have H6 := Lib.hid (show Blk (w5.alloc (.cells zT.toArray 27)) w5.heap.size 27 zT ∧ Blk (w5.alloc (.cells zT.toArray 27)) (w.heap.size + 2) 27 zT ∧ Below w.heap.size w (w5.alloc (.cells zT.toArray 27)) ∧ w.heap.size + 3 ≤ w5.heap.size from ⟨Blk.new w5 _ _, H5.out.2.1.alloc _, H5.out.2.2.alloc H5.out.2.2.size _, H5.out.2.1.lt⟩)
 rw [zT_arr] at H6
 generalize w5.alloc (.cells zb16 27) = w6 at H6 ⊢
 generalize w5.heap.size = P at H6 ⊢
 clear H5
 refine wp_region_held_drew (S := fun _ => True) (by kernel_rfl) (trivial) (fun hHeld => ?_)
 refine tf (v := ?_) 0 rfl (Or.inl ⟨by rfl, ?_⟩) ?_
 rotate_left
 · (intro w hSw; (try dsimp only at hSw); go_simp; try with_reducible rfl)
 (try simp only [Act.put, sA, s0, s1])
 refine tf (v := ?_) 1 rfl (Or.inl ⟨by rfl, ?_⟩) ?_
 rotate_left
 · (intro w hSw; (try dsimp only at hSw); go_simp; try with_reducible rfl)
 (try simp only [Act.put, sA, s0, s1])
 refine so 2 rfl fun K hK => ?_
 go_simp
 refine (HL.out.1 _).mono ?_
 rintro e w7 ⟨rfl, hown, hbw⟩
 have H7 := Lib.hid (And.intro (H6.out.1.drew.below hbw H6.out.1.lt) (And.intro (H6.out.2.1.drew.below hbw H6.out.2.1.lt) (And.intro (H6.out.2.2.1.drew.trans (hbw.mono H6.out.2.2.1.size)) H6.out.2.2.2)))
 have HSRC := Lib.hid (Rd.of_own hown).src
 clear hown hbw
 clear H6
 go_wp2_with fail
 refine hK.out _ _ (trivial) (fun hHeld => ?_)
 clear hK K
 (try simp only [Act.put, sA, s0, s1])
 refine so 3 rfl fun K hK => ?_
 refine step_copy_bytes _ rfl (.tmp 48) (.tmp 50) 29 29 (by rfl) 5 Tryz.underlying29 (by kernel_rfl) P 0 8 16 ⟨_, 0, none⟩ 8 8 (by rfl) (by rfl) zT 27 H7.out.1 ((littleL f2 8).map u8v) (by rw [List.length_map, littleL_length]; rfl) HSRC.out (by rw [List.length_map, littleL_length]; exact (show 0 + 8 ≤ zT.length by decide)) (u8v_one _) ?_
 intro w8 hb8 hg8
 refine hK.out _ _ (trivial) (fun hHeld => ?_)
 clear hK K
 (try simp only [Act.put, sA, s0, s1])
 clear HSRC
 refine wpAnyH_done (by kernel_rfl) ?_ _
 rw [half_one] at hb8
 have H8 := Lib.hid (show Blk w8 P 27 ((littleL f2 8 ++ List.replicate 8 0).map u8v) ∧ Blk w8 (w.heap.size + 2) 27 zT ∧ Below w.heap.size w w8 ∧ w.heap.size + 3 ≤ P from ⟨hb8, H7.out.2.1.grown hg8 (by have := H7.out.2.2.2; simp; omega), below_blk H7.out.2.2.1 hg8 (by have := H7.out.2.2.2; omega), H7.out.2.2.2⟩)
 clear hb8 hg8 H7 hHeld
 go_upto_region 10 with fail
 refine wp_region_held_drew (S := fun _ => True) (by kernel_rfl) (trivial) (fun hHeld => ?_)
 refine tf (v := ?_) 0 rfl (Or.inl ⟨by rfl, ?_⟩) ?_
 rotate_left
 · (intro w hSw; (try dsimp only at hSw); go_simp; try with_reducible rfl)
 (try simp only [Act.put, sA, s0, s1])
 refine tf (v := ?_) 1 rfl (Or.inl ⟨by rfl, ?_⟩) ?_
 rotate_left
 · (intro w hSw; (try dsimp only at hSw); go_simp; try with_reducible rfl)
 (try simp only [Act.put, sA, s0, s1])
 refine so 2 rfl fun K hK => ?_
 go_simp
 refine (HL.out.2 _).mono ?_
 rintro e w9 ⟨rfl, hown, hbw⟩
 have H9 := Lib.hid (And.intro (H8.out.1.drew.below hbw H8.out.1.lt) (And.intro (H8.out.2.1.drew.below hbw H8.out.2.1.lt) (And.intro (H8.out.2.2.1.drew.trans (hbw.mono H8.out.2.2.1.size)) H8.out.2.2.2)))
 have HSRC := Lib.hid (Rd.of_own hown).src
 clear hown hbw
 clear H8
 go_wp2_with fail
 refine hK.out _ _ (trivial) (fun hHeld => ?_)
 clear hK K
 (try simp only [Act.put, sA, s0, s1])
 refine so 3 rfl fun K hK => ?_
 refine step_copy_bytes _ rfl (.tmp 52) (.tmp 54) 29 29 (by rfl) 5 Tryz.underlying29 (by kernel_rfl) P 8 8 8 ⟨_, 0, none⟩ 8 8 (by rfl) (by rfl) ((littleL f2 8 ++ List.replicate 8 0).map u8v) 27 H9.out.1 ((littleL f3 8).map u8v) (by rw [List.length_map, littleL_length]; rfl) HSRC.out (by rw [List.length_map, littleL_length]; exact half_fit_8l f2) (u8v_one _) ?_
 intro w10 hb8 hg8
 refine hK.out _ _ (trivial) (fun hHeld => ?_)
 clear hK K
 (try simp only [Act.put, sA, s0, s1])
 clear HSRC
 refine wpAnyH_done (by kernel_rfl) ?_ _
 rw [half_two] at hb8
 obtain ⟨lz, hlz⟩ : ∃ lz, littleL f2 8 ++ littleL f3 8 = lz := ⟨_, rfl⟩
 have HLZ := Lib.hid (show lz.length = 16 by rw [← hlz]; simp [littleL_length])
 rw [hlz] at hb8
 have HZ := Lib.hid hlz
 have H10 := Lib.hid (show Blk w10 P 27 (lz.map u8v) ∧ Blk w10 (w.heap.size + 2) 27 zT ∧ Below w.heap.size w w10 from ⟨hb8, H9.out.2.1.grown hg8 (by have := H9.out.2.2.2; simp; omega), below_blk H9.out.2.2.1 hg8 (by have := H9.out.2.2.2; omega)⟩)
 clear hb8 hg8 H9 hHeld hlz
 obtain ⟨ct, hct⟩ : ∃ ct, (lz.map u8v).toArray = ct := ⟨_, rfl⟩
 have HCT := Lib.hid hct
 clear hct
 go_wp2_with (first | (refine wpList_load_blk rfl 27 (.tmp 10) rfl P rfl 27 (lz.map u8v) H10.out.1 16 5 Tryz.underlying27 (cells16T lz HLZ.out) ?_; rw [HCT.out]) | (refine wpList_store_blk rfl 27 (.tmp 4) (.tmp 56) rfl (w.heap.size + 2) (lz.map u8v) rfl (by show Value.agg ct = _; rw [HCT.out]) 27 zT H10.out.2.1 (cells16T lz HLZ.out) (by rw [List.length_map, HLZ.out]; rfl) (u8v_one _) ?_; intro w9 hb9 hg9))
 exact bodyPost_ret (results_blk rfl _ _ (w.heap.size + 2) 27 (lz.map u8v) 16 5 rfl hb9 Tryz.underlying27 (cells16T lz HLZ.out)) rfl ⟨by rw [HZ.out], below_blk H10.out.2.2 hg9 (by omega)⟩
def z17u : List Value := List.replicate 17 (.int .u8 0)
theorem z17u_arr : z17u.toArray = #[.int .u8 0, .int .u8 0, .int .u8 0, .int .u8 0, .int .u8 0, .int .u8 0, .int .u8 0, .int .u8 0, .int .u8 0, .int .u8 0, .int .u8 0, .int .u8 0, .int .u8 0, .int .u8 0, .int .u8 0, .int .u8 0, .int .u8 0] := rfl
theorem copied_row (l : List UInt8) : z17u.take 0 ++ l.map u8v ++ z17u.drop (0 + (l.map u8v).length) = (l ++ List.replicate (17 - l.length) 0).map u8v := by
 rw [List.take_zero, List.nil_append, List.map_append, List.length_map, Nat.zero_add, z17u, List.drop_replicate, List.map_replicate]
 rfl
theorem one_row (l : List UInt8) (h : l.length ≤ 16) : (l ++ List.replicate (17 - l.length) 0).set l.length 1 = bytesP l := by
 rw [List.set_append_right _ _ (Nat.le_refl _), Nat.sub_self, show 17 - l.length = (16 - l.length) + 1 by omega, List.replicate_succ, List.set_cons_zero]
 rfl
theorem cell16 {w : World} {g tw : Nat} (l : List UInt8) (hl : (bytesP l).length = 17) (ht : ((bytesP l).getD 16 0).toNat = tw) (h : Blk w g 128 ((bytesP l).map u8v)) : w.cell? ⟨g, 16, none⟩ = some (.int .u8 (tw : Int)) := by
 rw [h.cell 16, map_u8v_getElem? (bytesP l) 16 (by omega), ← ht, getD_lt (by omega)]
set_option maxRecDepth 100000 in
set_option maxHeartbeats 2000000 in
theorem numberOf_any (A : Option Addr) (n cap : Nat) (l : List UInt8) (hn0 : 0 < n) (hn : n ≤ 16) (w : World) (hr : Rd w w.heap.size A n l) :
 Calls Tryz.prog 89 #[.slice A n cap] w fun e w' => e = .returned (.agg ((numP l).map lv).toArray) ∧ Below w.heap.size w w' := by
 have hl : l.length = n := hr.1
 obtain ⟨sb, soff, rfl, hsb, hsc⟩ := hr.2 hn0
 have hlen := bytesP_length l (by omega)
 have top := topW_le l (by omega)
 have sc := split_any (lowW (bytesP l)) (highW (bytesP l)) (topW l) (take8_lt _) (take8_lt _) (by omega)
 obtain ⟨lz, hlz⟩ : ∃ lz, numP l = lz := ⟨_, rfl⟩
 rw [show splitN (lowW (bytesP l)) (highW (bytesP l)) (topW l) = lz from hlz] at sc
 have HZL := Lib.hid (show lz.length = 5 by rw [← hlz, numP, splitN_length])
 rw [hlz]
 obtain ⟨cz, hcz⟩ : ∃ cz, (lz.map lv).toArray = cz := ⟨_, rfl⟩
 rw [hcz] at sc ⊢
 have e1 : numL (((bytesP l).take 8).take 8) = lowW (bytesP l) := by rw [List.take_take]; rfl
 have e2 : numL ((((bytesP l).drop 8).take 8).take 8) = highW (bytesP l) := by rw [List.take_take]; rfl
 have htd : ((bytesP l).getD 16 0).toNat = topW l := rfl
 have hwt : IntKind.u64.wrap (topW l : Int) = (topW l : Int) := by rw [IntKind.wrap_u64]; omega
 generalize lowW (bytesP l) = lw at e1 sc
 generalize highW (bytesP l) = hw at e2 sc
 generalize topW l = tw at htd sc hwt
 have HSC := Lib.hid (And.intro sc hcz)
 have HN := Lib.hid (And.intro e1 (And.intro e2 (And.intro htd hwt)))
 have h0 := (Blk.new w 116 z5).alloc (.cells z17u.toArray 128)
 have h1 : Blk ((w.alloc (.cells z5.toArray 116)).alloc (.cells z17u.toArray 128)) (w.heap.size + 1) 128 z17u := Blk.new' _ (by simp) _ _
 have h2 : Below w.heap.size w ((w.alloc (.cells z5.toArray 116)).alloc (.cells z17u.toArray 128)) := ((Below.refl _ _).alloc (Nat.le_refl _) _).alloc (by simp) _
 have hs1 : ∀ j v, (l.map u8v)[j]? = some v → ((w.alloc (.cells z5.toArray 116)).alloc (.cells z17u.toArray 128)).cell? ((Addr.mk sb soff none).add j) = some v := by
  intro j v hv
  have hj : j < l.length := by simpa using (List.getElem?_eq_some_iff.1 hv).1
  rw [Go.WideShapes.add_plain, h2.cell (by exact hsb), hsc j hj]
  rw [map_u8v_getElem? l j hj] at hv
  exact hv
 rw [z5_arr, z17u_arr] at h0 h1 h2 hs1
 have HL := Lib.hid (And.intro hl hlen)
 have HS := Lib.hid hs1
 clear hl hlen hsc hs1 sc hcz hlz hr top e1 e2 htd hwt
 go_enter Tryz.func89, Tryz.ntmps89
 go_upto_region 2 with fail
 generalize ((w.alloc (.cells #[.int .u64 0, .int .u64 0, .int .u64 0, .int .u64 0, .int .u64 0] 116)).alloc (.cells #[.int .u8 0, .int .u8 0, .int .u8 0, .int .u8 0, .int .u8 0, .int .u8 0, .int .u8 0, .int .u8 0, .int .u8 0, .int .u8 0, .int .u8 0, .int .u8 0, .int .u8 0, .int .u8 0, .int .u8 0, .int .u8 0, .int .u8 0] 128)) = w1 at h0 h1 h2 HS ⊢
 have H1 := Lib.hid (And.intro h0 (And.intro h1 h2))
 clear h0 h1 h2
 go_upto_region 3 with (refine wpList_copy_bytes _ rfl (.tmp 4) (.tmp 5) 29 29 rfl 5 Tryz.underlying29 (by kernel_rfl) (w.heap.size + 1) 0 17 17 ⟨sb, soff, none⟩ n cap rfl rfl z17u 128 H1.out.2.1 (l.map u8v) (by rw [List.length_map, HL.out.1]; exact (Nat.min_eq_left (by omega)).symm) HS.out (by rw [List.length_map, HL.out.1]; show 0 + n ≤ 17; omega) (u8v_one _) ?_; intro w2 hb2 hg2)
 simp only [Act.put]
 rw [copied_row] at hb2
 have hk0 := H1.out.1.grown hg2 (by simp)
 have hk2 := below_blk H1.out.2.2 hg2 (by omega)
 have hlr : (l ++ List.replicate (17 - l.length) 0).length = 17 := by rw [List.length_append, List.length_replicate, HL.out.1]; omega
 have fx : ∃ u, w2.cell? ⟨w.heap.size + 1, n, none⟩ = some u := by
  rw [hb2.cell n]
  exact ⟨_, List.getElem?_eq_getElem (by rw [List.length_map, hlr]; omega)⟩
 obtain ⟨u, fx⟩ := fx
 have zx := hb2.frozen n
 have hset := hb2.set_ n (.int .u8 1)
 rw [show (.int .u8 1 : Value) = u8v 1 from rfl, ← List.map_set, ← HL.out.1, one_row l (by rw [HL.out.1]; exact hn), HL.out.1, show u8v 1 = (.int .u8 1 : Value) from rfl] at hset
 have H2 := Lib.hid (show Blk (w2.setCell ⟨w.heap.size + 1, n, none⟩ (.int .u8 1)) (w.heap.size + 1) 128 ((bytesP l).map u8v) ∧ Blk (w2.setCell ⟨w.heap.size + 1, n, none⟩ (.int .u8 1)) w.heap.size 116 z5 ∧ Below w.heap.size w (w2.setCell ⟨w.heap.size + 1, n, none⟩ (.int .u8 1)) from ⟨hset, hk0.far (by simp) _, hk2.setCell (by dsimp only; omega) _⟩)
 have bt : (n : Int) < 17 := by omega
 clear hb2 hg2 hk0 hk2 hlr hset H1 HS
 go_upto_region 4 with fail
 generalize w2.setCell ⟨w.heap.size + 1, n, none⟩ (.int .u8 1) = w3 at H2 ⊢
 clear fx zx bt
 have H3 := Lib.hid (show Blk w3 (w.heap.size + 1) 128 ((bytesP l).map u8v) ∧ Blk w3 w.heap.size 116 z5 ∧ Below w.heap.size w w3 from H2.out)
 clear H2
 refine wp_region_held_drew (S := fun w4 => Below w.heap.size w w4 ∧ Blk w4 (w.heap.size + 1) 128 ((bytesP l).map u8v) ∧ ∃ c : List Nat, c.length = 5 ∧ Blk w4 w.heap.size 116 (c.map lv)) (by kernel_rfl) (⟨H3.out.2.2.drew, H3.out.1.drew, ⟨List.replicate 5 0, rfl, H3.out.2.1.drew⟩⟩) (fun hHeld => ?_)
 refine tf (v := ?_) 0 rfl (Or.inl ⟨by rfl, ?_⟩) ?_
 rotate_left
 · (intro w hSw; (try dsimp only at hSw); go_simp; try with_reducible rfl)
 (try simp only [Act.put, sA, s0, s1])
 refine tf (v := ?_) 2 rfl (Or.inl ⟨by rfl, ?_⟩) ?_
 rotate_left
 · (intro w hSw; (try dsimp only at hSw); go_simp; try with_reducible rfl)
 (try simp only [Act.put, sA, s0, s1])
 refine tf (v := ?_) 4 rfl (Or.inl ⟨by rfl, ?_⟩) ?_
 rotate_left
 · (intro w hSw; (try dsimp only at hSw); go_simp; try with_reducible rfl)
 (try simp only [Act.put, sA, s0, s1])
 refine tf (v := .int .u8 (tw : Int)) 5 rfl (Or.inl ⟨by rfl, by intro w5 hSw; have f16 := cell16 l HL.out.2 HN.out.2.2.1 hSw.2.1; go_simp⟩) ?_
 (try simp only [Act.put, sA, s0, s1])
 refine tf (v := ?_) 6 rfl (Or.inl ⟨by rfl, ?_⟩) ?_
 rotate_left
 · (intro w hSw; (try dsimp only at hSw); go_simp; try with_reducible rfl)
 (try simp only [Act.put, sA, s0, s1])
 refine so 1 rfl fun K hK => ?_
 go_simp
 refine (readLittle_any _ _ 8 17 _ (by omega) _ (by have := hHeld.2.1.rd 0 8 (by rw [HL.out.2]; omega); rwa [List.drop_zero] at this)).mono ?_
 rintro e w5 ⟨rfl, rfl⟩
 rw [HN.out.1]
 go_wp2_with fail
 refine hK.out _ _ (hHeld) (fun hHeld => ?_)
 clear hK K
 (try simp only [Act.put, sA, s0, s1])
 refine so 3 rfl fun K hK => ?_
 go_simp
 refine (readLittle_any _ _ 8 9 _ (by omega) _ (hHeld.2.1.rd 8 8 (by rw [HL.out.2]; omega))).mono ?_
 rintro e w5 ⟨rfl, rfl⟩
 rw [HN.out.2.1]
 go_wp2_with fail
 refine hK.out _ _ (hHeld) (fun hHeld => ?_)
 clear hK K
 (try simp only [Act.put, sA, s0, s1])
 refine so 7 rfl fun K hK => ?_
 go_simp
 (try rw [HN.out.2.2.2])
 refine (HSC.out.1 _).mono ?_
 rintro e w6 ⟨rfl, hb6⟩
 go_wp2_with fail
 refine hK.out _ _ (⟨hHeld.1.trans (hb6.mono hHeld.1.size), hHeld.2.1.below hb6 hHeld.2.1.lt, hHeld.2.2.imp fun c h => ⟨h.1, h.2.below hb6 h.2.lt⟩⟩) (fun hHeld => ?_)
 clear hK K
 (try simp only [Act.put, sA, s0, s1])
 clear hb6
 refine so 8 rfl fun K hK => ?_
 obtain ⟨c9, hc9, hk9⟩ := hHeld.2.2
 refine step_store_blk _ rfl 116 (.tmp 2) (.tmp 17) rfl w.heap.size (lz.map lv) rfl (by show Value.agg cz = _; rw [HSC.out.2]) 116 (c9.map lv) hk9 (cells5 lz HZL.out) (by rw [List.length_map, List.length_map, HZL.out, hc9]) (lv_one _) ?_
 intro w9 hb9 hg9
 have hg9 := hg9
 refine hK.out _ _ (⟨below_blk hHeld.1 hg9 (Nat.le_refl _), hHeld.2.1.grown hg9 (by simp), ⟨lz, HZL.out, hb9⟩⟩) (fun hHeld => ?_)
 clear hK K
 (try simp only [Act.put])
 refine wpAnyH_done (by kernel_rfl) ?_ _
 go_wp2_with fail
 exact bodyPost_ret (results_blk rfl _ _ w.heap.size 116 (lz.map lv) 5 81 rfl hb9 Tryz.underlying116 (cells5 lz HZL.out)) rfl ⟨by rw [HSC.out.2], hHeld.1⟩
/-- poly.Sum gives the authenticator -/
def SumC : Prop := ∀ (k : List UInt8), k.length = 32 → ∀ (D : Option Addr) (n cap : Nat) (l : List UInt8), n ≤ cap → cap ≤ maxLen → n ≤ 1000000 → ∀ w : World, Rd w w.heap.size D n l →
 Calls Tryz.prog 72 #[.agg (k.map u8v).toArray, .slice D n cap] w fun e w' => e = .returned (.agg ((tagL k l).map u8v).toArray) ∧ Below w.heap.size w w'
theorem tagL_length (k l : List UInt8) : (tagL k l).length = 16 := littleL_length _ _
/-- one piece more -/
theorem acc_step (a : List Nat) (k data : List UInt8) (i : Nat) (hk : k.length = 32) (ht : tight a) (hv : val5 a % primeP = accI (rN k) data i) :
 tight (mulN (addS a (numP ((data.drop (16 * i)).take 16)) 5) (facN k)) ∧ val5 (mulN (addS a (numP ((data.drop (16 * i)).take 16)) 5) (facN k)) % primeP = accI (rN k) data (i + 1) := by
 have hlen : ((data.drop (16 * i)).take 16).length ≤ 16 := List.length_take_le 16 _
 obtain ⟨p, hp⟩ : ∃ p, (data.drop (16 * i)).take 16 = p := ⟨_, rfl⟩
 have hpi : pieceN data i = numL p + 256 ^ p.length := by rw [pieceN, hp]
 rw [hp] at hlen ⊢
 refine ⟨mulN_tight _ _ (sum_le a p ht hlen) (facN_le k), ?_⟩
 rw [mulN_val, addS_val _ _ ht.1, numP_val p hlen, facN_val k (by omega), accI, hpi]
 have e1 : (val5 a + (numL p + 256 ^ p.length)) % primeP = (accI (rN k) data i + (numL p + 256 ^ p.length)) % primeP := by
  rw [Nat.add_mod, hv, Nat.add_mod_mod]
 rw [Nat.mul_mod, e1, ← Nat.mul_mod]
theorem tight_zero : tight (List.replicate 5 0) ∧ val5 (List.replicate 5 0) % primeP = 0 := by
 have h0 : ∀ i, dg (List.replicate 5 0) i = 0 := fun i => by
  simp only [dg, List.getD, List.getElem?_replicate]
  split <;> simp
 refine ⟨⟨by simp, fun i => by rw [h0]; exact Nat.zero_le _⟩, ?_⟩
 have : val5 (List.replicate 5 0) = 0 := by
  unfold val5
  rw [sumTo_congr (g := fun _ => 0) 5 (fun i _ => by rw [h0, Nat.zero_mul]), sumTo_zero]
 rw [this, Nat.zero_mod]
set_option maxRecDepth 100000 in
set_option maxHeartbeats 8000000 in
theorem sumC : SumC := by
 intro k hk D n cap l hnc hcm hn1 w hr
 have FC := factor_any k hk
 obtain ⟨fl, hfl⟩ : ∃ fl, facN k = fl := ⟨_, rfl⟩
 have hfd : ∀ i, dg fl i ≤ 67108863 := by rw [← hfl]; exact facN_le k
 have hfll : fl.length = 5 := by rw [← hfl, facN, splitN_length]
 obtain ⟨ck, hck⟩ : ∃ ck, (k.map u8v).toArray = ck := ⟨_, rfl⟩
 obtain ⟨cf, hcf⟩ : ∃ cf, (fl.map lv).toArray = cf := ⟨_, rfl⟩
 rw [hck, hfl, hcf] at FC
 have FN := fun (a : List Nat) (ht : tight a) => finish_any a k ht hk
 rw [hck] at FN
 rw [hck]
 have h0 : Blk ((w.alloc (.cells ck 23)).alloc (.cells zT.toArray 27)) w.heap.size 23 (k.map u8v) := by rw [← hck]; exact (Blk.new w _ _).alloc _
 have h1 : Blk ((w.alloc (.cells ck 23)).alloc (.cells zT.toArray 27)) (w.heap.size + 1) 27 zT := Blk.new' _ (by simp) _ _
 have h2 : Below w.heap.size w ((w.alloc (.cells ck 23)).alloc (.cells zT.toArray 27)) := ((Below.refl _ _).alloc (Nat.le_refl _) _).alloc (by simp) _
 rw [zT_arr] at h0 h1 h2
 have HFC := Lib.hid FC
 have HFN := Lib.hid FN
 have HF := Lib.hid (And.intro hfl (And.intro hfd (And.intro hfll hcf)))
 have HK := Lib.hid (And.intro hk hck)
 have HR := Lib.hid hr
 clear FC FN hfl hfd hfll hcf hk hck hr
 go_enter Tryz.func72, Tryz.ntmps72
 go_upto_region 1 with fail
 generalize ((w.alloc (.cells ck 23)).alloc (.cells zb16 27)) = w1 at h0 h1 h2 ⊢
 have H1 := Lib.hid (And.intro h0 (And.intro h1 h2))
 clear h0 h1 h2
 go_wp2_with (refine wpList_load_blk rfl 23 (.tmp 2) rfl w.heap.size rfl 23 (k.map u8v) H1.out.1 32 5 Tryz.underlying23 (cells32 k HK.out.1) ?_; rw [HK.out.2])
 refine (HFC.out _).mono ?_
 rintro e w2 ⟨rfl, hb2⟩
 have H2 := Lib.hid (And.intro (H1.out.1.below hb2 H1.out.1.lt) (And.intro (H1.out.2.1.below hb2 H1.out.2.1.lt) (H1.out.2.2.trans (hb2.mono H1.out.2.2.size))))
 clear hb2 H1
 go_upto_region 2 with (refine wpList_store_blk rfl 116 (.tmp 5) (.tmp 10) rfl w2.heap.size (fl.map lv) rfl (by show Value.agg cf = _; rw [HF.out.2.2.2]) 116 z5 (Blk.new w2 116 z5) (cells5 fl HF.out.2.2.1) (by rw [List.length_map, HF.out.2.2.1]; rfl) (lv_one _) ?_; intro w3 hb3 hg3)
 simp only [Act.put]
 have H3 := Lib.hid (show Blk w3 w2.heap.size 116 (fl.map lv) ∧ Blk w3 w.heap.size 23 (k.map u8v) ∧ Blk w3 (w.heap.size + 1) 27 zT ∧ Below w.heap.size w w3 from ⟨hb3, (H2.out.1.alloc _).grown hg3 (by have := H2.out.1.lt; simp; omega), (H2.out.2.1.alloc _).grown hg3 (by have := H2.out.2.1.lt; simp; omega), below_blk (H2.out.2.2.alloc H2.out.2.2.size _) hg3 H2.out.2.2.size⟩)
 have hP := H2.out.2.1.lt
 clear hb3 hg3 H2
 generalize w2.heap.size = P at H3 hP ⊢
 go_upto_region 3 with fail
 have hPQ := H3.out.1.lt
 have H4 := Lib.hid (show Blk (w3.alloc (.cells z5.toArray 116)) P 116 (fl.map lv) ∧ Blk (w3.alloc (.cells z5.toArray 116)) w3.heap.size 116 z5 ∧ Blk (w3.alloc (.cells z5.toArray 116)) w.heap.size 23 (k.map u8v) ∧ Blk (w3.alloc (.cells z5.toArray 116)) (w.heap.size + 1) 27 zT ∧ Below w.heap.size w (w3.alloc (.cells z5.toArray 116)) from ⟨H3.out.1.alloc _, Blk.new w3 _ _, H3.out.2.1.alloc _, H3.out.2.2.1.alloc _, H3.out.2.2.2.alloc H3.out.2.2.2.size _⟩)
 rw [z5_arr] at H4
 generalize w3.alloc (.cells #[.int .u64 0, .int .u64 0, .int .u64 0, .int .u64 0, .int .u64 0] 116) = w4 at H4 ⊢
 generalize w3.heap.size = Q at H4 hPQ ⊢
 clear H3
 have HPQ := Lib.hid (And.intro hP hPQ)
 clear hP hPQ
 go_wp2_with fail
 go_loopw [7, 8] (fun v _ wr => ∃ (i b : Nat) (a : List Nat), Hid (b = 16 * i ∧ tight a ∧ val5 a % primeP = accI (rN k) l i) ∧ b < n + 16 ∧ v = .int .i64 (b : Int) ∧ Blk wr P 116 (fl.map lv) ∧ Blk wr Q 116 (a.map lv) ∧ Blk wr w.heap.size 23 (k.map u8v) ∧ Blk wr (w.heap.size + 1) 27 zT ∧ Below w.heap.size w wr) (fun v _ _ => n + 16 - (intOf v).toNat)
 case atStart => exact ⟨0, 0, List.replicate 5 0, Lib.hid ⟨rfl, tight_zero.1, tight_zero.2⟩, by omega, rfl, H4.out.1, H4.out.2.1, H4.out.2.2.1, H4.out.2.2.2.1, H4.out.2.2.2.2⟩
 case round =>
  clear H4
  obtain ⟨i, b, a, HI, hbn, rfl, hp, hq, hkb, hg, hbel⟩ := hrel
  have HB := Lib.hid (And.intro hp (And.intro hq (And.intro hkb (And.intro hg hbel))))
  clear hp hq hkb hg hbel
  by_cases hlt : b < n
  ·
   have dn : decide ((b : Int) < (n : Int)) = true := by simp; omega
   obtain ⟨m, hm⟩ : ∃ m, m = min (b + 16) n := ⟨_, rfl⟩
   have hbw : IntKind.i64.wrap ((b : Int) + 16) = (b : Int) + 16 := IntWalk.i64_in _ (by omega)
   have hmv : (if (n : Int) < (b : Int) + 16 then (n : Int) else (b : Int) + 16) = (m : Int) := by split <;> omega
   have hbm : b < m := by omega
   have hm16 : m - b ≤ 16 := by omega
   have hmn : m ≤ n := by omega
   have HM := Lib.hid hm
   clear hm
   go_upto_region 7 with fail
   clear hbw dn hmv
   obtain ⟨sb, soff, rfl, hsb, hsc⟩ := HR.out.2 (by omega)
   obtain ⟨pc, hpc⟩ : ∃ pc, (l.drop (16 * i)).take 16 = pc := ⟨_, rfl⟩
   have hrd : Rd wr w.heap.size (some ⟨sb, soff + b, none⟩) (m - b) pc := by
    have h1 := ((HR.out.drop b sb soff rfl (by omega)).take (m := m - b) (by omega)).below HB.out.2.2.2.2
    have hlen := HR.out.1
    have e : (l.drop b).take (m - b) = pc := by
     rw [← hpc, ← HI.out.1]
     have h2 := HM.out
     by_cases h16 : b + 16 ≤ n
     · rw [show m - b = 16 by omega]
     · rw [List.take_of_length_le (by rw [List.length_drop]; omega), List.take_of_length_le (by rw [List.length_drop]; omega)]
    rwa [e] at h1
   have hst := acc_step a k l i HK.out.1 HI.out.2.1 HI.out.2.2
   rw [hpc, HF.out.1] at hst
   have hpl : pc.length ≤ 16 := by rw [← hpc]; exact List.length_take_le 16 _
   have N1 := fun w' h => numberOf_any (some ⟨sb, soff + b, none⟩) (m - b) (cap - b) pc (by omega) hm16 w' h
   have hsl := sum_le a pc HI.out.2.1 hpl
   have hal : ∀ i, dg a i ≤ 4611686018427387904 := fun i => by have := HI.out.2.1.2 i; split at this <;> omega
   have hnl : ∀ i, dg (numP pc) i ≤ 4611686018427387904 := fun i => by have := numP_le pc hpl i; omega
   have N2 := add_any a (numP pc) ⟨HI.out.2.1.1, hal⟩ ⟨by rw [numP, splitN_length], hnl⟩
   have hsll : (addS a (numP pc) 5).length = 5 := by rw [addS_length]; exact HI.out.2.1.1
   have N3 := multiply_any (addS a (numP pc) 5) fl hsll hsl HF.out.2.2.1 HF.out.2.1
   have hnxl := mulN_length (addS a (numP pc) 5) fl
   obtain ⟨nx, hnx⟩ : ∃ nx, mulN (addS a (numP pc) 5) fl = nx := ⟨_, rfl⟩
   rw [hnx] at N3 hst hnxl
   obtain ⟨ca, hca⟩ : ∃ ca, (a.map lv).toArray = ca := ⟨_, rfl⟩
   obtain ⟨cp, hcp⟩ : ∃ cp, ((numP pc).map lv).toArray = cp := ⟨_, rfl⟩
   obtain ⟨cs, hcs⟩ : ∃ cs, ((addS a (numP pc) 5).map lv).toArray = cs := ⟨_, rfl⟩
   obtain ⟨cx, hcx⟩ : ∃ cx, (nx.map lv).toArray = cx := ⟨_, rfl⟩
   rw [hcp] at N1
   rw [hca, hcp, hcs] at N2
   rw [hcs, HF.out.2.2.2, hcx] at N3
   have HN := Lib.hid (And.intro N1 (And.intro N2 N3))
   have HX := Lib.hid (And.intro hca (And.intro hcx hnxl))
   have HST := Lib.hid hst
   have HRD := Lib.hid hrd
   clear N1 N2 N3 hca hcp hcs hcx hnx hnxl hsl hsll hal hnl hst hrd hpl hpc hsc
   have b1 : (b : Int) ≤ (m : Int) := by omega
   have b2 : (m : Int) ≤ (cap : Int) := by omega
   have b3 : ¬ cap = b := by omega
   have b4 : (m : Int) - (b : Int) = ((m - b : Nat) : Int) := by omega
   refine wp_region_held_drew (S := fun w4 => Below w.heap.size w w4 ∧ Blk w4 P 116 (fl.map lv)) (by kernel_rfl) (⟨HB.out.2.2.2.2.drew, HB.out.1.drew⟩) (fun hHeld => ?_)
   refine tf (v := ?_) 1 rfl (Or.inl ⟨by rfl, ?_⟩) ?_
   rotate_left
   · (intro w hSw; (try dsimp only at hSw); go_simp; try with_reducible rfl)
   (try simp only [Act.put, sA, s0, s1])
   refine tf (v := ?_) 2 rfl (Or.inl ⟨by rfl, ?_⟩) ?_
   rotate_left
   · (intro w hSw; (try dsimp only at hSw); go_simp; try with_reducible rfl)
   (try simp only [Act.put, sA, s0, s1])
   refine tf (v := ?_) 3 rfl (Or.inl ⟨by rfl, ?_⟩) ?_
   rotate_left
   · (intro w hSw; (try dsimp only at hSw); go_simp; try with_reducible rfl)
   (try simp only [Act.put, sA, s0, s1])
   refine tf (v := ?_) 4 rfl (Or.inl ⟨by rfl, ?_⟩) ?_
   rotate_left
   · (intro w hSw; (try dsimp only at hSw); go_simp; try with_reducible rfl)
   (try simp only [Act.put, sA, s0, s1])
   refine tf (v := .agg cf) 7 rfl (by rw [← HF.out.2.2.2]; exact yields_load_blk (by rfl) 116 (.tmp 5) rfl P rfl 116 (fl.map lv) (fun w' hb => hb.2) 5 81 Tryz.underlying116 (cells5 fl HF.out.2.2.1)) ?_
   (try simp only [Act.put, sA, s0, s1])
   replace HB := Lib.hid (show Blk wr.drew P 116 (fl.map lv) ∧ Blk wr.drew Q 116 (a.map lv) ∧ Blk wr.drew w.heap.size 23 (k.map u8v) ∧ Blk wr.drew (w.heap.size + 1) 27 zT ∧ Below w.heap.size w wr.drew from ⟨HB.out.1.drew, HB.out.2.1.drew, HB.out.2.2.1.drew, HB.out.2.2.2.1.drew, HB.out.2.2.2.2.drew⟩)
   replace HRD := Lib.hid HRD.out.drew
   refine step_two 0 5 rfl rfl (by kernel_rfl) (fun K hK => ?_) (fun K hK => ?_)
   ·
    refine step_load_blk rfl 116 (.tmp 6) rfl Q rfl 116 (a.map lv) HB.out.2.1 5 81 Tryz.underlying116 (cells5 a HI.out.2.1.1) ?_
    rw [HX.out.1]
    refine hK.out _ _ (And.intro HB.out.2.2.2.2 HB.out.1) (fun hHeld => ?_)
    clear hK K
    (try simp only [Act.put, sA, s0, s1])
    refine so 5 rfl fun K hK => ?_
    go_simp
    refine (HN.out.1 _ (HRD.out.mono HB.out.2.2.2.2.size)).mono ?_
    rintro e w5 ⟨rfl, hb5⟩
    replace HRD := Lib.hid (HRD.out.below (hb5.mono HB.out.2.2.2.2.size))
    replace HB := Lib.hid (show Blk w5 P 116 (fl.map lv) ∧ Blk w5 Q 116 (a.map lv) ∧ Blk w5 w.heap.size 23 (k.map u8v) ∧ Blk w5 (w.heap.size + 1) 27 zT ∧ Below w.heap.size w w5 from ⟨HB.out.1.below hb5 HB.out.1.lt, HB.out.2.1.below hb5 HB.out.2.1.lt, HB.out.2.2.1.below hb5 HB.out.2.2.1.lt, HB.out.2.2.2.1.below hb5 HB.out.2.2.2.1.lt, HB.out.2.2.2.2.trans (hb5.mono HB.out.2.2.2.2.size)⟩)
    clear hb5
    go_wp2_with fail
    refine hK.out _ _ (And.intro HB.out.2.2.2.2 HB.out.1) (fun hHeld => ?_)
    clear hK K
    (try simp only [Act.put, sA, s0, s1])
    refine so 6 rfl fun K hK => ?_
    go_simp
    refine (HN.out.2.1 _).mono ?_
    rintro e w6 ⟨rfl, hb⟩
    replace HB := Lib.hid (show Blk w6 P 116 (fl.map lv) ∧ Blk w6 Q 116 (a.map lv) ∧ Blk w6 w.heap.size 23 (k.map u8v) ∧ Blk w6 (w.heap.size + 1) 27 zT ∧ Below w.heap.size w w6 from ⟨HB.out.1.below hb HB.out.1.lt, HB.out.2.1.below hb HB.out.2.1.lt, HB.out.2.2.1.below hb HB.out.2.2.1.lt, HB.out.2.2.2.1.below hb HB.out.2.2.2.1.lt, HB.out.2.2.2.2.trans (hb.mono HB.out.2.2.2.2.size)⟩)
    clear hb
    go_wp2_with fail
    refine hK.out _ _ (And.intro HB.out.2.2.2.2 HB.out.1) (fun hHeld => ?_)
    clear hK K
    (try simp only [Act.put, sA, s0, s1])
    refine so 8 rfl fun K hK => ?_
    go_simp
    refine (HN.out.2.2 _).mono ?_
    rintro e w7 ⟨rfl, hb⟩
    replace HB := Lib.hid (show Blk w7 P 116 (fl.map lv) ∧ Blk w7 Q 116 (a.map lv) ∧ Blk w7 w.heap.size 23 (k.map u8v) ∧ Blk w7 (w.heap.size + 1) 27 zT ∧ Below w.heap.size w w7 from ⟨HB.out.1.below hb HB.out.1.lt, HB.out.2.1.below hb HB.out.2.1.lt, HB.out.2.2.1.below hb HB.out.2.2.1.lt, HB.out.2.2.2.1.below hb HB.out.2.2.2.1.lt, HB.out.2.2.2.2.trans (hb.mono HB.out.2.2.2.2.size)⟩)
    clear hb
    go_wp2_with fail
    refine hK.out _ _ (And.intro HB.out.2.2.2.2 HB.out.1) (fun hHeld => ?_)
    clear hK K
    (try simp only [Act.put, sA, s0, s1])
    refine so 9 rfl fun K hK => ?_
    refine step_store_blk _ rfl 116 (.tmp 6) (.tmp 30) rfl Q (nx.map lv) rfl (by show Value.agg cx = _; rw [HX.out.2.1]) 116 (a.map lv) HB.out.2.1 (cells5 nx HX.out.2.2) (by rw [List.length_map, List.length_map, HX.out.2.2, HI.out.2.1.1]) (lv_one _) ?_
    intro w8 hb8 hg8
    have HB8 := Lib.hid (show Blk w8 P 116 (fl.map lv) ∧ Blk w8 Q 116 (nx.map lv) ∧ Blk w8 w.heap.size 23 (k.map u8v) ∧ Blk w8 (w.heap.size + 1) 27 zT ∧ Below w.heap.size w w8 from ⟨HB.out.1.grown hg8 (by have := HPQ.out.2; simp; omega), hb8, HB.out.2.2.1.grown hg8 (by have := HPQ.out; simp; omega), HB.out.2.2.2.1.grown hg8 (by have := HPQ.out; simp; omega), below_blk HB.out.2.2.2.2 hg8 (by have := HPQ.out; omega)⟩)
    clear hb8 hg8 HB
    refine hK.out _ _ (And.intro HB8.out.2.2.2.2 HB8.out.1) (fun hHeld => ?_)
    clear hK K
    (try simp only [Act.put])
    refine wpAnyH_done (by kernel_rfl) ?_ _
    clear hHeld b1 b2 b3 b4
    go_wp2_with fail
    go_roundw
    case rel => exact ⟨i + 1, b + 16, nx, Lib.hid ⟨by have := HI.out.1; omega, HST.out.1, HST.out.2⟩, by omega, by go_num, HB8.out.1, HB8.out.2.1, HB8.out.2.2.1, HB8.out.2.2.2.1, HB8.out.2.2.2.2⟩
    case measure => simp [intOf]; omega
   ·
    go_simp
    refine (HN.out.1 _ (HRD.out.mono HB.out.2.2.2.2.size)).mono ?_
    rintro e w5 ⟨rfl, hb5⟩
    replace HRD := Lib.hid (HRD.out.below (hb5.mono HB.out.2.2.2.2.size))
    replace HB := Lib.hid (show Blk w5 P 116 (fl.map lv) ∧ Blk w5 Q 116 (a.map lv) ∧ Blk w5 w.heap.size 23 (k.map u8v) ∧ Blk w5 (w.heap.size + 1) 27 zT ∧ Below w.heap.size w w5 from ⟨HB.out.1.below hb5 HB.out.1.lt, HB.out.2.1.below hb5 HB.out.2.1.lt, HB.out.2.2.1.below hb5 HB.out.2.2.1.lt, HB.out.2.2.2.1.below hb5 HB.out.2.2.2.1.lt, HB.out.2.2.2.2.trans (hb5.mono HB.out.2.2.2.2.size)⟩)
    clear hb5
    go_wp2_with fail
    refine hK.out _ _ (And.intro HB.out.2.2.2.2 HB.out.1) (fun hHeld => ?_)
    clear hK K
    (try simp only [Act.put, sA, s0, s1])
    refine so 0 rfl fun K hK => ?_
    refine step_load_blk rfl 116 (.tmp 6) rfl Q rfl 116 (a.map lv) HB.out.2.1 5 81 Tryz.underlying116 (cells5 a HI.out.2.1.1) ?_
    rw [HX.out.1]
    refine hK.out _ _ (And.intro HB.out.2.2.2.2 HB.out.1) (fun hHeld => ?_)
    clear hK K
    (try simp only [Act.put, sA, s0, s1])
    refine so 6 rfl fun K hK => ?_
    go_simp
    refine (HN.out.2.1 _).mono ?_
    rintro e w6 ⟨rfl, hb⟩
    replace HB := Lib.hid (show Blk w6 P 116 (fl.map lv) ∧ Blk w6 Q 116 (a.map lv) ∧ Blk w6 w.heap.size 23 (k.map u8v) ∧ Blk w6 (w.heap.size + 1) 27 zT ∧ Below w.heap.size w w6 from ⟨HB.out.1.below hb HB.out.1.lt, HB.out.2.1.below hb HB.out.2.1.lt, HB.out.2.2.1.below hb HB.out.2.2.1.lt, HB.out.2.2.2.1.below hb HB.out.2.2.2.1.lt, HB.out.2.2.2.2.trans (hb.mono HB.out.2.2.2.2.size)⟩)
    clear hb
    go_wp2_with fail
    refine hK.out _ _ (And.intro HB.out.2.2.2.2 HB.out.1) (fun hHeld => ?_)
    clear hK K
    (try simp only [Act.put, sA, s0, s1])
    refine so 8 rfl fun K hK => ?_
    go_simp
    refine (HN.out.2.2 _).mono ?_
    rintro e w7 ⟨rfl, hb⟩
    replace HB := Lib.hid (show Blk w7 P 116 (fl.map lv) ∧ Blk w7 Q 116 (a.map lv) ∧ Blk w7 w.heap.size 23 (k.map u8v) ∧ Blk w7 (w.heap.size + 1) 27 zT ∧ Below w.heap.size w w7 from ⟨HB.out.1.below hb HB.out.1.lt, HB.out.2.1.below hb HB.out.2.1.lt, HB.out.2.2.1.below hb HB.out.2.2.1.lt, HB.out.2.2.2.1.below hb HB.out.2.2.2.1.lt, HB.out.2.2.2.2.trans (hb.mono HB.out.2.2.2.2.size)⟩)
    clear hb
    go_wp2_with fail
    refine hK.out _ _ (And.intro HB.out.2.2.2.2 HB.out.1) (fun hHeld => ?_)
    clear hK K
    (try simp only [Act.put, sA, s0, s1])
    refine so 9 rfl fun K hK => ?_
    refine step_store_blk _ rfl 116 (.tmp 6) (.tmp 30) rfl Q (nx.map lv) rfl (by show Value.agg cx = _; rw [HX.out.2.1]) 116 (a.map lv) HB.out.2.1 (cells5 nx HX.out.2.2) (by rw [List.length_map, List.length_map, HX.out.2.2, HI.out.2.1.1]) (lv_one _) ?_
    intro w8 hb8 hg8
    have HB8 := Lib.hid (show Blk w8 P 116 (fl.map lv) ∧ Blk w8 Q 116 (nx.map lv) ∧ Blk w8 w.heap.size 23 (k.map u8v) ∧ Blk w8 (w.heap.size + 1) 27 zT ∧ Below w.heap.size w w8 from ⟨HB.out.1.grown hg8 (by have := HPQ.out.2; simp; omega), hb8, HB.out.2.2.1.grown hg8 (by have := HPQ.out; simp; omega), HB.out.2.2.2.1.grown hg8 (by have := HPQ.out; simp; omega), below_blk HB.out.2.2.2.2 hg8 (by have := HPQ.out; omega)⟩)
    clear hb8 hg8 HB
    refine hK.out _ _ (And.intro HB8.out.2.2.2.2 HB8.out.1) (fun hHeld => ?_)
    clear hK K
    (try simp only [Act.put])
    refine wpAnyH_done (by kernel_rfl) ?_ _
    clear hHeld b1 b2 b3 b4
    go_wp2_with fail
    go_roundw
    case rel => exact ⟨i + 1, b + 16, nx, Lib.hid ⟨by have := HI.out.1; omega, HST.out.1, HST.out.2⟩, by omega, by go_num, HB8.out.1, HB8.out.2.1, HB8.out.2.2.1, HB8.out.2.2.2.1, HB8.out.2.2.2.2⟩
    case measure => simp [intOf]; omega
  ·
   have dn : decide ((b : Int) < (n : Int)) = false := by simp; omega
   have hi : (l.length + 15) / 16 = i := by have := HI.out.1; have := HR.out.1; omega
   have htg : littleL (val5 a % primeP + sN k) 16 = tagL k l := by rw [tagL, tagN, hi, HI.out.2.2]
   have FN := HFN.out a HI.out.2.1
   rw [htg] at FN
   obtain ⟨lz, hlz⟩ : ∃ lz, tagL k l = lz := ⟨_, rfl⟩
   have hzl : lz.length = 16 := by rw [← hlz]; exact tagL_length k l
   rw [hlz] at FN
   obtain ⟨ca, hca⟩ : ∃ ca, (a.map lv).toArray = ca := ⟨_, rfl⟩
   obtain ⟨ct, hct⟩ : ∃ ct, (lz.map u8v).toArray = ct := ⟨_, rfl⟩
   rw [hca, hct] at FN
   have HX := Lib.hid (And.intro hca (And.intro hct (And.intro hzl hlz)))
   have HN := Lib.hid FN
   clear hca hct hzl hlz FN htg hi
   go_wp2_with (first | (refine wpList_load_blk rfl 116 (.tmp 6) rfl Q rfl 116 (a.map lv) HB.out.2.1 5 81 Tryz.underlying116 (cells5 a HI.out.2.1.1) ?_; rw [HX.out.1]) | (refine wpList_load_blk rfl 23 (.tmp 2) rfl w.heap.size rfl 23 (k.map u8v) HB.out.2.2.1 32 5 Tryz.underlying23 (cells32 k HK.out.1) ?_; rw [HK.out.2]))
   refine (HN.out _).mono ?_
   rintro e w5 ⟨rfl, hb5⟩
   have HB5 := Lib.hid (And.intro (HB.out.2.2.2.1.below hb5 HB.out.2.2.2.1.lt) (HB.out.2.2.2.2.trans (hb5.mono HB.out.2.2.2.2.size)))
   clear hb5 HB
   go_wp2_with (refine wpList_store_blk rfl 27 (.tmp 4) (.tmp 33) rfl (w.heap.size + 1) (lz.map u8v) rfl (by show Value.agg ct = _; rw [HX.out.2.1]) 27 zT HB5.out.1 (cells16T lz HX.out.2.2.1) (by rw [List.length_map, HX.out.2.2.1]; rfl) (u8v_one _) ?_; intro w9 hb9 hg9)
   exact bodyPost_ret (results_blk rfl _ _ (w.heap.size + 1) 27 (lz.map u8v) 16 5 rfl hb9 Tryz.underlying27 (cells16T lz HX.out.2.2.1)) rfl ⟨by rw [HX.out.2.2.2], below_blk HB5.out.2 hg9 (by omega)⟩
end Go.Proofs.YtlddafkikkaonaaGreatDoor
