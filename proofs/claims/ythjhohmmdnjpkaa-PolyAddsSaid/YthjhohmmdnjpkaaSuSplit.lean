/-
  The contracts of the program's split and join.
-/
import Derived.Test.YthjhohmmdnjpkaaSuCarry
namespace Go.Proofs.Ythjhohmmdnjpkaa
open Go.RowKit

theorem splitN_eq (a b c : Nat) : splitN a b c = [dg (splitN a b c) 0, dg (splitN a b c) 1, dg (splitN a b c) 2, dg (splitN a b c) 3, dg (splitN a b c) 4] := by
  unfold splitN dg
  simp only [List.getD_cons_zero, List.getD_cons_succ]
theorem split_mid (a b : Nat) (ha : a < 18446744073709551616) (_hb : b < 18446744073709551616) : bits BinOp.and IntKind.u64 (bits BinOp.or IntKind.u64 ((a : Int) / 4503599627370496) (IntKind.u64.wrap ((b : Int) * 4096))) 67108863 = ((a / 4503599627370496 + b % 16384 * 4096 : Nat) : Int) := by
  have h1 : a / 4503599627370496 < 4096 := Nat.div_lt_of_lt_mul (by omega)
  have e1 : (a : Int) / 4503599627370496 = ((a / 4503599627370496 : Nat) : Int) := by rw [Int.natCast_ediv]; rfl
  generalize a / 4503599627370496 = x at h1 e1 ⊢
  have e2 : IntKind.u64.wrap ((b : Int) * 4096) = ((2 ^ 12 * (b % 4503599627370496) : Nat) : Int) := by rw [IntKind.wrap_u64]; omega
  have h3 : b % 4503599627370496 < 4503599627370496 := Nat.mod_lt _ (by omega)
  have h4 : b % 4503599627370496 % 16384 = b % 16384 := Nat.mod_mod_of_dvd b (by decide)
  generalize b % 4503599627370496 = y at h3 h4 e2
  rw [e1, e2, u64_or_nat _ _ (by omega) (by omega), or_low y x 12 h1]
  have h5 := and_mask64 (x + 2 ^ 12 * y) 26 (by omega) (by omega)
  rw [show (((2 ^ 26 - 1 : Nat)) : Int) = 67108863 by decide] at h5
  rw [h5, ← h4]
  congr 1
  omega
theorem split_top (b c : Nat) (hb : b < 18446744073709551616) (hc : c < 4) : bits BinOp.or IntKind.u64 ((b : Int) / 1099511627776) ((c : Int) * 16777216) = ((b / 1099511627776 + c * 16777216 : Nat) : Int) := by
  have h1 : b / 1099511627776 < 16777216 := Nat.div_lt_of_lt_mul (by omega)
  have e1 : (b : Int) / 1099511627776 = ((b / 1099511627776 : Nat) : Int) := by rw [Int.natCast_ediv]; rfl
  generalize b / 1099511627776 = x at h1 e1 ⊢
  have e2 : (c : Int) * 16777216 = ((2 ^ 24 * c : Nat) : Int) := by omega
  rw [e1, e2, u64_or_nat _ _ (by omega) (by omega), or_low c x 24 h1]
  congr 1
  omega
theorem mask26 (a : Nat) (ha : a < 18446744073709551616) : bits BinOp.and IntKind.u64 (a : Int) 67108863 = ((a % 67108864 : Nat) : Int) := by
  have h := and_mask64 a 26 ha (by omega)
  rwa [show (((2 ^ 26 - 1 : Nat)) : Int) = 67108863 by decide, show (2 : Nat) ^ 26 = 67108864 by decide] at h
theorem five_lv (d0 d1 d2 d3 d4 : Nat) : ([d0, d1, d2, d3, d4].map lv).toArray = #[.int .u64 (d0 : Int), .int .u64 (d1 : Int), .int .u64 (d2 : Int), .int .u64 (d3 : Int), .int .u64 (d4 : Int)] := rfl

set_option maxRecDepth 100000 in
set_option maxHeartbeats 2000000 in
theorem split_any (a b c : Nat) (ha : a < 18446744073709551616) (hb : b < 18446744073709551616) (hc : c < 4) (w : World) :
    Calls Try.prog 20 #[.int .u64 a, .int .u64 b, .int .u64 c] w fun e w' => e = .returned (.agg ((splitN a b c).map lv).toArray) ∧ Below w.heap.size w w' := by
  have k0 := mask26 a ha
  have k1 := mask26 (a / 67108864) (by omega)
  rw [Int.natCast_ediv, show ((67108864 : Nat) : Int) = 67108864 from rfl] at k1
  have k2 := split_mid a b ha hb
  have k3 := mask26 (b / 16384) (by omega)
  rw [Int.natCast_ediv, show ((16384 : Nat) : Int) = 16384 from rfl] at k3
  have k4 := split_top b c hb hc
  rw [← splitN_0 a b c] at k0
  rw [← splitN_1 a b c] at k1
  rw [← splitN_2 a b c] at k2
  rw [← splitN_3 a b c] at k3
  rw [← splitN_4 a b c] at k4
  have hs := splitN_eq a b c
  generalize dg (splitN a b c) 0 = d0 at k0 hs
  generalize dg (splitN a b c) 1 = d1 at k1 hs
  generalize dg (splitN a b c) 2 = d2 at k2 hs
  generalize dg (splitN a b c) 3 = d3 at k3 hs
  generalize dg (splitN a b c) 4 = d4 at k4 hs
  have HS := Lib.hid hs
  have HK := Lib.hid (And.intro k0 (And.intro k1 (And.intro k2 (And.intro k3 k4))))
  clear hs k0 k1 k2 k3 k4
  go_enter Try.func20, Try.ntmps20
  go_upto_region 1 with fail
  go_wp2_with fail
  rw [HK.out.1, HK.out.2.1, HK.out.2.2.1, HK.out.2.2.2.1, HK.out.2.2.2.2]
  rw [HS.out]
  have hb9 := Blk.new w 40 ([d0, d1, d2, d3, d4].map lv)
  have hb8 : Below w.heap.size w (w.alloc (.cells ([d0, d1, d2, d3, d4].map lv).toArray 40)) := (Below.refl _ _).alloc (Nat.le_refl _) _
  exact bodyPost_ret (results_blk rfl _ _ w.heap.size 40 ([d0, d1, d2, d3, d4].map lv) 5 38 rfl hb9 Try.underlying40 (cells5 _ rfl)) rfl ⟨rfl, hb8⟩

theorem join_or (x y z : Nat) (hx : x ≤ 67108863) (hy : y ≤ 67108863) (_hz : z ≤ 67108863) :
    bits BinOp.or IntKind.u64 (bits BinOp.or IntKind.u64 (x : Int) (IntKind.u64.wrap ((y : Int) * 67108864))) (IntKind.u64.wrap ((z : Int) * 4503599627370496)) = ((x + y * 67108864 + z % 4096 * 4503599627370496 : Nat) : Int) := by
  have e1 : IntKind.u64.wrap ((y : Int) * 67108864) = ((2 ^ 26 * y : Nat) : Int) := by rw [IntKind.wrap_u64]; omega
  have h2 : z % 4096 < 4096 := Nat.mod_lt _ (by omega)
  have e2 : IntKind.u64.wrap ((z : Int) * 4503599627370496) = ((2 ^ 52 * (z % 4096) : Nat) : Int) := by rw [IntKind.wrap_u64]; omega
  generalize z % 4096 = t at h2 e2 ⊢
  rw [e1, e2, u64_or_nat _ _ (by omega) (by omega), or_low y x 26 (by omega), u64_or_nat _ _ (by omega) (by omega), or_low t (x + 2 ^ 26 * y) 52 (by omega)]
  congr 1
  omega
theorem join_or' (x y z : Nat) (hx : x ≤ 67108863) (hy : y ≤ 67108863) (_hz : z ≤ 67108863) :
    bits BinOp.or IntKind.u64 (bits BinOp.or IntKind.u64 ((x : Int) / 4096) (IntKind.u64.wrap ((y : Int) * 16384))) (IntKind.u64.wrap ((z : Int) * 1099511627776)) = ((x / 4096 + y * 16384 + z % 16777216 * 1099511627776 : Nat) : Int) := by
  have h1 : x / 4096 < 16384 := by omega
  have e0 : (x : Int) / 4096 = ((x / 4096 : Nat) : Int) := by rw [Int.natCast_ediv]; rfl
  generalize x / 4096 = u at h1 e0 ⊢
  have e1 : IntKind.u64.wrap ((y : Int) * 16384) = ((2 ^ 14 * y : Nat) : Int) := by rw [IntKind.wrap_u64]; omega
  have h2 : z % 16777216 < 16777216 := Nat.mod_lt _ (by omega)
  have e2 : IntKind.u64.wrap ((z : Int) * 1099511627776) = ((2 ^ 40 * (z % 16777216) : Nat) : Int) := by rw [IntKind.wrap_u64]; omega
  generalize z % 16777216 = t at h2 e2 ⊢
  rw [e0, e1, e2, u64_or_nat _ _ (by omega) (by omega), or_low y u 14 (by omega), u64_or_nat _ _ (by omega) (by omega), or_low t (u + 2 ^ 14 * y) 40 (by omega)]
  congr 1
  omega

set_option maxRecDepth 100000 in
set_option maxHeartbeats 2000000 in
theorem join_any (l : List Nat) (hl : l.length = 5) (hd : ∀ i, dg l i ≤ 67108863) (w : World) :
    Calls Try.prog 22 #[.agg (l.map lv).toArray] w fun e w' => e = .returned (.tuple #[.int .u64 (joinL l : Int), .int .u64 (joinH l : Int)]) ∧ Below w.heap.size w w' := by
  have h1 := hd 0
  have h2 := hd 1
  have h3 := hd 2
  have h4 := hd 3
  have h5 := hd 4
  have k0 := join_or (dg l 0) (dg l 1) (dg l 2) h1 h2 h3
  have k1 := join_or' (dg l 2) (dg l 3) (dg l 4) h3 h4 h5
  rw [show dg l 0 + dg l 1 * 67108864 + dg l 2 % 4096 * 4503599627370496 = joinL l by unfold joinL; simp only []] at k0
  rw [show dg l 2 / 4096 + dg l 3 * 16384 + dg l 4 % 16777216 * 1099511627776 = joinH l by unfold joinH; simp only []] at k1
  obtain ⟨cl, hcl⟩ : ∃ cl, (l.map lv).toArray = cl := ⟨_, rfl⟩
  rw [hcl]
  have hb0 : Blk (w.alloc (.cells cl 40)) w.heap.size 40 (l.map lv) := by rw [← hcl]; exact Blk.new w _ _
  have f0 := hb0.lim 0 (by omega)
  have f1 := hb0.lim 1 (by omega)
  have f2 := hb0.lim 2 (by omega)
  have f3 := hb0.lim 3 (by omega)
  have f4 := hb0.lim 4 (by omega)
  have hB := Lib.hid ((Below.refl w.heap.size w).alloc (Nat.le_refl _) (.cells cl 40))
  generalize joinL l = jl at k0 ⊢
  generalize joinH l = jh at k1 ⊢
  generalize dg l 0 = d0 at k0 f0
  generalize dg l 1 = d1 at k0 f1
  generalize dg l 2 = d2 at k0 k1 f2
  generalize dg l 3 = d3 at k1 f3
  generalize dg l 4 = d4 at k1 f4
  have HK := Lib.hid (And.intro k0 k1)
  clear k0 k1 h1 h2 h3 h4 h5 hb0 hcl hd hl
  go_enter Try.func22, Try.ntmps22
  go_upto_region 1 with fail
  generalize (w.alloc (.cells cl 40)) = w1 at f0 f1 f2 f3 f4 hB ⊢
  go_wp2_with fail
  simp only [HK.out.1, HK.out.2]
  exact bodyPost_ret (results_tmp2 rfl _ _ _) rfl ⟨rfl, hB.out⟩
end Go.Proofs.Ythjhohmmdnjpkaa
