/-
  The contract of the program's product of two numbers of five limbs.
-/
import Derived.Test.YthjhohmmdnjpkaaSuCarry
namespace Go.Proofs.Ythjhohmmdnjpkaa
open Go.RowKit

theorem prod_bound (x y : List Nat) (hx : ∀ i, dg x i ≤ 268435455) (hy : ∀ i, dg y i ≤ 67108863) (n : Nat) (hn : n < 5) (m : Nat) (hm : m ≤ 5) (k : Nat) : dg (terms x y (prod x y n) n m) k ≤ 2251799771742208125 := by
  have h1 := terms_le x y (prod x y n) _ _ _ hx hy n hn (prod_length x y n) (prod_le x y _ _ hx hy n (by omega)) m hm k
  have h2 : n * (5 * (5 * (268435455 * 67108863))) ≤ 4 * (5 * (5 * (268435455 * 67108863))) := Nat.mul_le_mul_right _ (by omega)
  have h3 : m * (5 * (268435455 * 67108863)) ≤ 5 * (5 * (268435455 * 67108863)) := Nat.mul_le_mul_right _ hm
  omega
theorem carry1_le (x y : List Nat) (hx : ∀ i, dg x i ≤ 268435455) (hy : ∀ i, dg y i ≤ 67108863) (k : Nat) : dg (carryN (prod x y 5)) k ≤ 4611686018427387904 := by
  have h1 := carryN_digit _ (prod_length x y 5) k
  have h2 := prod_val_lt x y hx hy
  have h3 : val5 (prod x y 5) / 1361129467683753853853498429727072845824 < 68719476736 := Nat.div_lt_of_lt_mul (by omega)
  split at h1 <;> omega

set_option maxRecDepth 100000 in
set_option maxHeartbeats 2000000 in
theorem multiply_any (x y : List Nat) (hxl : x.length = 5) (hx : ∀ i, dg x i ≤ 268435455) (hyl : y.length = 5) (hy : ∀ i, dg y i ≤ 67108863) (w : World) :
    Calls Try.prog 12 #[.agg (x.map lv).toArray, .agg (y.map lv).toArray] w fun e w' => e = .returned (.agg ((mulN x y).map lv).toArray) ∧ Below w.heap.size w w' := by
  obtain ⟨cx, hcx⟩ : ∃ cx, (x.map lv).toArray = cx := ⟨_, rfl⟩
  obtain ⟨cy, hcy⟩ : ∃ cy, (y.map lv).toArray = cy := ⟨_, rfl⟩
  rw [hcx, hcy]
  have HB0 := Lib.hid (show Blk (w.alloc (.cells cx 40)) w.heap.size 40 (x.map lv) by rw [← hcx]; exact Blk.new w _ _)
  have HB1 := Lib.hid (show Blk ((w.alloc (.cells cx 40)).alloc (.cells cy 40)) (w.heap.size + 1) 40 (y.map lv) by rw [← hcy]; exact Blk.new' _ (by simp) _ _)
  have HX := Lib.hid (And.intro hxl hx)
  have HY := Lib.hid (And.intro hyl hy)
  clear hx hy hxl hyl
  go_enter Try.func12, Try.ntmps12
  go_upto_region 2 with fail
  have h1 := ((HB0.out.alloc (.cells cy 40)).alloc (.cells z5.toArray 40)).alloc (.cells z5.toArray 40)
  have h2 := (HB1.out.alloc (.cells z5.toArray 40)).alloc (.cells z5.toArray 40)
  have h3 : Blk ((((w.alloc (.cells cx 40)).alloc (.cells cy 40)).alloc (.cells z5.toArray 40)).alloc (.cells z5.toArray 40)) (w.heap.size + 2) 40 z5 := (Blk.new' ((w.alloc (.cells cx 40)).alloc (.cells cy 40)) (by simp) 40 z5).alloc _
  have h5 : Blk ((((w.alloc (.cells cx 40)).alloc (.cells cy 40)).alloc (.cells z5.toArray 40)).alloc (.cells z5.toArray 40)) (w.heap.size + 3) 40 z5 := Blk.new' _ (by simp) _ _
  have h4 : Below w.heap.size w ((((w.alloc (.cells cx 40)).alloc (.cells cy 40)).alloc (.cells z5.toArray 40)).alloc (.cells z5.toArray 40)) := ((((Below.refl _ _).alloc (Nat.le_refl _) _).alloc (by simp) _).alloc (by simp; omega) _).alloc (by simp; omega) _
  rw [z5_arr] at h1 h2 h3 h4 h5
  clear HB0 HB1 hcx hcy
  generalize ((((w.alloc (.cells cx 40)).alloc (.cells cy 40)).alloc (.cells #[.int .u64 0, .int .u64 0, .int .u64 0, .int .u64 0, .int .u64 0] 40)).alloc (.cells #[.int .u64 0, .int .u64 0, .int .u64 0, .int .u64 0, .int .u64 0] 40)) = w1 at h1 h2 h3 h4 h5 ⊢
  rw [show w.heap.size + 1 + 1 = w.heap.size + 2 from rfl, show w.heap.size + 2 + 1 = w.heap.size + 3 from rfl]
  have H1 := Lib.hid (And.intro h1 (And.intro h2 (And.intro h3 (And.intro h5 h4))))
  clear h1 h2 h3 h4 h5
  go_wp2_with fail
  go_loopw [8, 6, 7, 11] (fun v _ _ _ wr => ∃ n : Nat, n ≤ 5 ∧ v = .int .i64 (n : Int) ∧ Blk wr w.heap.size 40 (x.map lv) ∧ Blk wr (w.heap.size + 1) 40 (y.map lv) ∧ Blk wr (w.heap.size + 2) 40 z5 ∧ Blk wr (w.heap.size + 3) 40 ((prod x y n).map lv) ∧ Below w.heap.size w wr) (fun v _ _ _ _ => 5 - (intOf v).toNat)
  case atStart => exact ⟨0, by omega, rfl, H1.out.1, H1.out.2.1, H1.out.2.2.1, H1.out.2.2.2.1, H1.out.2.2.2.2⟩
  case round =>
    clear H1
    obtain ⟨n, hn, rfl, ha, hb, hz, hr, hbel⟩ := hrel
    have HH := Lib.hid (And.intro ha (And.intro hb (And.intro hz (And.intro hr hbel))))
    clear ha hb hz hr hbel
    by_cases hnl : n < 5
    · have d5 : decide ((n : Int) < 5) = true := by simp; omega
      go_upto_region 6 with fail
      go_loopw [11, 7] (fun v _ wr => ∃ m : Nat, m ≤ 5 ∧ v = .int .i64 (m : Int) ∧ Blk wr w.heap.size 40 (x.map lv) ∧ Blk wr (w.heap.size + 1) 40 (y.map lv) ∧ Blk wr (w.heap.size + 2) 40 z5 ∧ Blk wr (w.heap.size + 3) 40 ((terms x y (prod x y n) n m).map lv) ∧ Below w.heap.size w wr) (fun v _ _ => 5 - (intOf v).toNat)
      case atStart => exact ⟨0, by omega, rfl, HH.out.1, HH.out.2.1, HH.out.2.2.1, HH.out.2.2.2.1, HH.out.2.2.2.2⟩
      case round =>
        clear HH
        obtain ⟨m, hm, rfl, hx0, hy0, hz, hr, hbel⟩ := hrel
        have HH := Lib.hid (And.intro hx0 (And.intro hy0 (And.intro hz (And.intro hr hbel))))
        by_cases hml : m < 5
        · have dn : decide ((m : Int) < 5) = true := by simp; omega
          have fx := hx0.lim n (by rw [HX.out.1]; omega)
          have fy := hy0.lim m (by rw [HY.out.1]; omega)
          have hx := HX.out.2 n
          have hy := HY.out.2 m
          have hrl : (terms x y (prod x y n) n m).length = 5 := by rw [terms_length, prod_length]
          have hB := fun k => prod_bound x y HX.out.2 HY.out.2 n hnl m hm k
          by_cases hnm : n + m < 5
          · have dl : decide ((n : Int) + (m : Int) < 5) = true := by simp; omega
            obtain ⟨t, ht⟩ : ∃ t, n + m = t := ⟨_, rfl⟩
            have hsw1 : IntKind.i64.wrap ((n : Int) + (m : Int)) = (n : Int) + (m : Int) := IntWalk.i64_in _ (by omega)
            have hsb : (n : Int) + (m : Int) = (t : Int) := by omega
            have bt : (t : Int) < 5 := by omega
            have ft := hr.lim t (by omega)
            have zt := hr.frozen t
            have hp := hB t
            have htm : terms x y (prod x y n) n (m + 1) = (terms x y (prod x y n) n m).set t (dg (terms x y (prod x y n) n m) t + dg x n * dg y m) := by
              rw [← ht]
              show term x y _ n m = _
              unfold term
              rw [if_pos hnm]
            generalize hPP : dg (terms x y (prod x y n) n m) t = e at hp ft htm
            generalize dg x n = a at fx hx htm
            generalize dg y m = b at fy hy htm
            have hmul := Nat.mul_le_mul hx hy
            obtain ⟨p, hpq⟩ : ∃ p, a * b = p := ⟨_, rfl⟩
            rw [hpq] at hmul htm
            have hp1 : (a : Int) * (b : Int) = (p : Int) := by rw [← hpq, Int.natCast_mul]
            have hp2 : IntKind.u64.wrap ((a : Int) * (b : Int)) = (p : Int) := by rw [hp1, IntKind.wrap_u64]; omega
            have hp3 : ((a : Int) * (b : Int)) % 18446744073709551616 = (p : Int) := by rw [hp1]; omega
            obtain ⟨s, hs⟩ : ∃ s, e + p = s := ⟨_, rfl⟩
            rw [hs] at htm
            have hs1 : IntKind.u64.wrap ((e : Int) + (p : Int)) = (s : Int) := by rw [IntKind.wrap_u64]; omega
            have hs2 : ((e : Int) + (p : Int)) % 18446744073709551616 = (s : Int) := by omega
            have HNX := Lib.hid htm
            clear hx0 hy0 hz hr hbel htm hs hpq hp1 hmul hx hy hp hPP ht hB 
            go_upto_region 9 with fail
            clear dn dl
            go_region
            (try simp only [hp2, hp3, hs1, hs2])
            clear fx fy ft zt hsw1 hsb bt hp2 hp3 hs1 hs2 
            go_wp2_with fail
            go_roundw
            case rel =>
              refine ⟨m + 1, by omega, by go_num, HH.out.1.drew.far (by simp) _, HH.out.2.1.drew.far (by simp) _, HH.out.2.2.1.drew.far (by simp) _, ?_, HH.out.2.2.2.2.drew.setCell (by dsimp only; omega) _⟩
              rw [HNX.out]
              exact HH.out.2.2.2.1.drew.setLim t s
            case measure => simp [intOf]; omega
          · have dl : decide ((n : Int) + (m : Int) < 5) = false := by simp; omega
            obtain ⟨t, ht⟩ : ∃ t, n + m - 5 = t := ⟨_, rfl⟩
            have hsw1 : IntKind.i64.wrap ((n : Int) + (m : Int)) = (n : Int) + (m : Int) := IntWalk.i64_in _ (by omega)
            have hsb : (n : Int) + (m : Int) - 5 = (t : Int) := by omega
            have hsw : IntKind.i64.wrap ((n : Int) + (m : Int) - 5) = (t : Int) := by rw [hsb]; exact IntWalk.i64_in _ (by omega)
            have bt : (t : Int) < 5 := by omega
            have ft := hr.lim t (by omega)
            have zt := hr.frozen t
            have hp := hB t
            have htm : terms x y (prod x y n) n (m + 1) = (terms x y (prod x y n) n m).set t (dg (terms x y (prod x y n) n m) t + 5 * dg x n * dg y m) := by
              rw [← ht]
              show term x y _ n m = _
              unfold term
              rw [if_neg hnm]
            generalize hPP : dg (terms x y (prod x y n) n m) t = e at hp ft htm
            generalize dg x n = a at fx hx htm
            generalize dg y m = b at fy hy htm
            have hmul := Nat.mul_le_mul hx hy
            obtain ⟨c, hcq⟩ : ∃ c, 5 * a = c := ⟨_, rfl⟩
            have hmul := Nat.mul_le_mul (show c ≤ 1342177275 by omega) hy
            obtain ⟨p, hpq⟩ : ∃ p, c * b = p := ⟨_, rfl⟩
            rw [hcq, hpq] at htm
            rw [hpq] at hmul
            have hc2 : IntKind.u64.wrap (5 * (a : Int)) = (c : Int) := by rw [IntKind.wrap_u64]; omega
            have hc3 : (5 * (a : Int)) % 18446744073709551616 = (c : Int) := by omega
            have hp1 : (c : Int) * (b : Int) = (p : Int) := by rw [← hpq, Int.natCast_mul]
            have hp2 : IntKind.u64.wrap ((c : Int) * (b : Int)) = (p : Int) := by rw [hp1, IntKind.wrap_u64]; omega
            have hp3 : ((c : Int) * (b : Int)) % 18446744073709551616 = (p : Int) := by rw [hp1]; omega
            obtain ⟨s, hs⟩ : ∃ s, e + p = s := ⟨_, rfl⟩
            rw [hs] at htm
            have hs1 : IntKind.u64.wrap ((e : Int) + (p : Int)) = (s : Int) := by rw [IntKind.wrap_u64]; omega
            have hs2 : ((e : Int) + (p : Int)) % 18446744073709551616 = (s : Int) := by omega
            have HNX := Lib.hid htm
            clear hx0 hy0 hz hr hbel htm hs hpq hp1 hmul hx hy hp hPP ht hB hcq
            go_upto_region 10 with fail
            clear dn dl
            go_region
            (try simp only [hc2, hc3, hp2, hp3, hs1, hs2])
            clear fx fy ft zt hsw1 hsb bt hp2 hp3 hs1 hs2 hsw hc2 hc3
            go_wp2_with fail
            go_roundw
            case rel =>
              refine ⟨m + 1, by omega, by go_num, HH.out.1.drew.far (by simp) _, HH.out.2.1.drew.far (by simp) _, HH.out.2.2.1.drew.far (by simp) _, ?_, HH.out.2.2.2.2.drew.setCell (by dsimp only; omega) _⟩
              rw [HNX.out]
              exact HH.out.2.2.2.1.drew.setLim t s
            case measure => simp [intOf]; omega
        · obtain rfl : m = 5 := by omega
          clear hx0 hy0 hz hr hbel
          rw [show ((5 : Nat) : Int) = 5 from rfl]
          go_wp2_with fail
          go_roundw
          case rel => exact ⟨n + 1, by omega, by go_num, HH.out.1, HH.out.2.1, HH.out.2.2.1, HH.out.2.2.2.1, HH.out.2.2.2.2⟩
          case measure => simp [intOf]; omega
    · obtain rfl : n = 5 := by omega
      have C1 := carry_any (prod x y 5) (prod_length x y 5) (fun k => by have := prod_le x y _ _ HX.out.2 HY.out.2 5 (by omega) k; omega)
      have C2 := carry_any (carryN (prod x y 5)) (by rw [carryN_length, prod_length]) (fun k => carry1_le x y HX.out.2 HY.out.2 k)
      have hlz := mulN_length x y
      rw [show carryN (carryN (prod x y 5)) = mulN x y from rfl] at C2
      have hpl := prod_length x y 5
      have hr := HH.out.2.2.2.1
      obtain ⟨lz, hz⟩ : ∃ lz, mulN x y = lz := ⟨_, rfl⟩
      rw [hz] at C2 hlz
      have HZ := Lib.hid hz
      clear hz
      obtain ⟨cp, hcp⟩ : ∃ cp, ((prod x y 5).map lv).toArray = cp := ⟨_, rfl⟩
      obtain ⟨c1, hc1⟩ : ∃ c1, ((carryN (prod x y 5)).map lv).toArray = c1 := ⟨_, rfl⟩
      obtain ⟨cz, hcz⟩ : ∃ cz, (lz.map lv).toArray = cz := ⟨_, rfl⟩
      rw [hcp, hc1] at C1
      rw [hc1, hcz] at C2
      generalize prod x y 5 = lp at hr hcp hpl HH
      have HC := Lib.hid (And.intro C1 C2)
      have HL := Lib.hid (And.intro hcp (And.intro hcz (And.intro hpl hlz)))
      have HB := Lib.hid (And.intro hr (And.intro HH.out.2.2.1 HH.out.2.2.2.2))
      clear C1 C2 hlz hpl hr hcp hc1 hcz HH
      rw [show ((5 : Nat) : Int) = 5 from rfl]
      go_wp2_with (refine wpList_load_blk rfl 40 (.tmp 5) rfl (w.heap.size + 3) rfl 40 (lp.map lv) HB.out.1 5 38 Try.underlying40 (cells5 lp HL.out.2.2.1) ?_; rw [HL.out.1])
      refine (HC.out.1 _).mono ?_
      rintro e w4 ⟨rfl, hb4⟩
      have HB4 := Lib.hid (And.intro (HB.out.2.1.below hb4 HB.out.2.1.lt) (HB.out.2.2.trans (hb4.mono HB.out.2.2.size)))
      clear hb4 HB
      go_wp2_with fail
      refine (HC.out.2 _).mono ?_
      rintro e w5 ⟨rfl, hb5⟩
      have HB5 := Lib.hid (And.intro (HB4.out.1.below hb5 HB4.out.1.lt) (HB4.out.2.trans (hb5.mono HB4.out.2.size)))
      clear hb5 HB4
      go_wp2_with (refine wpList_store_blk rfl 40 (.tmp 4) (.tmp 52) rfl (w.heap.size + 2) (lz.map lv) rfl (by show Value.agg cz = _; rw [HL.out.2.1]) 40 z5 HB5.out.1 (cells5 lz HL.out.2.2.2) (by rw [List.length_map, HL.out.2.2.2]; rfl) (lv_one _) ?_; intro w9 hb9 hg9)
      exact bodyPost_ret (results_blk rfl _ _ (w.heap.size + 2) 40 (lz.map lv) 5 38 rfl hb9 Try.underlying40 (cells5 lz HL.out.2.2.2)) rfl ⟨by rw [HZ.out], below_blk HB5.out.2 hg9 (by omega)⟩
end Go.Proofs.Ythjhohmmdnjpkaa
