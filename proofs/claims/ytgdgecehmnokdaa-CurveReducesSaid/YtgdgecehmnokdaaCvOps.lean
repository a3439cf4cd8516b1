/-
  Limbs in memory; the contracts of the program's carry, add and subtract over five limbs of 51 bits. No statement is proved here.
-/
import Derived.Test.YtgdgecehmnokdaaCuMem
import Derived.Test.YtgdgecehmnokdaaOr64
import Derived.Test.YtgdgecehmnokdaaBuildAs
import Derived.Test.YtgdgecehmnokdaaCvMath
namespace Go.Proofs.Ytgdgecehmnokdaa.Cv
open Go.RowKit

/-- a limb as a cell -/
def uv (n : Nat) : Value := .int .u64 (n : Int)
theorem uv_one (l : List Nat) : ∀ v ∈ l.map uv, v.oneCell' = true := by
  intro v hv
  obtain ⟨b, _, rfl⟩ := List.mem_map.1 hv
  rfl
theorem lim {w : World} {g : Nat} {t : TypeId} {l : List Nat} (h : Blk w g t (l.map uv)) (i : Nat) (hi : i < l.length) : w.cell? ⟨g, i, none⟩ = some (.int .u64 (dg l i : Int)) := by
  rw [h.cell i]
  simp [uv, hi, dg, List.getD]
def z5 : List Value := [.int .u64 0, .int .u64 0, .int .u64 0, .int .u64 0, .int .u64 0]
theorem z5_map : z5 = (List.replicate 5 0).map uv := rfl
theorem cells5 (l : List Nat) (h : l.length = 5) : (Try.prog.info? 51).map (·.size) = some (l.map uv).length := by
  rw [List.length_map, h]; kernel_rfl
theorem len5 {l : List Nat} (h : l.length = 5) {cs : List Value} (hc : cs.length = 5) : cs.length = (l.map uv).length := by rw [List.length_map, h, hc]
theorem and_mask (s : Nat) (k : Nat) (hs : s < 18446744073709551616) (hk : k < 64) : bits BinOp.and IntKind.u64 (s : Int) ((2 ^ k - 1 : Nat) : Int) = ((s % 2 ^ k : Nat) : Int) := by
  have hk2 : 2 ^ k ≤ 2 ^ 64 := Nat.pow_le_pow_right (by omega) (by omega)
  rw [u64_and_nat _ _ hs (by omega), Nat.and_two_pow_sub_one_eq_mod]
theorem mask51 (s : Nat) (hs : s < 18446744073709551616) : bits BinOp.and IntKind.u64 (s : Int) 2251799813685247 = ((s % 2251799813685248 : Nat) : Int) := and_mask s 51 hs (by omega)

set_option maxRecDepth 100000 in
set_option maxHeartbeats 2000000 in
theorem carry_any (l : List Nat) (hl : l.length = 5) (hd : ∀ i, dg l i ≤ 9223372036854775808) (w : World) :
    Calls Try.prog 39 #[.agg (l.map uv).toArray] w fun e w' => e = .returned (.agg ((carryN l).map uv).toArray) ∧ Below w.heap.size w w' := by
  obtain ⟨cl, hcl⟩ : ∃ cl, (l.map uv).toArray = cl := ⟨_, rfl⟩
  rw [hcl]
  have HM := Lib.hid (show Mem w [blkE (w.heap.size + 1) 51 z5, blkE w.heap.size 51 (l.map uv)] ((w.alloc (.cells cl 51)).alloc (.cells #[.int .u64 0, .int .u64 0, .int .u64 0, .int .u64 0, .int .u64 0] 51)) from ((Mem.nil w).alloc rfl 51 cl (l.map uv) hcl.symm).alloc (by simp) 51 #[.int .u64 0, .int .u64 0, .int .u64 0, .int .u64 0, .int .u64 0] z5 rfl)
  have HL := Lib.hid hl
  have HD := Lib.hid hd
  have HC := Lib.hid hcl
  clear hd hl hcl
  go_enter Try.func39, Try.ntmps39
  go_upto_region 1 with fail
  generalize ((w.alloc (.cells cl 51)).alloc (.cells #[.int .u64 0, .int .u64 0, .int .u64 0, .int .u64 0, .int .u64 0] 51)) = w1 at HM ⊢
  have HA := Lib.hid (show Mem w [blkE w1.heap.size 51 z5, blkE (w.heap.size + 1) 51 z5, blkE w.heap.size 51 (l.map uv)] (w1.alloc (.cells #[.int .u64 0, .int .u64 0, .int .u64 0, .int .u64 0, .int .u64 0] 51)) from HM.out.alloc rfl 51 #[.int .u64 0, .int .u64 0, .int .u64 0, .int .u64 0, .int .u64 0] z5 rfl)
  go_upto_region 2 with (first | (refine wpList_load_blk rfl 51 (.tmp 1) rfl w.heap.size rfl 51 (l.map uv) (HM.out.blk 1 rfl) 5 49 Try.underlying51 (cells5 l (by first | assumption | exact HL.out.1 | exact HL.out | exact HLz.out)) ?_; rw [HC.out]) | (refine wpList_store_blk rfl 51 (.tmp 3) (.tmp 6) rfl w1.heap.size (l.map uv) rfl (by show Value.agg cl = _; rw [HC.out]) 51 (z5) (HA.out.blk 0 rfl) (cells5 l HL.out) (len5 (HL.out) rfl) (uv_one _) ?_; intro w2 hb9 hg9))
  (try simp only [Act.put])
  replace HM := Lib.hid (HA.out.put 0 rfl (l.map uv) hg9 hb9)
  clear HA hb9 hg9
  generalize w1.heap.size = G at HM ⊢
  replace HM := Lib.hid (show Mem w [blkE G 51 (l.map uv), blkE (w.heap.size + 1) 51 z5] w2 from HM.out.erase 2)
  go_wp2_with fail
  go_loopw [4, 7, 5] (fun u i _ wr => ∃ n : Nat, n ≤ 5 ∧ i = .int .i64 (n : Int) ∧ u = .int .u64 ((cst l n).2 : Int) ∧ Mem w [blkE G 51 ((cst l n).1.map uv), blkE (w.heap.size + 1) 51 z5] wr) (fun _ i _ _ => 5 - (intOf i).toNat)
  case atStart => exact ⟨0, by omega, rfl, rfl, HM.out⟩
  case round =>
    clear HM
    obtain ⟨n, hn, rfl, rfl, hM⟩ := hrel
    have HM := Lib.hid hM
    clear hM
    by_cases hln : n < 5
    · have d5 : decide ((n : Int) < 5) = true := by simp; omega
      have hlen : (cst l n).1.length = 5 := by rw [cst_length]; exact HL.out
      have fx := lim (HM.out.blk 0 rfl) n (by omega)
      have zx := (HM.out.blk 0 rfl).frozen n
      have hu := cst_carry l 8192 (fun i => by have := HD.out i; omega) n (by rw [HL.out]; omega)
      have hdn : dg (cst l n).1 n ≤ 9223372036854775808 := by rw [cst_above l n n (Nat.le_refl _) (by rw [HL.out]; omega)]; exact HD.out n
      have hnx : cst l (n + 1) = ((cst l n).1.set n ((dg (cst l n).1 n + (cst l n).2) % 2251799813685248), (dg (cst l n).1 n + (cst l n).2) / 2251799813685248) := rfl
      generalize (cst l n).2 = u at hu hnx ⊢
      generalize hdd : dg (cst l n).1 n = d at fx hdn hnx
      obtain ⟨s, hs⟩ : ∃ s, d + u = s := ⟨_, rfl⟩
      have hs1 : IntKind.u64.wrap ((d : Int) + (u : Int)) = (s : Int) := by rw [IntKind.wrap_u64]; omega
      obtain ⟨m, hmm⟩ : ∃ m, s % 2251799813685248 = m := ⟨_, rfl⟩
      obtain ⟨q, hqq⟩ : ∃ q, s / 2251799813685248 = q := ⟨_, rfl⟩
      have hm : bits BinOp.and IntKind.u64 (s : Int) 2251799813685247 = (m : Int) := by rw [← hmm]; exact mask51 s (by omega)
      have hq : (s : Int) / 2251799813685248 = (q : Int) := by omega
      have HNX := Lib.hid (show cst l (n + 1) = ((cst l n).1.set n m, q) by rw [hnx, hs, hmm, hqq])
      have HN := Lib.hid (show Mem w [blkE G 51 (((cst l n).1.set n s).map uv), blkE (w.heap.size + 1) 51 z5] (wr.setCell ⟨G, n, none⟩ (.int .u64 (s : Int))) from by have h := HM.out.setCell 0 rfl n (uv s); rw [← List.map_set] at h; exact h)
      have g1 : (wr.setCell ⟨G, n, none⟩ (.int .u64 (s : Int))).cell? ⟨G, n, none⟩ = some (.int .u64 (s : Int)) := by
        have := lim (HN.out.blk 0 rfl) n (by rw [List.length_set]; omega)
        rwa [dg_set _ _ _ _ (by omega), if_pos rfl] at this
      have g2 := (HN.out.blk 0 rfl).frozen n
      clear hnx hdd hlen hs hmm hqq hu hdn HM
      go_upto_region 7 with fail
      (try simp only [hs1])
      generalize wr.setCell ⟨G, n, none⟩ (.int .u64 (s : Int)) = w3 at g1 g2 HN ⊢
      clear fx zx hs1
      go_wp2_with fail
      go_roundw
      case rel =>
        refine ⟨n + 1, by omega, by go_num, by rw [HNX.out], ?_⟩
        rw [HNX.out]
        have h := HN.out.setCell 0 rfl n (uv m)
        rw [← List.map_set, List.set_set] at h
        exact h
      case measure => simp [intOf]; omega
    · obtain rfl : n = 5 := by omega
      have hlen : (cst l 5).1.length = 5 := by rw [cst_length]; exact HL.out
      have fx := lim (HM.out.blk 0 rfl) 0 (by omega)
      have zx := (HM.out.blk 0 rfl).frozen 0
      have hu := cst_carry l 8192 (fun i => by have := HD.out i; omega) 5 (by rw [HL.out]; omega)
      have hb := cst_below l 5 0 (by omega) (by rw [HL.out]; omega)
      obtain ⟨lz, hlz⟩ : ∃ lz, carryN l = lz := ⟨_, rfl⟩
      have hcn : carryN l = (cst l 5).1.set 0 (dg (cst l 5).1 0 + 19 * (cst l 5).2) := rfl
      have HLz := Lib.hid (show lz.length = 5 by rw [← hlz, carryN_length]; exact HL.out)
      generalize (cst l 5).2 = u at hu hcn ⊢
      generalize hdd : dg (cst l 5).1 0 = d at fx hb hcn
      obtain ⟨v, hv⟩ : ∃ v, 19 * u = v := ⟨_, rfl⟩
      obtain ⟨s, hs⟩ : ∃ s, d + v = s := ⟨_, rfl⟩
      have hv1 : IntKind.u64.wrap (19 * (u : Int)) = (v : Int) := by rw [IntKind.wrap_u64]; omega
      have hs1 : IntKind.u64.wrap ((d : Int) + (v : Int)) = (s : Int) := by rw [IntKind.wrap_u64]; omega
      rw [hv, hs, hlz] at hcn
      have HN := Lib.hid (show Mem w [blkE G 51 (lz.map uv), blkE (w.heap.size + 1) 51 z5] (wr.setCell ⟨G, 0, none⟩ (.int .u64 (s : Int))) from by have h := HM.out.setCell 0 rfl 0 (uv s); rw [← List.map_set, ← hcn] at h; exact h)
      have HZ := Lib.hid hlz
      obtain ⟨cz, hcz⟩ : ∃ cz, (lz.map uv).toArray = cz := ⟨_, rfl⟩
      have HCZ := Lib.hid hcz
      clear HM hcz hlz hlen hu hb hv hs hcn hdd
      rw [show ((5 : Nat) : Int) = 5 from rfl]
      go_upto_region 11 with fail
      (try simp only [hv1, hs1])
      generalize wr.setCell ⟨G, 0, none⟩ (.int .u64 (s : Int)) = w3 at HN ⊢
      clear fx zx hs1 hv1
      go_wp2_with (first | (refine wpList_load_blk rfl 51 (.tmp 3) rfl G rfl 51 (lz.map uv) (HN.out.blk 0 rfl) 5 49 Try.underlying51 (cells5 lz (by first | assumption | exact HL.out.1 | exact HL.out | exact HLz.out)) ?_; rw [HCZ.out]) | (refine wpList_store_blk rfl 51 (.tmp 2) (.tmp 32) rfl (w.heap.size + 1) (lz.map uv) rfl (by show Value.agg cz = _; rw [HCZ.out]) 51 (z5) (HN.out.blk 1 rfl) (cells5 lz HLz.out) (len5 (HLz.out) rfl) (uv_one _) ?_; intro w9 hb9 hg9))
      exact bodyPost_ret (results_blk rfl _ _ (w.heap.size + 1) 51 (lz.map uv) 5 49 rfl hb9 Try.underlying51 (cells5 lz HLz.out)) rfl ⟨by rw [HZ.out], (HN.out.put 1 rfl _ hg9 hb9).bel⟩

set_option maxRecDepth 100000 in
set_option maxHeartbeats 2000000 in
theorem add_any (x y : List Nat) (hx : SmallN x) (hy : SmallN y) (w : World) :
    Calls Try.prog 37 #[.agg (x.map uv).toArray, .agg (y.map uv).toArray] w fun e w' => e = .returned (.agg ((addN x y).map uv).toArray) ∧ Below w.heap.size w w' := by
  obtain ⟨cx, hcx⟩ : ∃ cx, (x.map uv).toArray = cx := ⟨_, rfl⟩
  obtain ⟨cy, hcy⟩ : ∃ cy, (y.map uv).toArray = cy := ⟨_, rfl⟩
  rw [hcx, hcy]
  have HM := Lib.hid (show Mem w [blkE (w.heap.size + 1 + 1) 51 z5, blkE (w.heap.size + 1) 51 (y.map uv), blkE w.heap.size 51 (x.map uv)] (((w.alloc (.cells cx 51)).alloc (.cells cy 51)).alloc (.cells #[.int .u64 0, .int .u64 0, .int .u64 0, .int .u64 0, .int .u64 0] 51)) from (((Mem.nil w).alloc rfl 51 cx (x.map uv) hcx.symm).alloc (by simp) 51 cy (y.map uv) hcy.symm).alloc (by simp) 51 #[.int .u64 0, .int .u64 0, .int .u64 0, .int .u64 0, .int .u64 0] z5 rfl)
  have HX := Lib.hid hx
  have HY := Lib.hid hy
  have HC := Lib.hid hcx
  clear hx hy hcx hcy
  go_enter Try.func37, Try.ntmps37
  go_upto_region 1 with fail
  generalize (((w.alloc (.cells cx 51)).alloc (.cells cy 51)).alloc (.cells #[.int .u64 0, .int .u64 0, .int .u64 0, .int .u64 0, .int .u64 0] 51)) = w1 at HM ⊢
  have HA := Lib.hid (show Mem w [blkE w1.heap.size 51 ((List.replicate 5 0).map uv), blkE (w.heap.size + 1 + 1) 51 z5, blkE (w.heap.size + 1) 51 (y.map uv), blkE w.heap.size 51 (x.map uv)] (w1.alloc (.cells #[.int .u64 0, .int .u64 0, .int .u64 0, .int .u64 0, .int .u64 0] 51)) from HM.out.alloc rfl 51 #[.int .u64 0, .int .u64 0, .int .u64 0, .int .u64 0, .int .u64 0] ((List.replicate 5 0).map uv) rfl)
  go_upto_region 2 with (first | (refine wpList_load_blk rfl 51 (.tmp 2) rfl w.heap.size rfl 51 (x.map uv) (HM.out.blk 2 rfl) 5 49 Try.underlying51 (cells5 x (by first | assumption | exact HX.out.1 | exact HL.out | exact HLz.out)) ?_; rw [HC.out]) | (refine wpList_store_blk rfl 51 (.tmp 5) (.tmp 7) rfl w1.heap.size (x.map uv) rfl (by show Value.agg cx = _; rw [HC.out]) 51 ((List.replicate 5 0).map uv) (HA.out.blk 0 rfl) (cells5 x HX.out.1) (len5 (HX.out.1) rfl) (uv_one _) ?_; intro w2 hb9 hg9))
  (try simp only [Act.put])
  replace HM := Lib.hid (show Mem w [blkE w1.heap.size 51 ((x).map uv), blkE (w.heap.size + 1 + 1) 51 z5, blkE (w.heap.size + 1) 51 (y.map uv), blkE w.heap.size 51 (x.map uv)] w2 from HA.out.put 0 rfl (x.map uv) hg9 hb9)
  clear HA hb9 hg9
  generalize w1.heap.size = G at HM ⊢
  go_wp2_with fail
  go_loopw [8, 6] (fun i _ wr => ∃ n : Nat, n ≤ 5 ∧ i = .int .i64 (n : Int) ∧ Mem w [blkE G 51 ((upd (addF x y) x n).map uv), blkE (w.heap.size + 1 + 1) 51 z5, blkE (w.heap.size + 1) 51 (y.map uv), blkE w.heap.size 51 (x.map uv)] wr) (fun i _ _ => 5 - (intOf i).toNat)
  case atStart => exact ⟨0, by omega, rfl, HM.out⟩
  case round =>
    clear HM
    obtain ⟨n, hn, rfl, hM⟩ := hrel
    have HM := Lib.hid hM
    clear hM
    have hbl : x.length = 5 := HX.out.1
    by_cases hln : n < 5
    · have d5 : decide ((n : Int) < 5) = true := by simp; omega
      have hlen : (upd (addF x y) x n).length = 5 := by rw [upd_length]; exact hbl
      have fx := lim (HM.out.blk 0 rfl) n (by omega)
      rw [upd_dg _ _ _ _ (by omega), if_neg (by omega)] at fx
      have fy := lim (HM.out.blk 2 rfl) n (by rw [HY.out.1]; omega)
      have zx := (HM.out.blk 0 rfl).frozen n
      have hd := HX.out.le n
      have hg := HY.out.le n
      have hF : addF x y n = dg x n + dg y n := rfl
      generalize dg x n = d at fx hd hF
      generalize dg y n = g at fy hg hF
      generalize hs : addF x y n = s at hF
      have hs1 : IntKind.u64.wrap ((d : Int) + (g : Int)) = (s : Int) := by rw [IntKind.wrap_u64]; omega
      have hs2 : ((d : Int) + (g : Int)) % 18446744073709551616 = (s : Int) := by omega
      have HNX := Lib.hid (show upd (addF x y) x (n + 1) = (upd (addF x y) x n).set n s by rw [upd, hs])
      clear hlen hs hd hg hF
      go_upto_region 5 with fail
      go_region
      (try simp only [hs1, hs2])
      clear fx fy zx hs1 hs2
      go_wp2_with fail
      go_roundw
      case rel =>
        refine ⟨n + 1, by omega, by go_num, ?_⟩
        rw [HNX.out]
        have h := HM.out.drew.setCell 0 rfl n (uv s)
        rw [← List.map_set] at h
        exact h
      case measure => simp [intOf]; omega
    · obtain rfl : n = 5 := by omega
      obtain ⟨lz, hlz⟩ : ∃ lz, addN x y = lz := ⟨_, rfl⟩
      rw [show upd (addF x y) x 5 = lz from hlz] at HM
      have HLz := Lib.hid (show lz.length = 5 by rw [← hlz, addN, upd_length]; exact hbl)
      have HZ := Lib.hid hlz
      obtain ⟨cz, hcz⟩ : ∃ cz, (lz.map uv).toArray = cz := ⟨_, rfl⟩
      have HCZ := Lib.hid hcz
      clear hcz hlz hbl
      rw [show ((5 : Nat) : Int) = 5 from rfl]
      go_wp2_with (first | (refine wpList_load_blk rfl 51 (.tmp 5) rfl G rfl 51 (lz.map uv) (HM.out.blk 0 rfl) 5 49 Try.underlying51 (cells5 lz (by first | assumption | exact HL.out.1 | exact HL.out | exact HLz.out)) ?_; rw [HCZ.out]) | (refine wpList_store_blk rfl 51 (.tmp 4) (.tmp 20) rfl (w.heap.size + 1 + 1) (lz.map uv) rfl (by show Value.agg cz = _; rw [HCZ.out]) 51 (z5) (HM.out.blk 1 rfl) (cells5 lz HLz.out) (len5 (HLz.out) rfl) (uv_one _) ?_; intro w9 hb9 hg9))
      exact bodyPost_ret (results_blk rfl _ _ (w.heap.size + 1 + 1) 51 (lz.map uv) 5 49 rfl hb9 Try.underlying51 (cells5 lz HLz.out)) rfl ⟨by rw [HZ.out], (HM.out.put 1 rfl _ hg9 hb9).bel⟩

set_option maxRecDepth 100000 in
set_option maxHeartbeats 2000000 in
theorem sub_any (x y : List Nat) (hx : SmallN x) (hy : SmallN y) (w : World) :
    Calls Try.prog 38 #[.agg (x.map uv).toArray, .agg (y.map uv).toArray] w fun e w' => e = .returned (.agg ((subN x y).map uv).toArray) ∧ Below w.heap.size w w' := by
  obtain ⟨cx, hcx⟩ : ∃ cx, (x.map uv).toArray = cx := ⟨_, rfl⟩
  obtain ⟨cy, hcy⟩ : ∃ cy, (y.map uv).toArray = cy := ⟨_, rfl⟩
  rw [hcx, hcy]
  have HM := Lib.hid (show Mem w [blkE (w.heap.size + 1 + 1) 51 z5, blkE (w.heap.size + 1) 51 (y.map uv), blkE w.heap.size 51 (x.map uv)] (((w.alloc (.cells cx 51)).alloc (.cells cy 51)).alloc (.cells #[.int .u64 0, .int .u64 0, .int .u64 0, .int .u64 0, .int .u64 0] 51)) from (((Mem.nil w).alloc rfl 51 cx (x.map uv) hcx.symm).alloc (by simp) 51 cy (y.map uv) hcy.symm).alloc (by simp) 51 #[.int .u64 0, .int .u64 0, .int .u64 0, .int .u64 0, .int .u64 0] z5 rfl)
  have HX := Lib.hid hx
  have HY := Lib.hid hy
  obtain ⟨ct, hct⟩ : ∃ ct, (twoP.map uv).toArray = ct := ⟨_, rfl⟩
  have hbt : Try.prog.built 51 [(0, .int .u64 4503599627370458), (1, .int .u64 4503599627370494), (2, .int .u64 4503599627370494), (3, .int .u64 4503599627370494), (4, .int .u64 4503599627370494)] = some ct := by rw [← hct]; kernel_rfl
  have HC := Lib.hid hct
  have HBT := Lib.hid hbt
  clear hct hbt
  clear hx hy hcx hcy
  go_enter Try.func38, Try.ntmps38
  go_upto_region 1 with fail
  generalize (((w.alloc (.cells cx 51)).alloc (.cells cy 51)).alloc (.cells #[.int .u64 0, .int .u64 0, .int .u64 0, .int .u64 0, .int .u64 0] 51)) = w1 at HM ⊢
  have HA := Lib.hid (show Mem w [blkE w1.heap.size 51 ((List.replicate 5 0).map uv), blkE (w.heap.size + 1 + 1) 51 z5, blkE (w.heap.size + 1) 51 (y.map uv), blkE w.heap.size 51 (x.map uv)] (w1.alloc (.cells #[.int .u64 0, .int .u64 0, .int .u64 0, .int .u64 0, .int .u64 0] 51)) from HM.out.alloc rfl 51 #[.int .u64 0, .int .u64 0, .int .u64 0, .int .u64 0, .int .u64 0] ((List.replicate 5 0).map uv) rfl)
  go_upto_region 2 with (first | (refine wpList_build_as rfl 51 [(0, .const (.int .u64 4503599627370458)), (1, .const (.int .u64 4503599627370494)), (2, .const (.int .u64 4503599627370494)), (3, .const (.int .u64 4503599627370494)), (4, .const (.int .u64 4503599627370494))] rfl ct HBT.out ?_) | (refine wpList_store_blk rfl 51 (.tmp 5) (.tmp 7) rfl w1.heap.size (twoP.map uv) rfl (by show Value.agg ct = _; rw [HC.out]) 51 ((List.replicate 5 0).map uv) (HA.out.blk 0 rfl) (cells5 twoP rfl) (len5 (rfl) rfl) (uv_one _) ?_; intro w2 hb9 hg9))
  (try simp only [Act.put])
  replace HM := Lib.hid (show Mem w [blkE w1.heap.size 51 ((twoP).map uv), blkE (w.heap.size + 1 + 1) 51 z5, blkE (w.heap.size + 1) 51 (y.map uv), blkE w.heap.size 51 (x.map uv)] w2 from HA.out.put 0 rfl (twoP.map uv) hg9 hb9)
  clear HA hb9 hg9
  generalize w1.heap.size = G at HM ⊢
  go_wp2_with fail
  go_loopw [8, 6] (fun i _ wr => ∃ n : Nat, n ≤ 5 ∧ i = .int .i64 (n : Int) ∧ Mem w [blkE G 51 ((upd (subF x y) twoP n).map uv), blkE (w.heap.size + 1 + 1) 51 z5, blkE (w.heap.size + 1) 51 (y.map uv), blkE w.heap.size 51 (x.map uv)] wr) (fun i _ _ => 5 - (intOf i).toNat)
  case atStart => exact ⟨0, by omega, rfl, HM.out⟩
  case round =>
    clear HM
    obtain ⟨n, hn, rfl, hM⟩ := hrel
    have HM := Lib.hid hM
    clear hM
    have hbl : twoP.length = 5 := rfl
    by_cases hln : n < 5
    · have d5 : decide ((n : Int) < 5) = true := by simp; omega
      have hlen : (upd (subF x y) twoP n).length = 5 := by rw [upd_length]; exact hbl
      have fx := lim (HM.out.blk 0 rfl) n (by omega)
      rw [upd_dg _ _ _ _ (by omega), if_neg (by omega)] at fx
      have fy := lim (HM.out.blk 2 rfl) n (by rw [HY.out.1]; omega)
      have zx := (HM.out.blk 0 rfl).frozen n
      have hd := HX.out.le n
      have hg := HY.out.le n
      have fz := lim (HM.out.blk 3 rfl) n (by rw [HX.out.1]; omega)
      have ht := twoP_at n hln
      have hF : subF x y n = dg twoP n + dg x n - dg y n := rfl
      generalize dg x n = d at fz hd hF
      generalize dg y n = g at fy hg hF
      generalize dg twoP n = t at fx ht hF
      generalize hs : subF x y n = s at hF
      obtain ⟨v, hv⟩ : ∃ v : Int, IntKind.u64.wrap ((d : Int) - (g : Int)) = v := ⟨_, rfl⟩
      have hv2 : ((d : Int) - (g : Int)) % 18446744073709551616 = v := by rw [IntKind.wrap_u64] at hv; exact hv
      have hs1 : IntKind.u64.wrap ((t : Int) + v) = (s : Int) := by rw [IntKind.wrap_u64]; omega
      have hs2 : ((t : Int) + v) % 18446744073709551616 = (s : Int) := by omega
      clear ht
      have HNX := Lib.hid (show upd (subF x y) twoP (n + 1) = (upd (subF x y) twoP n).set n s by rw [upd, hs])
      clear hlen hs hd hg hF
      go_upto_region 5 with fail
      go_region
      (try simp only [hs1, hs2])
      clear fx fy zx hs1 hs2 fz hv hv2
      go_wp2_with fail
      go_roundw
      case rel =>
        refine ⟨n + 1, by omega, by go_num, ?_⟩
        rw [HNX.out]
        have h := HM.out.drew.setCell 0 rfl n (uv s)
        rw [← List.map_set] at h
        exact h
      case measure => simp [intOf]; omega
    · obtain rfl : n = 5 := by omega
      obtain ⟨lz, hlz⟩ : ∃ lz, subN x y = lz := ⟨_, rfl⟩
      rw [show upd (subF x y) twoP 5 = lz from hlz] at HM
      have HLz := Lib.hid (show lz.length = 5 by rw [← hlz, subN, upd_length]; exact hbl)
      have HZ := Lib.hid hlz
      obtain ⟨cz, hcz⟩ : ∃ cz, (lz.map uv).toArray = cz := ⟨_, rfl⟩
      have HCZ := Lib.hid hcz
      clear hcz hlz hbl
      rw [show ((5 : Nat) : Int) = 5 from rfl]
      go_wp2_with (first | (refine wpList_load_blk rfl 51 (.tmp 5) rfl G rfl 51 (lz.map uv) (HM.out.blk 0 rfl) 5 49 Try.underlying51 (cells5 lz (by first | assumption | exact HL.out.1 | exact HL.out | exact HLz.out)) ?_; rw [HCZ.out]) | (refine wpList_store_blk rfl 51 (.tmp 4) (.tmp 24) rfl (w.heap.size + 1 + 1) (lz.map uv) rfl (by show Value.agg cz = _; rw [HCZ.out]) 51 (z5) (HM.out.blk 1 rfl) (cells5 lz HLz.out) (len5 (HLz.out) rfl) (uv_one _) ?_; intro w9 hb9 hg9))
      exact bodyPost_ret (results_blk rfl _ _ (w.heap.size + 1 + 1) 51 (lz.map uv) 5 49 rfl hb9 Try.underlying51 (cells5 lz HLz.out)) rfl ⟨by rw [HZ.out], (HM.out.put 1 rfl _ hg9 hb9).bel⟩
end Go.Proofs.Ytgdgecehmnokdaa.Cv
