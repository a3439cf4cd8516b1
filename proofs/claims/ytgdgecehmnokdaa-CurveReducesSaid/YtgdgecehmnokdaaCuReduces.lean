/-
  CurveReduces returns true for every input, and changes nothing that was there: the walk, over what is asked of curve.Mul.
-/
import Derived.Test.YtgdgecehmnokdaaCells32
import Derived.Test.YtgdgecehmnokdaaCuC
import Derived.Test.YtgdgecehmnokdaaModOf
namespace Go.Proofs.Ytgdgecehmnokdaa
open Go.RowKit

def lowL (r : UInt8) : List UInt8 := r :: List.replicate 31 0
theorem lowL_length (r : UInt8) : (lowL r).length = 32 := rfl
theorem lowL_zero (r : UInt8) : (lowL r).getD 0 0 = r := rfl
def fullJ (j : Nat) : List UInt8 := List.replicate j 255 ++ List.replicate (32 - j) 0
theorem fullJ_length (j : Nat) (h : j ≤ 32) : (fullJ j).length = 32 := by simp [fullJ]; omega
theorem fullJ_step (j : Nat) (h : j < 32) : (fullJ j).set j 255 = fullJ (j + 1) := by
  rw [fullJ, fullJ, List.set_append_right _ _ (by simp), List.length_replicate, Nat.sub_self, show 32 - j = 32 - (j + 1) + 1 by omega, List.replicate_succ, List.set_cons_zero, show List.replicate (j + 1) (255 : UInt8) = List.replicate j 255 ++ [255] from List.replicate_succ', List.append_assoc]
  rfl
def highL (r : UInt8) : List UInt8 := ((List.replicate 32 255).set 0 (237 + r)).set 31 127
theorem highL_length (r : UInt8) : (highL r).length = 32 := rfl
theorem high_low (a : List UInt8) (m : Nat) (h : m < 19) : mulL a (highL (UInt8.ofNat m)) = mulL a (lowL (UInt8.ofNat m)) := by
  have e : ∀ m : Fin 19, numL (highL (UInt8.ofNat m.val)) % 2 ^ 255 = Cu.P25 + m.val ∧ numL (lowL (UInt8.ofNat m.val)) % 2 ^ 255 = m.val := by decide +kernel
  obtain ⟨e1, e2⟩ := e ⟨m, h⟩
  dsimp only at e1 e2
  have hf : Cu.fq ((numL (highL (UInt8.ofNat m)) % 2 ^ 255 : Nat) : Int) = Cu.fq ((numL (lowL (UInt8.ofNat m)) % 2 ^ 255 : Nat) : Int) := by
    rw [e1, e2]
    apply Cu.fq_of_mod
    rw [Int.natCast_add, Int.add_emod, Int.emod_self, Int.zero_add, Int.emod_emod]
  rw [mulL, mulL, hf]
theorem low_built (m : UInt8) : Try.prog.built 23 [(0, .int .u8 (m.toNat : Int))] = some ((lowL m).map u8v).toArray := by kernel_rfl

set_option linter.unusedSimpArgs false in
set_option maxRecDepth 100000 in
set_option maxHeartbeats 4000000 in
theorem cu_reduces_walk (HMU : CuMulC) (w : World) (a : List UInt8) (n : Nat) (ha : a.length = 32) (hn : n ≤ 255) :
    Calls Try.prog 7 #[.agg (a.map u8v).toArray, .int .u8 (n : Int)] w fun e w' => e = .returned (.bool true) ∧ Below w.heap.size w w' := by
  obtain ⟨i0, hi, hz0, hz1, hz2⟩ := info_parts Try.info5
  have hm19 : n % 19 < 19 := Nat.mod_lt _ (by omega)
  have hhl := high_low a (n % 19) hm19
  have hrt : (UInt8.ofNat (n % 19)).toNat = n % 19 := by rw [UInt8.toNat_ofNat', Nat.mod_eq_of_lt (by omega)]
  obtain ⟨r, hr⟩ : ∃ r, UInt8.ofNat (n % 19) = r := ⟨_, rfl⟩
  rw [hr] at hhl hrt
  have M1 := fun W : World => HMU a (highL r) ha (highL_length r) W
  have M2 := fun W : World => HMU a (lowL r) ha (lowL_length r) W
  rw [hhl] at M1
  have ex := fun w' : World => run_key_eq (P := Try.prog) 23 5 32 Try.underlying23 Try.underlying5 i0 hi hz1 (mulL a (lowL r)) (mulL a (lowL r)) (mulL_length _ _) (mulL_length _ _) w'
  rw [show (mulL a (lowL r) == mulL a (lowL r)) = true by simp] at ex
  have hr19 : (n : Int) % 19 = (r.toNat : Int) := by omega
  have bl := low_built r
  rw [← hr19] at bl
  have bz := zero_built
  obtain ⟨ca, hca⟩ : ∃ c, (a.map u8v).toArray = c := ⟨_, rfl⟩
  obtain ⟨ch, hch⟩ : ∃ c, ((highL r).map u8v).toArray = c := ⟨_, rfl⟩
  obtain ⟨cl, hcl⟩ : ∃ c, ((lowL r).map u8v).toArray = c := ⟨_, rfl⟩
  obtain ⟨cm, hcm⟩ : ∃ c, ((mulL a (lowL r)).map u8v).toArray = c := ⟨_, rfl⟩
  obtain ⟨cz, hcz⟩ : ∃ c, (zeroK.map u8v).toArray = c := ⟨_, rfl⟩
  rw [hca, hch, hcm] at M1
  rw [hca, hcl, hcm] at M2
  rw [hcm] at ex
  rw [hcl] at bl
  rw [hcz] at bz
  rw [hca]
  have HM := Lib.hid (show Mem w [blkE w.heap.size 23 (a.map u8v)] (w.alloc (.cells ca 23)) from (Mem.nil w).alloc rfl 23 ca (a.map u8v) hca.symm)
  have HC := Lib.hid (And.intro hca (And.intro hch (And.intro hcl hcz)))
  have HBL := Lib.hid (And.intro bl bz)
  have HL := Lib.hid ha
  have HM1 := Lib.hid M1
  have HM2 := Lib.hid M2
  have HEX := Lib.hid ex
  have HBG := Lib.hid (fun W : World => cu_begun_any HMU W)
  clear hca hch hcl hcm hcz M1 M2 ex bl bz hhl hr ha HMU
  have HRB := Lib.hid (show r.toNat < 19 ∧ (n : Int) % 19 = (r.toNat : Int) from ⟨by omega, hr19⟩)
  clear hr19 hrt hm19
  go_enter Try.func7, Try.ntmps7
  go_upto_region 1 with fail
  generalize (w.alloc (.cells ca 23)) = w1 at HM ⊢
  have HA := Lib.hid (show Mem w [blkE (w1.heap.size + 1) 23 (aeZ 32), blkE w1.heap.size 23 (aeZ 32), blkE w.heap.size 23 (a.map u8v)] ((w1.alloc (.cells #[.int .u8 0, .int .u8 0, .int .u8 0, .int .u8 0, .int .u8 0, .int .u8 0, .int .u8 0, .int .u8 0, .int .u8 0, .int .u8 0, .int .u8 0, .int .u8 0, .int .u8 0, .int .u8 0, .int .u8 0, .int .u8 0, .int .u8 0, .int .u8 0, .int .u8 0, .int .u8 0, .int .u8 0, .int .u8 0, .int .u8 0, .int .u8 0, .int .u8 0, .int .u8 0, .int .u8 0, .int .u8 0, .int .u8 0, .int .u8 0, .int .u8 0, .int .u8 0] 23)).alloc (.cells #[.int .u8 0, .int .u8 0, .int .u8 0, .int .u8 0, .int .u8 0, .int .u8 0, .int .u8 0, .int .u8 0, .int .u8 0, .int .u8 0, .int .u8 0, .int .u8 0, .int .u8 0, .int .u8 0, .int .u8 0, .int .u8 0, .int .u8 0, .int .u8 0, .int .u8 0, .int .u8 0, .int .u8 0, .int .u8 0, .int .u8 0, .int .u8 0, .int .u8 0, .int .u8 0, .int .u8 0, .int .u8 0, .int .u8 0, .int .u8 0, .int .u8 0, .int .u8 0] 23)) from (HM.out.alloc rfl 23 #[.int .u8 0, .int .u8 0, .int .u8 0, .int .u8 0, .int .u8 0, .int .u8 0, .int .u8 0, .int .u8 0, .int .u8 0, .int .u8 0, .int .u8 0, .int .u8 0, .int .u8 0, .int .u8 0, .int .u8 0, .int .u8 0, .int .u8 0, .int .u8 0, .int .u8 0, .int .u8 0, .int .u8 0, .int .u8 0, .int .u8 0, .int .u8 0, .int .u8 0, .int .u8 0, .int .u8 0, .int .u8 0, .int .u8 0, .int .u8 0, .int .u8 0, .int .u8 0] (aeZ 32) rfl).alloc (by simp) 23 #[.int .u8 0, .int .u8 0, .int .u8 0, .int .u8 0, .int .u8 0, .int .u8 0, .int .u8 0, .int .u8 0, .int .u8 0, .int .u8 0, .int .u8 0, .int .u8 0, .int .u8 0, .int .u8 0, .int .u8 0, .int .u8 0, .int .u8 0, .int .u8 0, .int .u8 0, .int .u8 0, .int .u8 0, .int .u8 0, .int .u8 0, .int .u8 0, .int .u8 0, .int .u8 0, .int .u8 0, .int .u8 0, .int .u8 0, .int .u8 0, .int .u8 0, .int .u8 0] (aeZ 32) rfl)
  go_upto_region 2 with (first | (refine wpList_build_as rfl 23 [(0, .tmp 9)] rfl cl HBL.out.1 ?_; (try simp only [Act.put, List.setIfInBounds_toArray, List.set_cons_zero, List.set_cons_succ])) | (refine wpList_build_as rfl 23 [] rfl cz HBL.out.2 ?_; (try simp only [Act.put, List.setIfInBounds_toArray, List.set_cons_zero, List.set_cons_succ])) | (refine wpList_store_blk rfl 23 (.tmp 5) (.tmp 10) rfl w1.heap.size ((lowL r).map u8v) rfl (by show Value.agg cl = _; rw [HC.out.2.2.1]) 23 (aeZ 32) (HA.out.blk 1 rfl) (cells32 _ (lowL_length r)) (by rw [List.length_map, lowL_length]; rfl) (u8v_one _) ?_; intro w2 hb2 hg2; (try simp only [Act.put, List.setIfInBounds_toArray, List.set_cons_zero, List.set_cons_succ])) | (refine wpList_store_blk rfl 23 (.tmp 6) (.tmp 11) rfl (w1.heap.size + 1) (zeroK.map u8v) rfl (by show Value.agg cz = _; rw [HC.out.2.2.2]) 23 (aeZ 32) ((HA.out.put 1 rfl _ hg2 hb2).blk 0 rfl) (cells32 _ rfl) (by rfl) (u8v_one _) ?_; intro w3 hb3 hg3))
  (try simp only [Act.put])
  replace HM := Lib.hid (show Mem w [blkE (w1.heap.size + 1) 23 ((fullJ 0).map u8v), blkE w1.heap.size 23 ((lowL r).map u8v), blkE w.heap.size 23 (a.map u8v)] w3 from (HA.out.put 1 rfl _ hg2 hb2).put 0 rfl _ hg3 hb3)
  clear HA hb2 hg2 hb3 hg3
  generalize w1.heap.size = P5 at HM ⊢
  go_wp2_with fail
  go_loopw [12, 7] (fun i _ wr => ∃ j : Nat, j ≤ 32 ∧ i = .int .i64 (j : Int) ∧ Mem w [blkE (P5 + 1) 23 ((fullJ j).map u8v), blkE P5 23 ((lowL r).map u8v), blkE w.heap.size 23 (a.map u8v)] wr) (fun i _ _ => 32 - (intOf i).toNat)
  case atStart => exact ⟨0, by omega, rfl, HM.out⟩
  case round =>
    clear HM
    obtain ⟨j, hj, rfl, hM⟩ := hrel
    have HM := Lib.hid hM
    clear hM
    by_cases hlt : j < 32
    · have fx := (HM.out.blk 0 rfl).byt j (by rw [fullJ_length j hj]; exact hlt)
      have zx := (HM.out.blk 0 rfl).frozen j
      have hs : ((fullJ j).map u8v).set j (.int .u8 255) = (fullJ (j + 1)).map u8v := by rw [← fullJ_step j hlt, List.map_set]; rfl
      have HN := Lib.hid (show ∀ W, Mem w [blkE (P5 + 1) 23 ((fullJ j).map u8v), blkE P5 23 ((lowL r).map u8v), blkE w.heap.size 23 (a.map u8v)] W → Mem w [blkE (P5 + 1) 23 ((fullJ (j + 1)).map u8v), blkE P5 23 ((lowL r).map u8v), blkE w.heap.size 23 (a.map u8v)] (W.setCell ⟨P5 + 1, j, none⟩ (.int .u8 255)) from fun W hW => by have h := hW.setCell 0 rfl j (.int .u8 255); rw [hs] at h; exact h)
      clear hs
      go_upto_region 6 with fail
      clear fx zx
      replace HM := Lib.hid (HN.out _ HM.out)
      clear HN
      go_wp2_with fail
      go_roundw
      case rel => exact ⟨j + 1, by omega, by go_num, HM.out⟩
      case measure => simp [intOf]; omega
    · obtain rfl : j = 32 := by omega
      have f0 := (HM.out.blk 0 rfl).byt 0 (by rw [fullJ_length 32 hj]; omega)
      have z0 := (HM.out.blk 0 rfl).frozen 0
      have hs1 : ((fullJ 32).map u8v).set 0 (.int .u8 (((237 + r : UInt8)).toNat : Int)) = ((fullJ 32).set 0 (237 + r)).map u8v := by rw [List.map_set]; rfl
      have hs2 : (((fullJ 32).set 0 (237 + r)).map u8v).set 31 (.int .u8 127) = (highL r).map u8v := by rw [highL, List.map_set (f := u8v) (i := 31)]; rfl
      have H1 := Lib.hid (show ∀ W, Mem w [blkE (P5 + 1) 23 ((fullJ 32).map u8v), blkE P5 23 ((lowL r).map u8v), blkE w.heap.size 23 (a.map u8v)] W → Mem w [blkE (P5 + 1) 23 (((fullJ 32).set 0 (237 + r)).map u8v), blkE P5 23 ((lowL r).map u8v), blkE w.heap.size 23 (a.map u8v)] (W.setCell ⟨P5 + 1, 0, none⟩ (.int .u8 (((237 + r : UInt8)).toNat : Int))) from fun W hW => by have h := hW.setCell 0 rfl 0 (.int .u8 (((237 + r : UInt8)).toNat : Int)); rw [hs1] at h; exact h)
      have H2 := Lib.hid (show ∀ W, Mem w [blkE (P5 + 1) 23 (((fullJ 32).set 0 (237 + r)).map u8v), blkE P5 23 ((lowL r).map u8v), blkE w.heap.size 23 (a.map u8v)] W → Mem w [blkE (P5 + 1) 23 ((highL r).map u8v), blkE P5 23 ((lowL r).map u8v), blkE w.heap.size 23 (a.map u8v)] (W.setCell ⟨P5 + 1, 31, none⟩ (.int .u8 127)) from fun W hW => by have h := hW.setCell 0 rfl 31 (.int .u8 127); rw [hs2] at h; exact h)
      have g0 := ((H1.out _ HM.out).blk 0 rfl).byt 31 (by rw [List.length_set, fullJ_length 32 hj]; omega)
      have y0 := ((H1.out _ HM.out).blk 0 rfl).frozen 31
      have hsum : (237 : Int) + (r.toNat : Int) = (((237 + r : UInt8)).toNat : Int) := by
        rw [UInt8.toNat_add, show (237 : UInt8).toNat = 237 from rfl, Nat.mod_eq_of_lt (by have := HRB.out.1; omega)]; omega
      have hwr : IntKind.u8.wrap (237 + (n : Int) % 19) = (((237 + r : UInt8)).toNat : Int) := by
        rw [IntKind.wrap_u8, HRB.out.2, hsum]; have := (237 + r : UInt8).toNat_lt; omega
      have hmo : (237 + (n : Int) % 19) % 256 = (((237 + r : UInt8)).toNat : Int) := by
        rw [HRB.out.2, hsum]; have := (237 + r : UInt8).toNat_lt; omega
      clear hs1 hs2 hsum
      generalize ((237 + r : UInt8)).toNat = v at *
      go_upto_region 8 with fail
      clear f0 z0 g0 y0 hwr hmo
      replace HM := Lib.hid (H2.out _ (H1.out _ HM.out))
      clear H1 H2
      have hq1 : IntKind.i64.wrap (n : Int) = (n : Int) := IntWalk.i64_in _ (by omega)
      generalize (wr.setCell ⟨P5 + 1, 0, none⟩ (.int .u8 (v : Int))).setCell ⟨P5 + 1, 31, none⟩ (.int .u8 127) = w8 at HM ⊢
      have HMO := Lib.hid (fun W : World => mod_any (n : Int) 19 (by omega) (by omega) W)
      have HRR := Lib.hid (show ((n : Int) % 19 == (r.toNat : Int)) = true by rw [HRB.out.2]; simp)
      have hq2 : IntKind.i64.wrap (r.toNat : Int) = (r.toNat : Int) := IntWalk.i64_in _ (by have := HRB.out.1; omega)
      refine wp_region_held_drew (S := fun W' => Mem w [blkE (P5 + 1) 23 ((highL r).map u8v), blkE P5 23 ((lowL r).map u8v), blkE w.heap.size 23 (a.map u8v)] W') (by kernel_rfl) ((HM.out).drew) (fun hHeld => ?_)
      replace HM := Lib.hid HM.out.drew
      generalize w8.drew = wd1 at HM hHeld ⊢
      refine take_first (v := .agg ca) 0 rfl (by kernel_rfl) (by kernel_rfl) (by kernel_rfl) (fun _ _ _ h => h) (by rw [← HC.out.1]; exact yields_load_blk (by rfl) 23 (.tmp 2) rfl w.heap.size rfl 23 (a.map u8v) (fun w' hb => hb.blk 2 rfl) 32 5 Try.underlying23 (cells32 a HL.out)) (by assumption) ?_
      (try simp only [Act.put, List.setIfInBounds_toArray, List.set_cons_zero, List.set_cons_succ])
      refine take_first (v := .agg ch) 1 rfl (by kernel_rfl) (by kernel_rfl) (by kernel_rfl) (fun _ _ _ h => h) (by rw [← HC.out.2.1]; exact yields_load_blk (by rfl) 23 (.tmp 6) rfl (P5 + 1) rfl 23 ((highL r).map u8v) (fun w' hb => hb.blk 0 rfl) 32 5 Try.underlying23 (cells32 (highL r) (highL_length r))) (by assumption) ?_
      (try simp only [Act.put, List.setIfInBounds_toArray, List.set_cons_zero, List.set_cons_succ])
      refine take_first (v := .agg ca) 3 rfl (by kernel_rfl) (by kernel_rfl) (by kernel_rfl) (fun _ _ _ h => h) (by rw [← HC.out.1]; exact yields_load_blk (by rfl) 23 (.tmp 2) rfl w.heap.size rfl 23 (a.map u8v) (fun w' hb => hb.blk 2 rfl) 32 5 Try.underlying23 (cells32 a HL.out)) (by assumption) ?_
      (try simp only [Act.put, List.setIfInBounds_toArray, List.set_cons_zero, List.set_cons_succ])
      refine take_first (v := .agg cl) 4 rfl (by kernel_rfl) (by kernel_rfl) (by kernel_rfl) (fun _ _ _ h => h) (by rw [← HC.out.2.2.1]; exact yields_load_blk (by rfl) 23 (.tmp 5) rfl P5 rfl 23 ((lowL r).map u8v) (fun w' hb => hb.blk 1 rfl) 32 5 Try.underlying23 (cells32 (lowL r) (lowL_length r))) (by assumption) ?_
      (try simp only [Act.put, List.setIfInBounds_toArray, List.set_cons_zero, List.set_cons_succ])
      refine step_one 2 rfl (by kernel_rfl) (fun K hK => ?_)
      clear hHeld
      go_simp
      refine (HM1.out _).mono ?_
      rintro e wy2 ⟨rfl, hb⟩
      replace HM := Lib.hid (show Mem w [blkE (P5 + 1) 23 ((highL r).map u8v), blkE P5 23 ((lowL r).map u8v), blkE w.heap.size 23 (a.map u8v)] wy2 from HM.out.below hb)
      clear hb
      go_wp2_with fail
      refine hK.out _ _ (HM.out) (fun hHeld => ?_)
      clear hK K
      (try simp only [Act.put, List.setIfInBounds_toArray, List.set_cons_zero, List.set_cons_succ])
      refine step_one 5 rfl (by kernel_rfl) (fun K hK => ?_)
      clear hHeld
      go_simp
      refine (HM2.out _).mono ?_
      rintro e wy3 ⟨rfl, hb⟩
      replace HM := Lib.hid (show Mem w [blkE (P5 + 1) 23 ((highL r).map u8v), blkE P5 23 ((lowL r).map u8v), blkE w.heap.size 23 (a.map u8v)] wy3 from HM.out.below hb)
      clear hb
      go_wp2_with fail
      refine hK.out _ _ (HM.out) (fun hHeld => ?_)
      clear hK K
      (try simp only [Act.put, List.setIfInBounds_toArray, List.set_cons_zero, List.set_cons_succ])
      refine take_first (v := ?_) 6 rfl (by kernel_rfl) (by kernel_rfl) (by kernel_rfl) (fun _ _ _ h => h) (Or.inl ⟨by rfl, ?_⟩) (by assumption) ?_
      rotate_left
      · (intro w hSw; (try dsimp only at hSw); have ex := HEX.out w; go_simp; try with_reducible rfl)
      (try simp only [Act.put, List.setIfInBounds_toArray, List.set_cons_zero, List.set_cons_succ])
      refine take_first (v := ?_) 7 rfl (by kernel_rfl) (by kernel_rfl) (by kernel_rfl) (fun _ _ _ h => h) (Or.inl ⟨by rfl, ?_⟩) (by assumption) ?_
      rotate_left
      · (intro w hSw; (try dsimp only at hSw); go_simp; try with_reducible rfl)
      (try simp only [Act.put, List.setIfInBounds_toArray, List.set_cons_zero, List.set_cons_succ])
      refine take_first (v := ?_) 8 rfl (by kernel_rfl) (by kernel_rfl) (by kernel_rfl) (fun _ _ _ h => h) (Or.inl ⟨by rfl, ?_⟩) (by assumption) ?_
      rotate_left
      · (intro w hSw; (try dsimp only at hSw); go_simp; try with_reducible rfl)
      (try simp only [Act.put, List.setIfInBounds_toArray, List.set_cons_zero, List.set_cons_succ])
      refine take_first (v := ?_) 9 rfl (by kernel_rfl) (by kernel_rfl) (by kernel_rfl) (fun _ _ _ h => h) (Or.inl ⟨by rfl, ?_⟩) (by assumption) ?_
      rotate_left
      · (intro w hSw; (try dsimp only at hSw); go_simp; try with_reducible rfl)
      (try simp only [Act.put, List.setIfInBounds_toArray, List.set_cons_zero, List.set_cons_succ])
      refine take_first (v := ?_) 11 rfl (by kernel_rfl) (by kernel_rfl) (by kernel_rfl) (fun _ _ _ h => h) (Or.inl ⟨by rfl, ?_⟩) (by assumption) ?_
      rotate_left
      · (intro w hSw; (try dsimp only at hSw); go_simp; try with_reducible rfl)
      (try simp only [Act.put, List.setIfInBounds_toArray, List.set_cons_zero, List.set_cons_succ])
      refine take_first (v := ?_) 12 rfl (by kernel_rfl) (by kernel_rfl) (by kernel_rfl) (fun _ _ _ h => h) (Or.inl ⟨by rfl, ?_⟩) (by assumption) ?_
      rotate_left
      · (intro w hSw; (try dsimp only at hSw); have f0 := (Mem.blk hSw 1 rfl).byt 0 (by rw [lowL_length]; omega); rw [lowL_zero] at f0; go_simp; try with_reducible rfl)
      (try simp only [Act.put, List.setIfInBounds_toArray, List.set_cons_zero, List.set_cons_succ])
      refine take_first (v := ?_) 13 rfl (by kernel_rfl) (by kernel_rfl) (by kernel_rfl) (fun _ _ _ h => h) (Or.inl ⟨by rfl, ?_⟩) (by assumption) ?_
      rotate_left
      · (intro w hSw; (try dsimp only at hSw); go_simp; try with_reducible rfl)
      (try simp only [Act.put, List.setIfInBounds_toArray, List.set_cons_zero, List.set_cons_succ])
      refine step_one 10 rfl (by kernel_rfl) (fun K hK => ?_)
      clear hHeld
      go_simp
      refine (HMO.out _).mono ?_
      rintro e wm ⟨rfl, rfl⟩
      go_wp2_with fail
      refine hK.out _ _ (HM.out) (fun hHeld => ?_)
      clear hK K
      (try simp only [Act.put, List.setIfInBounds_toArray, List.set_cons_zero, List.set_cons_succ])
      refine take_first (v := ?_) 14 rfl (by kernel_rfl) (by kernel_rfl) (by kernel_rfl) (fun _ _ _ h => h) (Or.inl ⟨by rfl, ?_⟩) (by assumption) ?_
      rotate_left
      · (intro w hSw; (try dsimp only at hSw); have hrr := HRR.out; go_simp; try with_reducible rfl)
      (try simp only [Act.put, List.setIfInBounds_toArray, List.set_cons_zero, List.set_cons_succ])
      refine take_first (v := ?_) 15 rfl (by kernel_rfl) (by kernel_rfl) (by kernel_rfl) (fun _ _ _ h => h) (Or.inl ⟨by rfl, ?_⟩) (by assumption) ?_
      rotate_left
      · (intro w hSw; (try dsimp only at hSw); go_simp; try with_reducible rfl)
      (try simp only [Act.put, List.setIfInBounds_toArray, List.set_cons_zero, List.set_cons_succ])
      refine take_first (v := ?_) 16 rfl (by kernel_rfl) (by kernel_rfl) (by kernel_rfl) (fun _ _ _ h => h) (Or.inl ⟨by rfl, ?_⟩) (by assumption) ?_
      rotate_left
      · (intro w hSw; (try dsimp only at hSw); go_simp; try with_reducible rfl)
      (try simp only [Act.put, List.setIfInBounds_toArray, List.set_cons_zero, List.set_cons_succ])
      refine step_one 17 rfl (by kernel_rfl) (fun K hK => ?_)
      clear hHeld
      go_simp
      refine (HBG.out _).mono ?_
      rintro e wy4 ⟨rfl, hb⟩
      replace HM := Lib.hid (show Mem w [blkE (P5 + 1) 23 ((highL r).map u8v), blkE P5 23 ((lowL r).map u8v), blkE w.heap.size 23 (a.map u8v)] wy4 from HM.out.below hb)
      clear hb
      go_wp2_with fail
      refine hK.out _ _ (HM.out) (fun hHeld => ?_)
      clear hK K
      (try simp only [Act.put, List.setIfInBounds_toArray, List.set_cons_zero, List.set_cons_succ])
      refine take_first (v := ?_) 18 rfl (by kernel_rfl) (by kernel_rfl) (by kernel_rfl) (fun _ _ _ h => h) (Or.inl ⟨by rfl, ?_⟩) (by assumption) ?_
      rotate_left
      · (intro w hSw; (try dsimp only at hSw); go_simp; try with_reducible rfl)
      (try simp only [Act.put, List.setIfInBounds_toArray, List.set_cons_zero, List.set_cons_succ])
      refine take_first (v := ?_) 19 rfl (by kernel_rfl) (by kernel_rfl) (by kernel_rfl) (fun _ _ _ h => h) (Or.inl ⟨by rfl, ?_⟩) (by assumption) ?_
      rotate_left
      · (intro w hSw; (try dsimp only at hSw); go_simp; try with_reducible rfl)
      (try simp only [Act.put, List.setIfInBounds_toArray, List.set_cons_zero, List.set_cons_succ])
      refine wpAnyH_done (by kernel_rfl) ?_ _
      have HF := Lib.hid HM.out.bel
      clear HM
      go_wp2_with fail
      go_ret
      exact ⟨rfl, HF.out⟩
end Go.Proofs.Ytgdgecehmnokdaa
