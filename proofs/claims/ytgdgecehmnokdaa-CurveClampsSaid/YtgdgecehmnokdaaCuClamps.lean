/-
  CurveClamps returns true for every input, and changes nothing that was there: the walk, over what is asked of curve.Clamp, Mul and Share.
-/
import Derived.Test.YtgdgecehmnokdaaCells32
import Derived.Test.YtgdgecehmnokdaaCuC
namespace Go.Proofs.Ytgdgecehmnokdaa
open Go.RowKit

theorem u8_xor_lit (x m : UInt8) : bits BinOp.xor IntKind.u8 (x.toNat : Int) (m.toNat : Int) = ((x ^^^ m).toNat : Int) := by
  rw [u8_xor_nat _ _ x.toNat_lt m.toNat_lt, UInt8.toNat_xor]
/-- the scalar with other fixed bits, the point with another highest bit -/
def bL (a : List UInt8) (m : UInt8) : List UInt8 := (a.set 0 (a.getD 0 0 ^^^ (m &&& 7))).set 31 (a.getD 31 0 ^^^ (m &&& 192))
def vL (u : List UInt8) : List UInt8 := u.set 31 (u.getD 31 0 ^^^ 128)
theorem bL_length (a : List UInt8) (m : UInt8) (h : a.length = 32) : (bL a m).length = 32 := by simp [bL, h]
theorem vL_length (u : List UInt8) (h : u.length = 32) : (vL u).length = 32 := by simp [vL, h]
theorem fix_low (x m : UInt8) : (x ^^^ (m &&& 7)) &&& 248 = x &&& 248 := by
  have h : ∀ x m : Fin 256, (x.val ^^^ (m.val &&& 7)) &&& 248 = x.val &&& 248 := by decide +kernel
  apply UInt8.toNat.inj
  simp only [UInt8.toNat_and, UInt8.toNat_xor]
  exact h ⟨x.toNat, x.toNat_lt⟩ ⟨m.toNat, m.toNat_lt⟩
theorem fix_high (x m : UInt8) : (x ^^^ (m &&& 192)) &&& 127 ||| 64 = x &&& 127 ||| 64 := by
  have h : ∀ x m : Fin 256, (x.val ^^^ (m.val &&& 192)) &&& 127 ||| 64 = x.val &&& 127 ||| 64 := by decide +kernel
  apply UInt8.toNat.inj
  simp only [UInt8.toNat_and, UInt8.toNat_xor, UInt8.toNat_or]
  exact h ⟨x.toNat, x.toNat_lt⟩ ⟨m.toNat, m.toNat_lt⟩
theorem key_parts (a : List UInt8) (h : a.length = 32) : ∃ p q r, a = p :: (q ++ [r]) ∧ q.length = 30 := by
  match a, h with
  | p :: t, h =>
    have ht : t.length = 31 := by simpa using h
    refine ⟨p, t.take 30, t.getD 30 0, ?_, by simp [ht]⟩
    congr 1
    rw [List.getD_eq_getElem?_getD, List.getElem?_eq_getElem (by omega)]
    simp only [Option.getD_some]
    rw [← List.take_succ_eq_append_getElem (by omega), List.take_of_length_le (by omega)]
theorem part_zero (p r : UInt8) (q : List UInt8) : (p :: (q ++ [r])).getD 0 0 = p := rfl
theorem part_last (p r : UInt8) (q : List UInt8) (h : q.length = 30) : (p :: (q ++ [r])).getD 31 0 = r := by
  rw [List.getD_cons_succ, List.getD_eq_getElem?_getD, List.getElem?_append_right (by omega), h]; rfl
theorem part_set0 (p r x : UInt8) (q : List UInt8) : (p :: (q ++ [r])).set 0 x = x :: (q ++ [r]) := rfl
theorem part_set31 (p r x : UInt8) (q : List UInt8) (h : q.length = 30) : (p :: (q ++ [r])).set 31 x = p :: (q ++ [x]) := by
  rw [List.set_cons_succ, List.set_append_right _ _ (by omega), h]; rfl
theorem clamp_b (a : List UInt8) (m : UInt8) (h : a.length = 32) : clampL (bL a m) = clampL a := by
  obtain ⟨p, q, r, rfl, hq⟩ := key_parts a h
  simp only [clampL, bL, part_zero, part_last _ _ _ hq, part_set0, part_set31 _ _ _ _ hq, fix_low, fix_high]
theorem clamp_twice (a : List UInt8) (h : a.length = 32) : clampL (clampL a) = clampL a := by
  have h0 : ∀ x : UInt8, (x &&& 248) &&& 248 = x &&& 248 := by
    intro x
    have h : ∀ x : Fin 256, (x.val &&& 248) &&& 248 = x.val &&& 248 := by decide +kernel
    apply UInt8.toNat.inj
    simp only [UInt8.toNat_and]
    exact h ⟨x.toNat, x.toNat_lt⟩
  have h1 : ∀ x : UInt8, (x &&& 127 ||| 64) &&& 127 ||| 64 = x &&& 127 ||| 64 := by
    intro x
    have h : ∀ x : Fin 256, (x.val &&& 127 ||| 64) &&& 127 ||| 64 = x.val &&& 127 ||| 64 := by decide +kernel
    apply UInt8.toNat.inj
    simp only [UInt8.toNat_and, UInt8.toNat_or]
    exact h ⟨x.toNat, x.toNat_lt⟩
  obtain ⟨p, q, r, rfl, hq⟩ := key_parts a h
  simp only [clampL, part_zero, part_last _ _ _ hq, part_set0, part_set31 _ _ _ _ hq, h0, h1]
theorem num_v (u : List UInt8) (h : u.length = 32) : numL (vL u) % 2 ^ 255 = numL u % 2 ^ 255 := by
  have hx : ∀ x : UInt8, (x ^^^ 128).toNat % 128 = x.toNat % 128 := by
    intro x
    have h : ∀ x : Fin 256, (x.val ^^^ 128) % 128 = x.val % 128 := by decide +kernel
    rw [UInt8.toNat_xor]
    exact h ⟨x.toNat, x.toNat_lt⟩
  obtain ⟨p, q, r, rfl, hq⟩ := key_parts u h
  have e : ∀ y : UInt8, numL (p :: (q ++ [y])) = p.toNat + 256 * (numL q + 256 ^ 30 * y.toNat) := by
    intro y
    rw [numL, numL_append, hq]
    simp [numL]
  have h1 := hx r
  have h3 := r.toNat_lt
  have h4 := (r ^^^ 128).toNat_lt
  rw [vL, part_last _ _ _ hq, part_set31 _ _ _ _ hq, e, e]
  have e30 : (256 : Nat) ^ 30 = 1766847064778384329583297500742918515827483896875618958121606201292619776 := by decide +kernel
  have e255 : (2 : Nat) ^ 255 = 57896044618658097711785492504343953926634992332820282019728792003956564819968 := by decide +kernel
  rw [e30, e255]
  generalize (r ^^^ 128).toNat = y at *
  generalize r.toNat = z at *
  omega
theorem mul_b (a u : List UInt8) (m : UInt8) (ha : a.length = 32) (hu : u.length = 32) : mulL (bL a m) (vL u) = mulL a u := by
  rw [mulL, mulL, clamp_b a m ha, num_v u hu]

set_option linter.unusedSimpArgs false in
set_option maxRecDepth 100000 in
set_option maxHeartbeats 4000000 in
theorem cu_clamps_walk (HCC : CuClampC) (HSC : CuShareC) (HMU : CuMulC) (w : World) (a u : List UInt8) (n : Nat) (ha : a.length = 32) (hu : u.length = 32) (hn : n ≤ 255) :
    Calls Try.prog 6 #[.agg (a.map u8v).toArray, .agg (u.map u8v).toArray, .int .u8 (n : Int)] w fun e w' => e = .returned (.bool true) ∧ Below w.heap.size w w' := by
  obtain ⟨i0, hi, hz0, hz1, hz2⟩ := info_parts Try.info5
  obtain ⟨m, hm⟩ : ∃ m : UInt8, m.toNat = n := ⟨UInt8.ofNat n, by rw [UInt8.toNat_ofNat', Nat.mod_eq_of_lt (by omega)]⟩
  subst hm
  have M1 := fun W : World => HMU (bL a m) (vL u) (bL_length a m ha) (vL_length u hu) W
  have M2 := fun W : World => HMU a u ha hu W
  rw [mul_b a u m ha hu] at M1
  have C1 := fun W : World => HCC a ha W
  have C2 := fun W : World => HCC (clampL a) (by rw [clampL_length]; exact ha) W
  have C3 := fun W : World => HCC (bL a m) (bL_length a m ha) W
  rw [clamp_twice a ha] at C2
  rw [clamp_b a m ha] at C3
  have SH := fun W : World => HSC a zeroK ha rfl W
  rw [mul_zero, show shareE zeroK = 21 from by decide] at SH
  have e1 := fun w' : World => run_key_eq (P := Try.prog) 23 5 32 Try.underlying23 Try.underlying5 i0 hi hz1 (mulL a u) (mulL a u) (mulL_length _ _) (mulL_length _ _) w'
  have e2 := fun w' : World => run_key_eq (P := Try.prog) 23 5 32 Try.underlying23 Try.underlying5 i0 hi hz1 (clampL a) (clampL a) (by rw [clampL_length]; exact ha) (by rw [clampL_length]; exact ha) w'
  rw [show (mulL a u == mulL a u) = true by simp] at e1
  rw [show (clampL a == clampL a) = true by simp] at e2
  have bz := zero_built
  obtain ⟨ca, hca⟩ : ∃ c, (a.map u8v).toArray = c := ⟨_, rfl⟩
  obtain ⟨cu, hcu⟩ : ∃ c, (u.map u8v).toArray = c := ⟨_, rfl⟩
  obtain ⟨cb, hcb⟩ : ∃ c, ((bL a m).map u8v).toArray = c := ⟨_, rfl⟩
  obtain ⟨cv, hcv⟩ : ∃ c, ((vL u).map u8v).toArray = c := ⟨_, rfl⟩
  obtain ⟨cm, hcm⟩ : ∃ c, ((mulL a u).map u8v).toArray = c := ⟨_, rfl⟩
  obtain ⟨cc, hcc⟩ : ∃ c, ((clampL a).map u8v).toArray = c := ⟨_, rfl⟩
  obtain ⟨cz, hcz⟩ : ∃ c, (zeroK.map u8v).toArray = c := ⟨_, rfl⟩
  rw [hcb, hcv, hcm] at M1
  rw [hca, hcu, hcm] at M2
  rw [hca, hcc] at C1
  rw [hcc] at C2
  rw [hcb, hcc] at C3
  rw [hca, hcz] at SH
  rw [hcm] at e1
  rw [hcc] at e2
  rw [hcz] at bz
  rw [hca, hcu]
  have HM := Lib.hid (show Mem w [blkE (w.heap.size + 1) 23 (u.map u8v), blkE w.heap.size 23 (a.map u8v)] ((w.alloc (.cells ca 23)).alloc (.cells cu 23)) from ((Mem.nil w).alloc rfl 23 ca (a.map u8v) hca.symm).alloc (by simp) 23 cu (u.map u8v) hcu.symm)
  have HC := Lib.hid (And.intro hca (And.intro hcu bz))
  have HCZ := Lib.hid hcz
  have HD := Lib.hid (And.intro hcb hcv)
  have HL := Lib.hid (And.intro ha (And.intro hu trivial))
  have HM1 := Lib.hid M1
  have HM2 := Lib.hid M2
  have HC1 := Lib.hid C1
  have HC2 := Lib.hid C2
  have HC3 := Lib.hid C3
  have HSH := Lib.hid SH
  have HE1 := Lib.hid e1
  have HE2 := Lib.hid e2
  have HBG := Lib.hid (fun W : World => cu_begun_any HMU W)
  obtain ⟨x0, hx0⟩ : ∃ x, a.getD 0 0 = x := ⟨_, rfl⟩
  obtain ⟨x1, hx1⟩ : ∃ x, a.getD 31 0 = x := ⟨_, rfl⟩
  obtain ⟨x2, hx2⟩ : ∃ x, u.getD 31 0 = x := ⟨_, rfl⟩
  have HX := Lib.hid (And.intro hx0 (And.intro hx1 hx2))
  clear M1 M2 C1 C2 C3 SH e1 e2 bz hca hcu hcb hcv hcm hcc hcz ha hu hx0 hx1 hx2 HCC HSC HMU hn
  go_enter Try.func6, Try.ntmps6
  go_upto_region 1 with fail
  generalize ((w.alloc (.cells ca 23)).alloc (.cells cu 23)) = w1 at HM ⊢
  go_cut [7, 8] (fun p q wx => ∃ P7 P8, p = .pointer (some ⟨P7, 0, none⟩) ∧ q = .pointer (some ⟨P8, 0, none⟩) ∧ (Mem w [blkE P7 23 ((a).map u8v), blkE P8 23 ((u).map u8v), blkE (w.heap.size + 1) 23 (u.map u8v), blkE w.heap.size 23 (a.map u8v)] wx ∨ Mem w [blkE P8 23 ((u).map u8v), blkE P7 23 ((a).map u8v), blkE (w.heap.size + 1) 23 (u.map u8v), blkE w.heap.size 23 (a.map u8v)] wx))
  case first =>
    refine wp_region_held_drew (S := fun W' => Mem w [blkE (w.heap.size + 1) 23 (u.map u8v), blkE w.heap.size 23 (a.map u8v)] W') (by kernel_rfl) (HM.out.drew) (fun hHeld => ?_)
    replace HM := Lib.hid HM.out.drew
    generalize w1.drew = wd1 at HM hHeld ⊢
    refine take_first (v := .agg ca) 0 rfl (by kernel_rfl) (by kernel_rfl) (by kernel_rfl) (fun _ _ _ h => h) (by rw [← HC.out.1]; exact yields_load_blk (by rfl) 23 (.tmp 3) rfl w.heap.size rfl 23 (a.map u8v) (fun w' hb => hb.blk 1 rfl) 32 5 Try.underlying23 (cells32 a HL.out.1)) (by assumption) ?_
    (try simp only [Act.put, List.setIfInBounds_toArray, List.set_cons_zero, List.set_cons_succ])
    refine take_first (v := .agg cu) 1 rfl (by kernel_rfl) (by kernel_rfl) (by kernel_rfl) (fun _ _ _ h => h) (by rw [← HC.out.2.1]; exact yields_load_blk (by rfl) 23 (.tmp 4) rfl (w.heap.size + 1) rfl 23 (u.map u8v) (fun w' hb => hb.blk 0 rfl) 32 5 Try.underlying23 (cells32 u HL.out.2.1)) (by assumption) ?_
    (try simp only [Act.put, List.setIfInBounds_toArray, List.set_cons_zero, List.set_cons_succ])
    refine step_two 2 3 rfl rfl (by kernel_rfl) (fun K hK => ?_) (fun K hK => ?_)
    · clear hHeld
      go_simp
      replace HM := Lib.hid (show Mem w [blkE wd1.heap.size 23 (aeZ 32), blkE (w.heap.size + 1) 23 (u.map u8v), blkE w.heap.size 23 (a.map u8v)] (wd1.alloc (.cells #[.int .u8 0, .int .u8 0, .int .u8 0, .int .u8 0, .int .u8 0, .int .u8 0, .int .u8 0, .int .u8 0, .int .u8 0, .int .u8 0, .int .u8 0, .int .u8 0, .int .u8 0, .int .u8 0, .int .u8 0, .int .u8 0, .int .u8 0, .int .u8 0, .int .u8 0, .int .u8 0, .int .u8 0, .int .u8 0, .int .u8 0, .int .u8 0, .int .u8 0, .int .u8 0, .int .u8 0, .int .u8 0, .int .u8 0, .int .u8 0, .int .u8 0, .int .u8 0] 23)) from HM.out.alloc rfl 23 #[.int .u8 0, .int .u8 0, .int .u8 0, .int .u8 0, .int .u8 0, .int .u8 0, .int .u8 0, .int .u8 0, .int .u8 0, .int .u8 0, .int .u8 0, .int .u8 0, .int .u8 0, .int .u8 0, .int .u8 0, .int .u8 0, .int .u8 0, .int .u8 0, .int .u8 0, .int .u8 0, .int .u8 0, .int .u8 0, .int .u8 0, .int .u8 0, .int .u8 0, .int .u8 0, .int .u8 0, .int .u8 0, .int .u8 0, .int .u8 0, .int .u8 0, .int .u8 0] (aeZ 32) rfl)
      generalize wd1.alloc (.cells #[.int .u8 0, .int .u8 0, .int .u8 0, .int .u8 0, .int .u8 0, .int .u8 0, .int .u8 0, .int .u8 0, .int .u8 0, .int .u8 0, .int .u8 0, .int .u8 0, .int .u8 0, .int .u8 0, .int .u8 0, .int .u8 0, .int .u8 0, .int .u8 0, .int .u8 0, .int .u8 0, .int .u8 0, .int .u8 0, .int .u8 0, .int .u8 0, .int .u8 0, .int .u8 0, .int .u8 0, .int .u8 0, .int .u8 0, .int .u8 0, .int .u8 0, .int .u8 0] 23) = wy2 at HM ⊢
      generalize wd1.heap.size = P7 at HM ⊢
      refine hK.out _ _ ((HM.out.erase 0)) (fun hHeld => ?_)
      clear hK K
      (try simp only [Act.put, List.setIfInBounds_toArray, List.set_cons_zero, List.set_cons_succ])
      refine step_one 3 rfl (by kernel_rfl) (fun K hK => ?_)
      clear hHeld
      go_simp
      replace HM := Lib.hid (show Mem w [blkE wy2.heap.size 23 (aeZ 32), blkE P7 23 (aeZ 32), blkE (w.heap.size + 1) 23 (u.map u8v), blkE w.heap.size 23 (a.map u8v)] (wy2.alloc (.cells #[.int .u8 0, .int .u8 0, .int .u8 0, .int .u8 0, .int .u8 0, .int .u8 0, .int .u8 0, .int .u8 0, .int .u8 0, .int .u8 0, .int .u8 0, .int .u8 0, .int .u8 0, .int .u8 0, .int .u8 0, .int .u8 0, .int .u8 0, .int .u8 0, .int .u8 0, .int .u8 0, .int .u8 0, .int .u8 0, .int .u8 0, .int .u8 0, .int .u8 0, .int .u8 0, .int .u8 0, .int .u8 0, .int .u8 0, .int .u8 0, .int .u8 0, .int .u8 0] 23)) from HM.out.alloc rfl 23 #[.int .u8 0, .int .u8 0, .int .u8 0, .int .u8 0, .int .u8 0, .int .u8 0, .int .u8 0, .int .u8 0, .int .u8 0, .int .u8 0, .int .u8 0, .int .u8 0, .int .u8 0, .int .u8 0, .int .u8 0, .int .u8 0, .int .u8 0, .int .u8 0, .int .u8 0, .int .u8 0, .int .u8 0, .int .u8 0, .int .u8 0, .int .u8 0, .int .u8 0, .int .u8 0, .int .u8 0, .int .u8 0, .int .u8 0, .int .u8 0, .int .u8 0, .int .u8 0] (aeZ 32) rfl)
      generalize wy2.alloc (.cells #[.int .u8 0, .int .u8 0, .int .u8 0, .int .u8 0, .int .u8 0, .int .u8 0, .int .u8 0, .int .u8 0, .int .u8 0, .int .u8 0, .int .u8 0, .int .u8 0, .int .u8 0, .int .u8 0, .int .u8 0, .int .u8 0, .int .u8 0, .int .u8 0, .int .u8 0, .int .u8 0, .int .u8 0, .int .u8 0, .int .u8 0, .int .u8 0, .int .u8 0, .int .u8 0, .int .u8 0, .int .u8 0, .int .u8 0, .int .u8 0, .int .u8 0, .int .u8 0] 23) = wy3 at HM ⊢
      generalize wy2.heap.size = P8 at HM ⊢
      refine hK.out _ _ (((HM.out.erase 0).erase 0)) (fun hHeld => ?_)
      clear hK K
      (try simp only [Act.put, List.setIfInBounds_toArray, List.set_cons_zero, List.set_cons_succ])
      refine step_one 4 rfl (by kernel_rfl) (fun K hK => ?_)
      clear hHeld
      refine step_store_blk _ rfl 23 (.tmp 7) (.tmp 11) rfl P7 (a.map u8v) rfl (by show Value.agg ca = _; rw [HC.out.1]) 23 (aeZ 32) (HM.out.blk 1 rfl) (cells32 a HL.out.1) (by rw [List.length_map, HL.out.1]; rfl) (by intro v hv; obtain ⟨_, _, rfl⟩ := List.mem_map.1 hv; rfl) ?_
      intro wy4 hb hg
      replace HM := Lib.hid (show Mem w [blkE P8 23 (aeZ 32), blkE P7 23 (a.map u8v), blkE (w.heap.size + 1) 23 (u.map u8v), blkE w.heap.size 23 (a.map u8v)] wy4 from HM.out.put 1 rfl _ hg hb)
      clear hb hg
      refine hK.out _ _ (((HM.out.erase 0).erase 0)) (fun hHeld => ?_)
      clear hK K
      (try simp only [Act.put])
      refine step_one 5 rfl (by kernel_rfl) (fun K hK => ?_)
      clear hHeld
      refine step_store_blk _ rfl 23 (.tmp 8) (.tmp 12) rfl P8 (u.map u8v) rfl (by show Value.agg cu = _; rw [HC.out.2.1]) 23 (aeZ 32) (HM.out.blk 0 rfl) (cells32 u HL.out.2.1) (by rw [List.length_map, HL.out.2.1]; rfl) (by intro v hv; obtain ⟨_, _, rfl⟩ := List.mem_map.1 hv; rfl) ?_
      intro wy5 hb hg
      replace HM := Lib.hid (show Mem w [blkE P8 23 (u.map u8v), blkE P7 23 (a.map u8v), blkE (w.heap.size + 1) 23 (u.map u8v), blkE w.heap.size 23 (a.map u8v)] wy5 from HM.out.put 0 rfl _ hg hb)
      clear hb hg
      refine hK.out _ _ (((HM.out.erase 0).erase 0)) (fun hHeld => ?_)
      clear hK K
      (try simp only [Act.put])
      refine wpAnyH_done (by kernel_rfl) ?_ _
      go_wp2_with fail
      go_meet
      exact ⟨P7, P8, rfl, rfl, .inr HM.out⟩
    · clear hHeld
      go_simp
      replace HM := Lib.hid (show Mem w [blkE wd1.heap.size 23 (aeZ 32), blkE (w.heap.size + 1) 23 (u.map u8v), blkE w.heap.size 23 (a.map u8v)] (wd1.alloc (.cells #[.int .u8 0, .int .u8 0, .int .u8 0, .int .u8 0, .int .u8 0, .int .u8 0, .int .u8 0, .int .u8 0, .int .u8 0, .int .u8 0, .int .u8 0, .int .u8 0, .int .u8 0, .int .u8 0, .int .u8 0, .int .u8 0, .int .u8 0, .int .u8 0, .int .u8 0, .int .u8 0, .int .u8 0, .int .u8 0, .int .u8 0, .int .u8 0, .int .u8 0, .int .u8 0, .int .u8 0, .int .u8 0, .int .u8 0, .int .u8 0, .int .u8 0, .int .u8 0] 23)) from HM.out.alloc rfl 23 #[.int .u8 0, .int .u8 0, .int .u8 0, .int .u8 0, .int .u8 0, .int .u8 0, .int .u8 0, .int .u8 0, .int .u8 0, .int .u8 0, .int .u8 0, .int .u8 0, .int .u8 0, .int .u8 0, .int .u8 0, .int .u8 0, .int .u8 0, .int .u8 0, .int .u8 0, .int .u8 0, .int .u8 0, .int .u8 0, .int .u8 0, .int .u8 0, .int .u8 0, .int .u8 0, .int .u8 0, .int .u8 0, .int .u8 0, .int .u8 0, .int .u8 0, .int .u8 0] (aeZ 32) rfl)
      generalize wd1.alloc (.cells #[.int .u8 0, .int .u8 0, .int .u8 0, .int .u8 0, .int .u8 0, .int .u8 0, .int .u8 0, .int .u8 0, .int .u8 0, .int .u8 0, .int .u8 0, .int .u8 0, .int .u8 0, .int .u8 0, .int .u8 0, .int .u8 0, .int .u8 0, .int .u8 0, .int .u8 0, .int .u8 0, .int .u8 0, .int .u8 0, .int .u8 0, .int .u8 0, .int .u8 0, .int .u8 0, .int .u8 0, .int .u8 0, .int .u8 0, .int .u8 0, .int .u8 0, .int .u8 0] 23) = wy2 at HM ⊢
      generalize wd1.heap.size = P8 at HM ⊢
      refine hK.out _ _ ((HM.out.erase 0)) (fun hHeld => ?_)
      clear hK K
      (try simp only [Act.put, List.setIfInBounds_toArray, List.set_cons_zero, List.set_cons_succ])
      refine step_one 2 rfl (by kernel_rfl) (fun K hK => ?_)
      clear hHeld
      go_simp
      replace HM := Lib.hid (show Mem w [blkE wy2.heap.size 23 (aeZ 32), blkE P8 23 (aeZ 32), blkE (w.heap.size + 1) 23 (u.map u8v), blkE w.heap.size 23 (a.map u8v)] (wy2.alloc (.cells #[.int .u8 0, .int .u8 0, .int .u8 0, .int .u8 0, .int .u8 0, .int .u8 0, .int .u8 0, .int .u8 0, .int .u8 0, .int .u8 0, .int .u8 0, .int .u8 0, .int .u8 0, .int .u8 0, .int .u8 0, .int .u8 0, .int .u8 0, .int .u8 0, .int .u8 0, .int .u8 0, .int .u8 0, .int .u8 0, .int .u8 0, .int .u8 0, .int .u8 0, .int .u8 0, .int .u8 0, .int .u8 0, .int .u8 0, .int .u8 0, .int .u8 0, .int .u8 0] 23)) from HM.out.alloc rfl 23 #[.int .u8 0, .int .u8 0, .int .u8 0, .int .u8 0, .int .u8 0, .int .u8 0, .int .u8 0, .int .u8 0, .int .u8 0, .int .u8 0, .int .u8 0, .int .u8 0, .int .u8 0, .int .u8 0, .int .u8 0, .int .u8 0, .int .u8 0, .int .u8 0, .int .u8 0, .int .u8 0, .int .u8 0, .int .u8 0, .int .u8 0, .int .u8 0, .int .u8 0, .int .u8 0, .int .u8 0, .int .u8 0, .int .u8 0, .int .u8 0, .int .u8 0, .int .u8 0] (aeZ 32) rfl)
      generalize wy2.alloc (.cells #[.int .u8 0, .int .u8 0, .int .u8 0, .int .u8 0, .int .u8 0, .int .u8 0, .int .u8 0, .int .u8 0, .int .u8 0, .int .u8 0, .int .u8 0, .int .u8 0, .int .u8 0, .int .u8 0, .int .u8 0, .int .u8 0, .int .u8 0, .int .u8 0, .int .u8 0, .int .u8 0, .int .u8 0, .int .u8 0, .int .u8 0, .int .u8 0, .int .u8 0, .int .u8 0, .int .u8 0, .int .u8 0, .int .u8 0, .int .u8 0, .int .u8 0, .int .u8 0] 23) = wy3 at HM ⊢
      generalize wy2.heap.size = P7 at HM ⊢
      refine hK.out _ _ (((HM.out.erase 0).erase 0)) (fun hHeld => ?_)
      clear hK K
      (try simp only [Act.put, List.setIfInBounds_toArray, List.set_cons_zero, List.set_cons_succ])
      refine step_one 4 rfl (by kernel_rfl) (fun K hK => ?_)
      clear hHeld
      refine step_store_blk _ rfl 23 (.tmp 7) (.tmp 11) rfl P7 (a.map u8v) rfl (by show Value.agg ca = _; rw [HC.out.1]) 23 (aeZ 32) (HM.out.blk 0 rfl) (cells32 a HL.out.1) (by rw [List.length_map, HL.out.1]; rfl) (by intro v hv; obtain ⟨_, _, rfl⟩ := List.mem_map.1 hv; rfl) ?_
      intro wy4 hb hg
      replace HM := Lib.hid (show Mem w [blkE P7 23 (a.map u8v), blkE P8 23 (aeZ 32), blkE (w.heap.size + 1) 23 (u.map u8v), blkE w.heap.size 23 (a.map u8v)] wy4 from HM.out.put 0 rfl _ hg hb)
      clear hb hg
      refine hK.out _ _ (((HM.out.erase 0).erase 0)) (fun hHeld => ?_)
      clear hK K
      (try simp only [Act.put])
      refine step_one 5 rfl (by kernel_rfl) (fun K hK => ?_)
      clear hHeld
      refine step_store_blk _ rfl 23 (.tmp 8) (.tmp 12) rfl P8 (u.map u8v) rfl (by show Value.agg cu = _; rw [HC.out.2.1]) 23 (aeZ 32) (HM.out.blk 1 rfl) (cells32 u HL.out.2.1) (by rw [List.length_map, HL.out.2.1]; rfl) (by intro v hv; obtain ⟨_, _, rfl⟩ := List.mem_map.1 hv; rfl) ?_
      intro wy5 hb hg
      replace HM := Lib.hid (show Mem w [blkE P7 23 (a.map u8v), blkE P8 23 (u.map u8v), blkE (w.heap.size + 1) 23 (u.map u8v), blkE w.heap.size 23 (a.map u8v)] wy5 from HM.out.put 1 rfl _ hg hb)
      clear hb hg
      refine hK.out _ _ (((HM.out.erase 0).erase 0)) (fun hHeld => ?_)
      clear hK K
      (try simp only [Act.put])
      refine wpAnyH_done (by kernel_rfl) ?_ _
      go_wp2_with fail
      go_meet
      exact ⟨P7, P8, rfl, rfl, .inl HM.out⟩
  case rest =>
  clear HM
  obtain ⟨P7, P8, rfl, rfl, hM⟩ := hcut
  rcases hM with hM | hM
  · have HM := Lib.hid hM
    clear hM
    obtain ⟨y, hy⟩ : ∃ y, m &&& 7 = y := ⟨_, rfl⟩
    obtain ⟨z, hz⟩ : ∃ z, x0 ^^^ y = z := ⟨_, rfl⟩
    have b1 := u8_and_lit m 7
    rw [show ((7 : UInt8).toNat : Int) = 7 from rfl, hy] at b1
    have b2 := u8_xor_lit x0 y
    rw [hz] at b2
    have fx := (HM.out.blk 0 rfl).byt 0 (by simp only [List.length_set, HL.out.1, HL.out.2.1]; omega)
    have zx := (HM.out.blk 0 rfl).frozen 0
    rw [show (a).getD 0 0 = x0 by exact HX.out.1] at fx
    have h1 : (a.map u8v).set 0 (.int .u8 (z.toNat : Int)) = (a.set 0 (x0 ^^^ (m &&& 7))).map u8v := by rw [hy, hz, List.map_set]; rfl
    have HN := Lib.hid (show ∀ W, Mem w [blkE P7 23 ((a).map u8v), blkE P8 23 ((u).map u8v), blkE (w.heap.size + 1) 23 (u.map u8v), blkE w.heap.size 23 (a.map u8v)] W → Mem w [blkE P7 23 ((a.set 0 (x0 ^^^ (m &&& 7))).map u8v), blkE P8 23 ((u).map u8v), blkE (w.heap.size + 1) 23 (u.map u8v), blkE w.heap.size 23 (a.map u8v)] (W.setCell ⟨P7, 0, none⟩ (.int .u8 (z.toNat : Int))) from fun W hW => by have h := hW.setCell 0 rfl 0 (.int .u8 (z.toNat : Int)); rw [h1] at h; exact h)
    clear h1 hy hz
    go_upto_region 3 with fail
    clear fx zx b1 b2
    have HM2 := HN.out _ HM.out
    clear HN HM
    have HM := Lib.hid HM2
    clear HM2
    generalize World.setCell _ ⟨P7, 0, none⟩ (.int .u8 (z.toNat : Int)) = wn at HM ⊢
    obtain ⟨y, hy⟩ : ∃ y, m &&& 192 = y := ⟨_, rfl⟩
    obtain ⟨z, hz⟩ : ∃ z, x1 ^^^ y = z := ⟨_, rfl⟩
    have b1 := u8_and_lit m 192
    rw [show ((192 : UInt8).toNat : Int) = 192 from rfl, hy] at b1
    have b2 := u8_xor_lit x1 y
    rw [hz] at b2
    have fx := (HM.out.blk 0 rfl).byt 31 (by simp only [List.length_set, HL.out.1, HL.out.2.1]; omega)
    have zx := (HM.out.blk 0 rfl).frozen 31
    rw [show (a.set 0 (x0 ^^^ (m &&& 7))).getD 31 0 = x1 by rw [List.getD_eq_getElem?_getD, List.getElem?_set_ne (by omega), ← List.getD_eq_getElem?_getD]; exact HX.out.2.1] at fx
    have h1 : ((a.set 0 (x0 ^^^ (m &&& 7))).map u8v).set 31 (.int .u8 (z.toNat : Int)) = (bL a m).map u8v := by rw [bL, HX.out.1, HX.out.2.1, hy, hz, List.map_set (f := u8v) (i := 31)]; rfl
    have HN := Lib.hid (show ∀ W, Mem w [blkE P7 23 ((a.set 0 (x0 ^^^ (m &&& 7))).map u8v), blkE P8 23 ((u).map u8v), blkE (w.heap.size + 1) 23 (u.map u8v), blkE w.heap.size 23 (a.map u8v)] W → Mem w [blkE P7 23 ((bL a m).map u8v), blkE P8 23 ((u).map u8v), blkE (w.heap.size + 1) 23 (u.map u8v), blkE w.heap.size 23 (a.map u8v)] (W.setCell ⟨P7, 31, none⟩ (.int .u8 (z.toNat : Int))) from fun W hW => by have h := hW.setCell 0 rfl 31 (.int .u8 (z.toNat : Int)); rw [h1] at h; exact h)
    clear h1 hy hz
    go_upto_region 4 with fail
    clear fx zx b1 b2
    have HM2 := HN.out _ HM.out
    clear HN HM
    have HM := Lib.hid HM2
    clear HM2
    generalize World.setCell _ ⟨P7, 31, none⟩ (.int .u8 (z.toNat : Int)) = wn at HM ⊢
    obtain ⟨z, hz⟩ : ∃ z, x2 ^^^ 128 = z := ⟨_, rfl⟩
    have b2 := u8_xor_lit x2 128
    rw [show ((128 : UInt8).toNat : Int) = 128 from rfl, hz] at b2
    have b1 := trivial
    have hy := trivial
    have fx := (HM.out.blk 1 rfl).byt 31 (by simp only [List.length_set, HL.out.1, HL.out.2.1]; omega)
    have zx := (HM.out.blk 1 rfl).frozen 31
    rw [show (u).getD 31 0 = x2 by exact HX.out.2.2] at fx
    have h1 : (u.map u8v).set 31 (.int .u8 (z.toNat : Int)) = (vL u).map u8v := by rw [vL, HX.out.2.2, hz, List.map_set]; rfl
    have HN := Lib.hid (show ∀ W, Mem w [blkE P7 23 ((bL a m).map u8v), blkE P8 23 ((u).map u8v), blkE (w.heap.size + 1) 23 (u.map u8v), blkE w.heap.size 23 (a.map u8v)] W → Mem w [blkE P7 23 ((bL a m).map u8v), blkE P8 23 ((vL u).map u8v), blkE (w.heap.size + 1) 23 (u.map u8v), blkE w.heap.size 23 (a.map u8v)] (W.setCell ⟨P8, 31, none⟩ (.int .u8 (z.toNat : Int))) from fun W hW => by have h := hW.setCell 1 rfl 31 (.int .u8 (z.toNat : Int)); rw [h1] at h; exact h)
    clear h1 hy hz
    go_upto_region 5 with fail
    clear fx zx b1 b2
    have HM2 := HN.out _ HM.out
    clear HN HM
    have HM := Lib.hid HM2
    clear HM2
    generalize World.setCell _ ⟨P8, 31, none⟩ (.int .u8 (z.toNat : Int)) = wn at HM ⊢
    go_wp2_with (first | (refine wpList_load_blk rfl 23 (.tmp 3) rfl w.heap.size rfl 23 (a.map u8v) (HM.out.blk 3 rfl) 32 5 Try.underlying23 (cells32 a HL.out.1) ?_; rw [HC.out.1]) | (refine wpList_build_as rfl 23 [] rfl cz HC.out.2.2 ?_; (try simp only [Act.put, List.setIfInBounds_toArray, List.set_cons_zero, List.set_cons_succ])))
    refine (HSH.out _).mono ?_
    rintro e w7 ⟨rfl, hb⟩
    replace HM := Lib.hid (show Mem w [blkE P7 23 ((bL a m).map u8v), blkE P8 23 ((vL u).map u8v), blkE (w.heap.size + 1) 23 (u.map u8v), blkE w.heap.size 23 (a.map u8v)] w7 from HM.out.below hb)
    clear hb
    have HA := Lib.hid (show Mem w [blkE w7.heap.size 23 (aeZ 32), blkE P7 23 ((bL a m).map u8v), blkE P8 23 ((vL u).map u8v), blkE (w.heap.size + 1) 23 (u.map u8v), blkE w.heap.size 23 (a.map u8v)] (w7.alloc (.cells #[.int .u8 0, .int .u8 0, .int .u8 0, .int .u8 0, .int .u8 0, .int .u8 0, .int .u8 0, .int .u8 0, .int .u8 0, .int .u8 0, .int .u8 0, .int .u8 0, .int .u8 0, .int .u8 0, .int .u8 0, .int .u8 0, .int .u8 0, .int .u8 0, .int .u8 0, .int .u8 0, .int .u8 0, .int .u8 0, .int .u8 0, .int .u8 0, .int .u8 0, .int .u8 0, .int .u8 0, .int .u8 0, .int .u8 0, .int .u8 0, .int .u8 0, .int .u8 0] 23)) from HM.out.alloc rfl 23 #[.int .u8 0, .int .u8 0, .int .u8 0, .int .u8 0, .int .u8 0, .int .u8 0, .int .u8 0, .int .u8 0, .int .u8 0, .int .u8 0, .int .u8 0, .int .u8 0, .int .u8 0, .int .u8 0, .int .u8 0, .int .u8 0, .int .u8 0, .int .u8 0, .int .u8 0, .int .u8 0, .int .u8 0, .int .u8 0, .int .u8 0, .int .u8 0, .int .u8 0, .int .u8 0, .int .u8 0, .int .u8 0, .int .u8 0, .int .u8 0, .int .u8 0, .int .u8 0] (aeZ 32) rfl)
    go_upto_region 6 with (refine wpList_store_blk rfl 23 (.tmp 9) (.tmp 33) rfl w7.heap.size (zeroK.map u8v) rfl (by show Value.agg cz = _; rw [HCZ.out]) 23 (aeZ 32) (HA.out.blk 0 rfl) (cells32 zeroK rfl) (by rfl) (u8v_one _) ?_; intro w8 hb9 hg9)
    (try simp only [Act.put])
    replace HM := Lib.hid (show Mem w [blkE P7 23 ((bL a m).map u8v), blkE P8 23 ((vL u).map u8v), blkE (w.heap.size + 1) 23 (u.map u8v), blkE w.heap.size 23 (a.map u8v)] w8 from (HA.out.put 0 rfl _ hg9 hb9).erase 0)
    clear HA hb9 hg9
    refine wp_region_held_drew (S := fun W' => Mem w [blkE P7 23 ((bL a m).map u8v), blkE P8 23 ((vL u).map u8v), blkE (w.heap.size + 1) 23 (u.map u8v), blkE w.heap.size 23 (a.map u8v)] W') (by kernel_rfl) ((HM.out).drew) (fun hHeld => ?_)
    replace HM := Lib.hid HM.out.drew
    generalize w8.drew = wd1 at HM hHeld ⊢
    refine take_first (v := .agg cb) 0 rfl (by kernel_rfl) (by kernel_rfl) (by kernel_rfl) (fun _ _ _ h => h) (by rw [← HD.out.1]; exact yields_load_blk (by rfl) 23 (.tmp 7) rfl P7 rfl 23 ((bL a m).map u8v) (fun w' hb => hb.blk 0 rfl) 32 5 Try.underlying23 (cells32 (bL a m) (bL_length a m HL.out.1))) (by assumption) ?_
    (try simp only [Act.put, List.setIfInBounds_toArray, List.set_cons_zero, List.set_cons_succ])
    refine take_first (v := .agg cv) 1 rfl (by kernel_rfl) (by kernel_rfl) (by kernel_rfl) (fun _ _ _ h => h) (by rw [← HD.out.2]; exact yields_load_blk (by rfl) 23 (.tmp 8) rfl P8 rfl 23 ((vL u).map u8v) (fun w' hb => hb.blk 1 rfl) 32 5 Try.underlying23 (cells32 (vL u) (vL_length u HL.out.2.1))) (by assumption) ?_
    (try simp only [Act.put, List.setIfInBounds_toArray, List.set_cons_zero, List.set_cons_succ])
    refine take_first (v := .agg ca) 3 rfl (by kernel_rfl) (by kernel_rfl) (by kernel_rfl) (fun _ _ _ h => h) (by rw [← HC.out.1]; exact yields_load_blk (by rfl) 23 (.tmp 3) rfl w.heap.size rfl 23 (a.map u8v) (fun w' hb => hb.blk 3 rfl) 32 5 Try.underlying23 (cells32 a HL.out.1)) (by assumption) ?_
    (try simp only [Act.put, List.setIfInBounds_toArray, List.set_cons_zero, List.set_cons_succ])
    refine take_first (v := .agg cu) 4 rfl (by kernel_rfl) (by kernel_rfl) (by kernel_rfl) (fun _ _ _ h => h) (by rw [← HC.out.2.1]; exact yields_load_blk (by rfl) 23 (.tmp 4) rfl (w.heap.size + 1) rfl 23 (u.map u8v) (fun w' hb => hb.blk 2 rfl) 32 5 Try.underlying23 (cells32 u HL.out.2.1)) (by assumption) ?_
    (try simp only [Act.put, List.setIfInBounds_toArray, List.set_cons_zero, List.set_cons_succ])
    refine step_one 2 rfl (by kernel_rfl) (fun K hK => ?_)
    clear hHeld
    go_simp
    refine (HM1.out _).mono ?_
    rintro e wy2 ⟨rfl, hb⟩
    replace HM := Lib.hid (show Mem w [blkE P7 23 ((bL a m).map u8v), blkE P8 23 ((vL u).map u8v), blkE (w.heap.size + 1) 23 (u.map u8v), blkE w.heap.size 23 (a.map u8v)] wy2 from HM.out.below hb)
    clear hb
    go_wp2_with fail
    refine hK.out _ _ (HM.out) (fun hHeld => ?_)
    clear hK K
    (try simp only [Act.put, List.setIfInBounds_toArray, List.set_cons_zero, List.set_cons_succ])
    refine step_one 5 rfl (by kernel_rfl) (fun K hK => ?_)
    clear hHeld
    go_simp
    refine (HM2.out _).mono ?_
    rintro e wy3 ⟨rfl, hb⟩
    replace HM := Lib.hid (show Mem w [blkE P7 23 ((bL a m).map u8v), blkE P8 23 ((vL u).map u8v), blkE (w.heap.size + 1) 23 (u.map u8v), blkE w.heap.size 23 (a.map u8v)] wy3 from HM.out.below hb)
    clear hb
    go_wp2_with fail
    refine hK.out _ _ (HM.out) (fun hHeld => ?_)
    clear hK K
    (try simp only [Act.put, List.setIfInBounds_toArray, List.set_cons_zero, List.set_cons_succ])
    refine take_first (v := ?_) 6 rfl (by kernel_rfl) (by kernel_rfl) (by kernel_rfl) (fun _ _ _ h => h) (Or.inl ⟨by rfl, ?_⟩) (by assumption) ?_
    rotate_left
    · (intro w hSw; (try dsimp only at hSw); have ex := HE1.out w; go_simp; try with_reducible rfl)
    (try simp only [Act.put, List.setIfInBounds_toArray, List.set_cons_zero, List.set_cons_succ])
    refine take_first (v := ?_) 7 rfl (by kernel_rfl) (by kernel_rfl) (by kernel_rfl) (fun _ _ _ h => h) (Or.inl ⟨by rfl, ?_⟩) (by assumption) ?_
    rotate_left
    · (intro w hSw; (try dsimp only at hSw); go_simp; try with_reducible rfl)
    (try simp only [Act.put, List.setIfInBounds_toArray, List.set_cons_zero, List.set_cons_succ])
    refine take_first (v := .agg ca) 8 rfl (by kernel_rfl) (by kernel_rfl) (by kernel_rfl) (fun _ _ _ h => h) (by rw [← HC.out.1]; exact yields_load_blk (by rfl) 23 (.tmp 3) rfl w.heap.size rfl 23 (a.map u8v) (fun w' hb => hb.blk 3 rfl) 32 5 Try.underlying23 (cells32 a HL.out.1)) (by assumption) ?_
    (try simp only [Act.put, List.setIfInBounds_toArray, List.set_cons_zero, List.set_cons_succ])
    refine take_first (v := .agg cb) 11 rfl (by kernel_rfl) (by kernel_rfl) (by kernel_rfl) (fun _ _ _ h => h) (by rw [← HD.out.1]; exact yields_load_blk (by rfl) 23 (.tmp 7) rfl P7 rfl 23 ((bL a m).map u8v) (fun w' hb => hb.blk 0 rfl) 32 5 Try.underlying23 (cells32 (bL a m) (bL_length a m HL.out.1))) (by assumption) ?_
    (try simp only [Act.put, List.setIfInBounds_toArray, List.set_cons_zero, List.set_cons_succ])
    refine step_one 9 rfl (by kernel_rfl) (fun K hK => ?_)
    clear hHeld
    go_simp
    refine (HC1.out _).mono ?_
    rintro e wy4 ⟨rfl, hb⟩
    replace HM := Lib.hid (show Mem w [blkE P7 23 ((bL a m).map u8v), blkE P8 23 ((vL u).map u8v), blkE (w.heap.size + 1) 23 (u.map u8v), blkE w.heap.size 23 (a.map u8v)] wy4 from HM.out.below hb)
    clear hb
    go_wp2_with fail
    refine hK.out _ _ (HM.out) (fun hHeld => ?_)
    clear hK K
    (try simp only [Act.put, List.setIfInBounds_toArray, List.set_cons_zero, List.set_cons_succ])
    refine step_one 10 rfl (by kernel_rfl) (fun K hK => ?_)
    clear hHeld
    go_simp
    refine (HC2.out _).mono ?_
    rintro e wy5 ⟨rfl, hb⟩
    replace HM := Lib.hid (show Mem w [blkE P7 23 ((bL a m).map u8v), blkE P8 23 ((vL u).map u8v), blkE (w.heap.size + 1) 23 (u.map u8v), blkE w.heap.size 23 (a.map u8v)] wy5 from HM.out.below hb)
    clear hb
    go_wp2_with fail
    refine hK.out _ _ (HM.out) (fun hHeld => ?_)
    clear hK K
    (try simp only [Act.put, List.setIfInBounds_toArray, List.set_cons_zero, List.set_cons_succ])
    refine step_one 12 rfl (by kernel_rfl) (fun K hK => ?_)
    clear hHeld
    go_simp
    refine (HC3.out _).mono ?_
    rintro e wy6 ⟨rfl, hb⟩
    replace HM := Lib.hid (show Mem w [blkE P7 23 ((bL a m).map u8v), blkE P8 23 ((vL u).map u8v), blkE (w.heap.size + 1) 23 (u.map u8v), blkE w.heap.size 23 (a.map u8v)] wy6 from HM.out.below hb)
    clear hb
    go_wp2_with fail
    refine hK.out _ _ (HM.out) (fun hHeld => ?_)
    clear hK K
    (try simp only [Act.put, List.setIfInBounds_toArray, List.set_cons_zero, List.set_cons_succ])
    refine take_first (v := ?_) 13 rfl (by kernel_rfl) (by kernel_rfl) (by kernel_rfl) (fun _ _ _ h => h) (Or.inl ⟨by rfl, ?_⟩) (by assumption) ?_
    rotate_left
    · (intro w hSw; (try dsimp only at hSw); have ex := HE2.out w; go_simp; try with_reducible rfl)
    (try simp only [Act.put, List.setIfInBounds_toArray, List.set_cons_zero, List.set_cons_succ])
    refine take_first (v := ?_) 14 rfl (by kernel_rfl) (by kernel_rfl) (by kernel_rfl) (fun _ _ _ h => h) (Or.inl ⟨by rfl, ?_⟩) (by assumption) ?_
    rotate_left
    · (intro w hSw; (try dsimp only at hSw); go_simp; try with_reducible rfl)
    (try simp only [Act.put, List.setIfInBounds_toArray, List.set_cons_zero, List.set_cons_succ])
    refine take_first (v := ?_) 15 rfl (by kernel_rfl) (by kernel_rfl) (by kernel_rfl) (fun _ _ _ h => h) (Or.inl ⟨by rfl, ?_⟩) (by assumption) ?_
    rotate_left
    · (intro w hSw; (try dsimp only at hSw); go_simp; try with_reducible rfl)
    (try simp only [Act.put, List.setIfInBounds_toArray, List.set_cons_zero, List.set_cons_succ])
    refine take_first (v := ?_) 16 rfl (by kernel_rfl) (by kernel_rfl) (by kernel_rfl) (fun _ _ _ h => h) (Or.inl ⟨by rfl, ?_⟩) (by assumption) ?_
    rotate_left
    · (intro w hSw; (try dsimp only at hSw); go_simp; try with_reducible rfl)
    (try simp only [Act.put, List.setIfInBounds_toArray, List.set_cons_zero, List.set_cons_succ])
    refine take_first (v := ?_) 17 rfl (by kernel_rfl) (by kernel_rfl) (by kernel_rfl) (fun _ _ _ h => h) (Or.inl ⟨by rfl, ?_⟩) (by assumption) ?_
    rotate_left
    · (intro w hSw; (try dsimp only at hSw); go_simp; try with_reducible rfl)
    (try simp only [Act.put, List.setIfInBounds_toArray, List.set_cons_zero, List.set_cons_succ])
    refine take_first (v := ?_) 18 rfl (by kernel_rfl) (by kernel_rfl) (by kernel_rfl) (fun _ _ _ h => h) (Or.inl ⟨by rfl, ?_⟩) (by assumption) ?_
    rotate_left
    · (intro w hSw; (try dsimp only at hSw); go_simp; try with_reducible rfl)
    (try simp only [Act.put, List.setIfInBounds_toArray, List.set_cons_zero, List.set_cons_succ])
    refine take_first (v := ?_) 19 rfl (by kernel_rfl) (by kernel_rfl) (by kernel_rfl) (fun _ _ _ h => h) (Or.inl ⟨by rfl, ?_⟩) (by assumption) ?_
    rotate_left
    · (intro w hSw; (try dsimp only at hSw); go_simp; try with_reducible rfl)
    (try simp only [Act.put, List.setIfInBounds_toArray, List.set_cons_zero, List.set_cons_succ])
    refine step_one 20 rfl (by kernel_rfl) (fun K hK => ?_)
    clear hHeld
    go_simp
    refine (HBG.out _).mono ?_
    rintro e wy7 ⟨rfl, hb⟩
    replace HM := Lib.hid (show Mem w [blkE P7 23 ((bL a m).map u8v), blkE P8 23 ((vL u).map u8v), blkE (w.heap.size + 1) 23 (u.map u8v), blkE w.heap.size 23 (a.map u8v)] wy7 from HM.out.below hb)
    clear hb
    go_wp2_with fail
    refine hK.out _ _ (HM.out) (fun hHeld => ?_)
    clear hK K
    (try simp only [Act.put, List.setIfInBounds_toArray, List.set_cons_zero, List.set_cons_succ])
    refine take_first (v := ?_) 21 rfl (by kernel_rfl) (by kernel_rfl) (by kernel_rfl) (fun _ _ _ h => h) (Or.inl ⟨by rfl, ?_⟩) (by assumption) ?_
    rotate_left
    · (intro w hSw; (try dsimp only at hSw); go_simp; try with_reducible rfl)
    (try simp only [Act.put, List.setIfInBounds_toArray, List.set_cons_zero, List.set_cons_succ])
    refine take_first (v := ?_) 22 rfl (by kernel_rfl) (by kernel_rfl) (by kernel_rfl) (fun _ _ _ h => h) (Or.inl ⟨by rfl, ?_⟩) (by assumption) ?_
    rotate_left
    · (intro w hSw; (try dsimp only at hSw); go_simp; try with_reducible rfl)
    (try simp only [Act.put, List.setIfInBounds_toArray, List.set_cons_zero, List.set_cons_succ])
    refine wpAnyH_done (by kernel_rfl) ?_ _
    have HF := Lib.hid HM.out.bel
    clear HM
    go_wp2_with fail
    go_ret
    exact ⟨rfl, HF.out⟩
  · have HM := Lib.hid hM
    clear hM
    obtain ⟨y, hy⟩ : ∃ y, m &&& 7 = y := ⟨_, rfl⟩
    obtain ⟨z, hz⟩ : ∃ z, x0 ^^^ y = z := ⟨_, rfl⟩
    have b1 := u8_and_lit m 7
    rw [show ((7 : UInt8).toNat : Int) = 7 from rfl, hy] at b1
    have b2 := u8_xor_lit x0 y
    rw [hz] at b2
    have fx := (HM.out.blk 1 rfl).byt 0 (by simp only [List.length_set, HL.out.1, HL.out.2.1]; omega)
    have zx := (HM.out.blk 1 rfl).frozen 0
    rw [show (a).getD 0 0 = x0 by exact HX.out.1] at fx
    have h1 : (a.map u8v).set 0 (.int .u8 (z.toNat : Int)) = (a.set 0 (x0 ^^^ (m &&& 7))).map u8v := by rw [hy, hz, List.map_set]; rfl
    have HN := Lib.hid (show ∀ W, Mem w [blkE P8 23 ((u).map u8v), blkE P7 23 ((a).map u8v), blkE (w.heap.size + 1) 23 (u.map u8v), blkE w.heap.size 23 (a.map u8v)] W → Mem w [blkE P8 23 ((u).map u8v), blkE P7 23 ((a.set 0 (x0 ^^^ (m &&& 7))).map u8v), blkE (w.heap.size + 1) 23 (u.map u8v), blkE w.heap.size 23 (a.map u8v)] (W.setCell ⟨P7, 0, none⟩ (.int .u8 (z.toNat : Int))) from fun W hW => by have h := hW.setCell 1 rfl 0 (.int .u8 (z.toNat : Int)); rw [h1] at h; exact h)
    clear h1 hy hz
    go_upto_region 3 with fail
    clear fx zx b1 b2
    have HM2 := HN.out _ HM.out
    clear HN HM
    have HM := Lib.hid HM2
    clear HM2
    generalize World.setCell _ ⟨P7, 0, none⟩ (.int .u8 (z.toNat : Int)) = wn at HM ⊢
    obtain ⟨y, hy⟩ : ∃ y, m &&& 192 = y := ⟨_, rfl⟩
    obtain ⟨z, hz⟩ : ∃ z, x1 ^^^ y = z := ⟨_, rfl⟩
    have b1 := u8_and_lit m 192
    rw [show ((192 : UInt8).toNat : Int) = 192 from rfl, hy] at b1
    have b2 := u8_xor_lit x1 y
    rw [hz] at b2
    have fx := (HM.out.blk 1 rfl).byt 31 (by simp only [List.length_set, HL.out.1, HL.out.2.1]; omega)
    have zx := (HM.out.blk 1 rfl).frozen 31
    rw [show (a.set 0 (x0 ^^^ (m &&& 7))).getD 31 0 = x1 by rw [List.getD_eq_getElem?_getD, List.getElem?_set_ne (by omega), ← List.getD_eq_getElem?_getD]; exact HX.out.2.1] at fx
    have h1 : ((a.set 0 (x0 ^^^ (m &&& 7))).map u8v).set 31 (.int .u8 (z.toNat : Int)) = (bL a m).map u8v := by rw [bL, HX.out.1, HX.out.2.1, hy, hz, List.map_set (f := u8v) (i := 31)]; rfl
    have HN := Lib.hid (show ∀ W, Mem w [blkE P8 23 ((u).map u8v), blkE P7 23 ((a.set 0 (x0 ^^^ (m &&& 7))).map u8v), blkE (w.heap.size + 1) 23 (u.map u8v), blkE w.heap.size 23 (a.map u8v)] W → Mem w [blkE P8 23 ((u).map u8v), blkE P7 23 ((bL a m).map u8v), blkE (w.heap.size + 1) 23 (u.map u8v), blkE w.heap.size 23 (a.map u8v)] (W.setCell ⟨P7, 31, none⟩ (.int .u8 (z.toNat : Int))) from fun W hW => by have h := hW.setCell 1 rfl 31 (.int .u8 (z.toNat : Int)); rw [h1] at h; exact h)
    clear h1 hy hz
    go_upto_region 4 with fail
    clear fx zx b1 b2
    have HM2 := HN.out _ HM.out
    clear HN HM
    have HM := Lib.hid HM2
    clear HM2
    generalize World.setCell _ ⟨P7, 31, none⟩ (.int .u8 (z.toNat : Int)) = wn at HM ⊢
    obtain ⟨z, hz⟩ : ∃ z, x2 ^^^ 128 = z := ⟨_, rfl⟩
    have b2 := u8_xor_lit x2 128
    rw [show ((128 : UInt8).toNat : Int) = 128 from rfl, hz] at b2
    have b1 := trivial
    have hy := trivial
    have fx := (HM.out.blk 0 rfl).byt 31 (by simp only [List.length_set, HL.out.1, HL.out.2.1]; omega)
    have zx := (HM.out.blk 0 rfl).frozen 31
    rw [show (u).getD 31 0 = x2 by exact HX.out.2.2] at fx
    have h1 : (u.map u8v).set 31 (.int .u8 (z.toNat : Int)) = (vL u).map u8v := by rw [vL, HX.out.2.2, hz, List.map_set]; rfl
    have HN := Lib.hid (show ∀ W, Mem w [blkE P8 23 ((u).map u8v), blkE P7 23 ((bL a m).map u8v), blkE (w.heap.size + 1) 23 (u.map u8v), blkE w.heap.size 23 (a.map u8v)] W → Mem w [blkE P8 23 ((vL u).map u8v), blkE P7 23 ((bL a m).map u8v), blkE (w.heap.size + 1) 23 (u.map u8v), blkE w.heap.size 23 (a.map u8v)] (W.setCell ⟨P8, 31, none⟩ (.int .u8 (z.toNat : Int))) from fun W hW => by have h := hW.setCell 0 rfl 31 (.int .u8 (z.toNat : Int)); rw [h1] at h; exact h)
    clear h1 hy hz
    go_upto_region 5 with fail
    clear fx zx b1 b2
    have HM2 := HN.out _ HM.out
    clear HN HM
    have HM := Lib.hid HM2
    clear HM2
    generalize World.setCell _ ⟨P8, 31, none⟩ (.int .u8 (z.toNat : Int)) = wn at HM ⊢
    go_wp2_with (first | (refine wpList_load_blk rfl 23 (.tmp 3) rfl w.heap.size rfl 23 (a.map u8v) (HM.out.blk 3 rfl) 32 5 Try.underlying23 (cells32 a HL.out.1) ?_; rw [HC.out.1]) | (refine wpList_build_as rfl 23 [] rfl cz HC.out.2.2 ?_; (try simp only [Act.put, List.setIfInBounds_toArray, List.set_cons_zero, List.set_cons_succ])))
    refine (HSH.out _).mono ?_
    rintro e w7 ⟨rfl, hb⟩
    replace HM := Lib.hid (show Mem w [blkE P8 23 ((vL u).map u8v), blkE P7 23 ((bL a m).map u8v), blkE (w.heap.size + 1) 23 (u.map u8v), blkE w.heap.size 23 (a.map u8v)] w7 from HM.out.below hb)
    clear hb
    have HA := Lib.hid (show Mem w [blkE w7.heap.size 23 (aeZ 32), blkE P8 23 ((vL u).map u8v), blkE P7 23 ((bL a m).map u8v), blkE (w.heap.size + 1) 23 (u.map u8v), blkE w.heap.size 23 (a.map u8v)] (w7.alloc (.cells #[.int .u8 0, .int .u8 0, .int .u8 0, .int .u8 0, .int .u8 0, .int .u8 0, .int .u8 0, .int .u8 0, .int .u8 0, .int .u8 0, .int .u8 0, .int .u8 0, .int .u8 0, .int .u8 0, .int .u8 0, .int .u8 0, .int .u8 0, .int .u8 0, .int .u8 0, .int .u8 0, .int .u8 0, .int .u8 0, .int .u8 0, .int .u8 0, .int .u8 0, .int .u8 0, .int .u8 0, .int .u8 0, .int .u8 0, .int .u8 0, .int .u8 0, .int .u8 0] 23)) from HM.out.alloc rfl 23 #[.int .u8 0, .int .u8 0, .int .u8 0, .int .u8 0, .int .u8 0, .int .u8 0, .int .u8 0, .int .u8 0, .int .u8 0, .int .u8 0, .int .u8 0, .int .u8 0, .int .u8 0, .int .u8 0, .int .u8 0, .int .u8 0, .int .u8 0, .int .u8 0, .int .u8 0, .int .u8 0, .int .u8 0, .int .u8 0, .int .u8 0, .int .u8 0, .int .u8 0, .int .u8 0, .int .u8 0, .int .u8 0, .int .u8 0, .int .u8 0, .int .u8 0, .int .u8 0] (aeZ 32) rfl)
    go_upto_region 6 with (refine wpList_store_blk rfl 23 (.tmp 9) (.tmp 33) rfl w7.heap.size (zeroK.map u8v) rfl (by show Value.agg cz = _; rw [HCZ.out]) 23 (aeZ 32) (HA.out.blk 0 rfl) (cells32 zeroK rfl) (by rfl) (u8v_one _) ?_; intro w8 hb9 hg9)
    (try simp only [Act.put])
    replace HM := Lib.hid (show Mem w [blkE P8 23 ((vL u).map u8v), blkE P7 23 ((bL a m).map u8v), blkE (w.heap.size + 1) 23 (u.map u8v), blkE w.heap.size 23 (a.map u8v)] w8 from (HA.out.put 0 rfl _ hg9 hb9).erase 0)
    clear HA hb9 hg9
    refine wp_region_held_drew (S := fun W' => Mem w [blkE P8 23 ((vL u).map u8v), blkE P7 23 ((bL a m).map u8v), blkE (w.heap.size + 1) 23 (u.map u8v), blkE w.heap.size 23 (a.map u8v)] W') (by kernel_rfl) ((HM.out).drew) (fun hHeld => ?_)
    replace HM := Lib.hid HM.out.drew
    generalize w8.drew = wd1 at HM hHeld ⊢
    refine take_first (v := .agg cb) 0 rfl (by kernel_rfl) (by kernel_rfl) (by kernel_rfl) (fun _ _ _ h => h) (by rw [← HD.out.1]; exact yields_load_blk (by rfl) 23 (.tmp 7) rfl P7 rfl 23 ((bL a m).map u8v) (fun w' hb => hb.blk 1 rfl) 32 5 Try.underlying23 (cells32 (bL a m) (bL_length a m HL.out.1))) (by assumption) ?_
    (try simp only [Act.put, List.setIfInBounds_toArray, List.set_cons_zero, List.set_cons_succ])
    refine take_first (v := .agg cv) 1 rfl (by kernel_rfl) (by kernel_rfl) (by kernel_rfl) (fun _ _ _ h => h) (by rw [← HD.out.2]; exact yields_load_blk (by rfl) 23 (.tmp 8) rfl P8 rfl 23 ((vL u).map u8v) (fun w' hb => hb.blk 0 rfl) 32 5 Try.underlying23 (cells32 (vL u) (vL_length u HL.out.2.1))) (by assumption) ?_
    (try simp only [Act.put, List.setIfInBounds_toArray, List.set_cons_zero, List.set_cons_succ])
    refine take_first (v := .agg ca) 3 rfl (by kernel_rfl) (by kernel_rfl) (by kernel_rfl) (fun _ _ _ h => h) (by rw [← HC.out.1]; exact yields_load_blk (by rfl) 23 (.tmp 3) rfl w.heap.size rfl 23 (a.map u8v) (fun w' hb => hb.blk 3 rfl) 32 5 Try.underlying23 (cells32 a HL.out.1)) (by assumption) ?_
    (try simp only [Act.put, List.setIfInBounds_toArray, List.set_cons_zero, List.set_cons_succ])
    refine take_first (v := .agg cu) 4 rfl (by kernel_rfl) (by kernel_rfl) (by kernel_rfl) (fun _ _ _ h => h) (by rw [← HC.out.2.1]; exact yields_load_blk (by rfl) 23 (.tmp 4) rfl (w.heap.size + 1) rfl 23 (u.map u8v) (fun w' hb => hb.blk 2 rfl) 32 5 Try.underlying23 (cells32 u HL.out.2.1)) (by assumption) ?_
    (try simp only [Act.put, List.setIfInBounds_toArray, List.set_cons_zero, List.set_cons_succ])
    refine step_one 2 rfl (by kernel_rfl) (fun K hK => ?_)
    clear hHeld
    go_simp
    refine (HM1.out _).mono ?_
    rintro e wy2 ⟨rfl, hb⟩
    replace HM := Lib.hid (show Mem w [blkE P8 23 ((vL u).map u8v), blkE P7 23 ((bL a m).map u8v), blkE (w.heap.size + 1) 23 (u.map u8v), blkE w.heap.size 23 (a.map u8v)] wy2 from HM.out.below hb)
    clear hb
    go_wp2_with fail
    refine hK.out _ _ (HM.out) (fun hHeld => ?_)
    clear hK K
    (try simp only [Act.put, List.setIfInBounds_toArray, List.set_cons_zero, List.set_cons_succ])
    refine step_one 5 rfl (by kernel_rfl) (fun K hK => ?_)
    clear hHeld
    go_simp
    refine (HM2.out _).mono ?_
    rintro e wy3 ⟨rfl, hb⟩
    replace HM := Lib.hid (show Mem w [blkE P8 23 ((vL u).map u8v), blkE P7 23 ((bL a m).map u8v), blkE (w.heap.size + 1) 23 (u.map u8v), blkE w.heap.size 23 (a.map u8v)] wy3 from HM.out.below hb)
    clear hb
    go_wp2_with fail
    refine hK.out _ _ (HM.out) (fun hHeld => ?_)
    clear hK K
    (try simp only [Act.put, List.setIfInBounds_toArray, List.set_cons_zero, List.set_cons_succ])
    refine take_first (v := ?_) 6 rfl (by kernel_rfl) (by kernel_rfl) (by kernel_rfl) (fun _ _ _ h => h) (Or.inl ⟨by rfl, ?_⟩) (by assumption) ?_
    rotate_left
    · (intro w hSw; (try dsimp only at hSw); have ex := HE1.out w; go_simp; try with_reducible rfl)
    (try simp only [Act.put, List.setIfInBounds_toArray, List.set_cons_zero, List.set_cons_succ])
    refine take_first (v := ?_) 7 rfl (by kernel_rfl) (by kernel_rfl) (by kernel_rfl) (fun _ _ _ h => h) (Or.inl ⟨by rfl, ?_⟩) (by assumption) ?_
    rotate_left
    · (intro w hSw; (try dsimp only at hSw); go_simp; try with_reducible rfl)
    (try simp only [Act.put, List.setIfInBounds_toArray, List.set_cons_zero, List.set_cons_succ])
    refine take_first (v := .agg ca) 8 rfl (by kernel_rfl) (by kernel_rfl) (by kernel_rfl) (fun _ _ _ h => h) (by rw [← HC.out.1]; exact yields_load_blk (by rfl) 23 (.tmp 3) rfl w.heap.size rfl 23 (a.map u8v) (fun w' hb => hb.blk 3 rfl) 32 5 Try.underlying23 (cells32 a HL.out.1)) (by assumption) ?_
    (try simp only [Act.put, List.setIfInBounds_toArray, List.set_cons_zero, List.set_cons_succ])
    refine take_first (v := .agg cb) 11 rfl (by kernel_rfl) (by kernel_rfl) (by kernel_rfl) (fun _ _ _ h => h) (by rw [← HD.out.1]; exact yields_load_blk (by rfl) 23 (.tmp 7) rfl P7 rfl 23 ((bL a m).map u8v) (fun w' hb => hb.blk 1 rfl) 32 5 Try.underlying23 (cells32 (bL a m) (bL_length a m HL.out.1))) (by assumption) ?_
    (try simp only [Act.put, List.setIfInBounds_toArray, List.set_cons_zero, List.set_cons_succ])
    refine step_one 9 rfl (by kernel_rfl) (fun K hK => ?_)
    clear hHeld
    go_simp
    refine (HC1.out _).mono ?_
    rintro e wy4 ⟨rfl, hb⟩
    replace HM := Lib.hid (show Mem w [blkE P8 23 ((vL u).map u8v), blkE P7 23 ((bL a m).map u8v), blkE (w.heap.size + 1) 23 (u.map u8v), blkE w.heap.size 23 (a.map u8v)] wy4 from HM.out.below hb)
    clear hb
    go_wp2_with fail
    refine hK.out _ _ (HM.out) (fun hHeld => ?_)
    clear hK K
    (try simp only [Act.put, List.setIfInBounds_toArray, List.set_cons_zero, List.set_cons_succ])
    refine step_one 10 rfl (by kernel_rfl) (fun K hK => ?_)
    clear hHeld
    go_simp
    refine (HC2.out _).mono ?_
    rintro e wy5 ⟨rfl, hb⟩
    replace HM := Lib.hid (show Mem w [blkE P8 23 ((vL u).map u8v), blkE P7 23 ((bL a m).map u8v), blkE (w.heap.size + 1) 23 (u.map u8v), blkE w.heap.size 23 (a.map u8v)] wy5 from HM.out.below hb)
    clear hb
    go_wp2_with fail
    refine hK.out _ _ (HM.out) (fun hHeld => ?_)
    clear hK K
    (try simp only [Act.put, List.setIfInBounds_toArray, List.set_cons_zero, List.set_cons_succ])
    refine step_one 12 rfl (by kernel_rfl) (fun K hK => ?_)
    clear hHeld
    go_simp
    refine (HC3.out _).mono ?_
    rintro e wy6 ⟨rfl, hb⟩
    replace HM := Lib.hid (show Mem w [blkE P8 23 ((vL u).map u8v), blkE P7 23 ((bL a m).map u8v), blkE (w.heap.size + 1) 23 (u.map u8v), blkE w.heap.size 23 (a.map u8v)] wy6 from HM.out.below hb)
    clear hb
    go_wp2_with fail
    refine hK.out _ _ (HM.out) (fun hHeld => ?_)
    clear hK K
    (try simp only [Act.put, List.setIfInBounds_toArray, List.set_cons_zero, List.set_cons_succ])
    refine take_first (v := ?_) 13 rfl (by kernel_rfl) (by kernel_rfl) (by kernel_rfl) (fun _ _ _ h => h) (Or.inl ⟨by rfl, ?_⟩) (by assumption) ?_
    rotate_left
    · (intro w hSw; (try dsimp only at hSw); have ex := HE2.out w; go_simp; try with_reducible rfl)
    (try simp only [Act.put, List.setIfInBounds_toArray, List.set_cons_zero, List.set_cons_succ])
    refine take_first (v := ?_) 14 rfl (by kernel_rfl) (by kernel_rfl) (by kernel_rfl) (fun _ _ _ h => h) (Or.inl ⟨by rfl, ?_⟩) (by assumption) ?_
    rotate_left
    · (intro w hSw; (try dsimp only at hSw); go_simp; try with_reducible rfl)
    (try simp only [Act.put, List.setIfInBounds_toArray, List.set_cons_zero, List.set_cons_succ])
    refine take_first (v := ?_) 15 rfl (by kernel_rfl) (by kernel_rfl) (by kernel_rfl) (fun _ _ _ h => h) (Or.inl ⟨by rfl, ?_⟩) (by assumption) ?_
    rotate_left
    · (intro w hSw; (try dsimp only at hSw); go_simp; try with_reducible rfl)
    (try simp only [Act.put, List.setIfInBounds_toArray, List.set_cons_zero, List.set_cons_succ])
    refine take_first (v := ?_) 16 rfl (by kernel_rfl) (by kernel_rfl) (by kernel_rfl) (fun _ _ _ h => h) (Or.inl ⟨by rfl, ?_⟩) (by assumption) ?_
    rotate_left
    · (intro w hSw; (try dsimp only at hSw); go_simp; try with_reducible rfl)
    (try simp only [Act.put, List.setIfInBounds_toArray, List.set_cons_zero, List.set_cons_succ])
    refine take_first (v := ?_) 17 rfl (by kernel_rfl) (by kernel_rfl) (by kernel_rfl) (fun _ _ _ h => h) (Or.inl ⟨by rfl, ?_⟩) (by assumption) ?_
    rotate_left
    · (intro w hSw; (try dsimp only at hSw); go_simp; try with_reducible rfl)
    (try simp only [Act.put, List.setIfInBounds_toArray, List.set_cons_zero, List.set_cons_succ])
    refine take_first (v := ?_) 18 rfl (by kernel_rfl) (by kernel_rfl) (by kernel_rfl) (fun _ _ _ h => h) (Or.inl ⟨by rfl, ?_⟩) (by assumption) ?_
    rotate_left
    · (intro w hSw; (try dsimp only at hSw); go_simp; try with_reducible rfl)
    (try simp only [Act.put, List.setIfInBounds_toArray, List.set_cons_zero, List.set_cons_succ])
    refine take_first (v := ?_) 19 rfl (by kernel_rfl) (by kernel_rfl) (by kernel_rfl) (fun _ _ _ h => h) (Or.inl ⟨by rfl, ?_⟩) (by assumption) ?_
    rotate_left
    · (intro w hSw; (try dsimp only at hSw); go_simp; try with_reducible rfl)
    (try simp only [Act.put, List.setIfInBounds_toArray, List.set_cons_zero, List.set_cons_succ])
    refine step_one 20 rfl (by kernel_rfl) (fun K hK => ?_)
    clear hHeld
    go_simp
    refine (HBG.out _).mono ?_
    rintro e wy7 ⟨rfl, hb⟩
    replace HM := Lib.hid (show Mem w [blkE P8 23 ((vL u).map u8v), blkE P7 23 ((bL a m).map u8v), blkE (w.heap.size + 1) 23 (u.map u8v), blkE w.heap.size 23 (a.map u8v)] wy7 from HM.out.below hb)
    clear hb
    go_wp2_with fail
    refine hK.out _ _ (HM.out) (fun hHeld => ?_)
    clear hK K
    (try simp only [Act.put, List.setIfInBounds_toArray, List.set_cons_zero, List.set_cons_succ])
    refine take_first (v := ?_) 21 rfl (by kernel_rfl) (by kernel_rfl) (by kernel_rfl) (fun _ _ _ h => h) (Or.inl ⟨by rfl, ?_⟩) (by assumption) ?_
    rotate_left
    · (intro w hSw; (try dsimp only at hSw); go_simp; try with_reducible rfl)
    (try simp only [Act.put, List.setIfInBounds_toArray, List.set_cons_zero, List.set_cons_succ])
    refine take_first (v := ?_) 22 rfl (by kernel_rfl) (by kernel_rfl) (by kernel_rfl) (fun _ _ _ h => h) (Or.inl ⟨by rfl, ?_⟩) (by assumption) ?_
    rotate_left
    · (intro w hSw; (try dsimp only at hSw); go_simp; try with_reducible rfl)
    (try simp only [Act.put, List.setIfInBounds_toArray, List.set_cons_zero, List.set_cons_succ])
    refine wpAnyH_done (by kernel_rfl) ?_ _
    have HF := Lib.hid HM.out.bel
    clear HM
    go_wp2_with fail
    go_ret
    exact ⟨rfl, HF.out⟩
end Go.Proofs.Ytgdgecehmnokdaa
