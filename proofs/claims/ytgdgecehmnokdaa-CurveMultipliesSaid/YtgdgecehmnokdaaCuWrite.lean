/-
  The contract of the reference's write: the least number of the class as 32 bytes.
-/
import Derived.Test.YtgdgecehmnokdaaCells32
import Derived.Test.YtgdgecehmnokdaaCuOnce
namespace Go.Proofs.Ytgdgecehmnokdaa
open Go.RowKit

theorem cuLittle_numL : ∀ (n : Nat) (l : List UInt8), l.length = n → littleL (numL l) n = l := by
  intro n l h
  apply List.ext_getElem
  · rw [littleL_length, h]
  · intro i h1 h2
    rw [littleL_get]
    have hb := byteOf_toNat (numL l) i
    have hsplit : numL l = numL (l.take i) + 2 ^ (8 * i) * (l[i].toNat + 256 * numL (l.drop (i + 1))) := by
      have e : l = l.take i ++ (l[i] :: l.drop (i + 1)) := by rw [← List.drop_eq_getElem_cons h2, List.take_append_drop]
      conv => lhs; rw [e, numL_append, List.length_take, Nat.min_eq_left (by omega), pow_256]
      rfl
    have hlt := numL_take_lt l i
    have hx := (l[i]).toNat_lt
    apply UInt8.toNat.inj
    rw [hb, hsplit, Nat.add_mul_div_left _ _ (Nat.two_pow_pos _), Nat.div_eq_of_lt hlt, Nat.zero_add]
    omega
theorem chain_same : ∀ l : List Int, (∀ x ∈ l, 0 ≤ x ∧ x ≤ 65535) → Cu.chain l 0 = (l, 0)
  | [], _ => rfl
  | x :: r, h => by
    have hx := h x (by simp)
    have ih := chain_same r (fun y hy => h y (by simp [hy]))
    have e1 : (x + 0) / 65536 = 0 := by omega
    have e2 : (x + 0) % 65536 = x := by omega
    rw [Cu.chain, e1, e2, ih]
theorem chain_up : ∀ (l : List Int) (c : Int), (∀ x ∈ l, 0 ≤ x ∧ x ≤ 65535) → (0 ≤ c → 0 ≤ (Cu.chain l c).2) ∧ (c ≤ 0 → -1 ≤ c → (Cu.chain l c).2 ≤ 0)
  | [], _, _ => ⟨fun h => h, fun h _ => h⟩
  | x :: r, c, h => by
    have hx := h x (by simp)
    have ih := chain_up r ((x + c) / 65536) (fun y hy => h y (by simp [hy]))
    exact ⟨fun hc => ih.1 (by omega), fun hc hc2 => ih.2 (by omega) (by omega)⟩
theorem carL_dig (f : List Int) (h : Dig f) : Cu.carL f = f := by
  unfold Cu.carL
  rw [chain_same f h.2]
  obtain ⟨hl, _⟩ := h
  cases f with
  | nil => rfl
  | cons d r => simp
theorem carL_of_good (r : List Int) (h : Cu.Good r) : Dig (Cu.carL r) := by
  obtain ⟨hl, h0, h1, h2⟩ := h
  refine ⟨by rw [Cu.carL_length, hl], ?_⟩
  cases r with
  | nil => simp at hl
  | cons x t =>
    rw [List.getD_cons_zero] at h0 h1
    have ht : ∀ y ∈ t, 0 ≤ y ∧ y ≤ 65535 := by
      intro y hy
      obtain ⟨i, hi, rfl⟩ := List.mem_iff_getElem.1 hy
      have := h2 (i + 1) (by omega) (by simp only [List.length_cons] at hl; omega)
      rw [List.getD_cons_succ, List.getD_eq_getElem?_getD, List.getElem?_eq_getElem hi] at this
      exact this
    have hu := chain_up t ((x + 0) / 65536) ht
    have hs := Cu.chain_small t ((x + 0) / 65536) ht (by omega) (by omega)
    have hd := Cu.chain_digit t ((x + 0) / 65536)
    have e : Cu.carL (x :: t) = ((x + 0) % 65536 + 38 * (Cu.chain t ((x + 0) / 65536)).2) :: (Cu.chain t ((x + 0) / 65536)).1 := rfl
    rw [e]
    intro y hy
    rcases List.mem_cons.1 hy with h3 | h3
    · subst h3
      generalize (Cu.chain t ((x + 0) / 65536)).2 = k at *
      by_cases hx0 : 0 ≤ (x + 0) / 65536
      · by_cases hx1 : (x + 0) / 65536 ≤ 0
        · have a1 := hu.1 hx0
          have a2 := hu.2 hx1 (by omega)
          omega
        · have a1 := hu.1 hx0
          omega
      · have a2 := hu.2 (by omega) (by omega)
        omega
    · exact hd y h3
/-- bytes of digits -/
def bytD : List Int → List UInt8
  | [] => []
  | x :: r => UInt8.ofNat (x % 256).toNat :: UInt8.ofNat (x / 256).toNat :: bytD r
theorem bytD_length : ∀ l : List Int, (bytD l).length = 2 * l.length
  | [] => rfl
  | x :: r => by have := bytD_length r; simp only [bytD, List.length_cons, this]; omega
theorem bytD_num : ∀ l : List Int, (∀ x ∈ l, 0 ≤ x ∧ x ≤ 65535) → (numL (bytD l) : Int) = Cu.valL l
  | [], _ => rfl
  | x :: r, h => by
    have hx := h x (by simp)
    have ih := bytD_num r (fun y hy => h y (by simp [hy]))
    have h1 : (UInt8.ofNat (x % 256).toNat).toNat = (x % 256).toNat := by rw [UInt8.toNat_ofNat', Nat.mod_eq_of_lt (by omega)]
    have h2 : (UInt8.ofNat (x / 256).toNat).toNat = (x / 256).toNat := by rw [UInt8.toNat_ofNat', Nat.mod_eq_of_lt (by omega)]
    simp only [bytD, numL, Cu.valL, h1, h2, ← ih]
    omega
theorem bytD_get : ∀ (l : List Int) (i : Nat), i < l.length → (bytD l).getD (2 * i) 0 = UInt8.ofNat (l.getD i 0 % 256).toNat ∧ (bytD l).getD (2 * i + 1) 0 = UInt8.ofNat (l.getD i 0 / 256).toNat
  | [], i, h => by simp at h
  | x :: r, 0, _ => by simp [bytD]
  | x :: r, i + 1, h => by
    have ih := bytD_get r i (by simpa using h)
    rw [show 2 * (i + 1) = 2 * i + 1 + 1 by omega, bytD]
    simp only [List.getD_cons_succ]
    exact ih
/-- a class as bytes -/
def fqB (x : Cu.Fq) : List UInt8 := littleL x.val 32
theorem fqB_length (x : Cu.Fq) : (fqB x).length = 32 := littleL_length _ _
theorem once_twice (f : List Int) (h : Dig f) : bytD (onceL (onceL f)) = fqB (Cu.fq (Cu.valL f)) := by
  have d1 := onceL_dig f h
  have d2 := onceL_dig _ d1
  have v1 := onceL_val f h
  have v2 := onceL_val _ d1
  have hb := Dig.val f h.2
  rw [h.1] at hb
  have hn := bytD_num _ d2.2
  have hp := Cu.fq_n (Cu.valL f)
  have ep : (Cu.P25 : Int) = 57896044618658097711785492504343953926634992332820282019728792003956564819949 := by decide +kernel
  have e16 : (65536 : Int)^16 = 115792089237316195423570985008687907853269984665640564039457584007913129639936 := by decide +kernel
  rw [e16] at hb
  have hval : numL (bytD (onceL (onceL f))) = (Cu.fq (Cu.valL f)).val := by
    generalize (Cu.fq (Cu.valL f)).val = q at *
    generalize numL (bytD (onceL (onceL f))) = m at *
    rw [v2] at hn
    generalize Cu.valL (onceL f) = b at *
    generalize Cu.valL f = a at *
    rw [ep] at hp v1 hn
    by_cases c1 : a < 57896044618658097711785492504343953926634992332820282019728792003956564819949
    · rw [if_pos c1] at v1
      subst v1
      rw [if_pos c1] at hn
      omega
    · rw [if_neg c1] at v1
      subst v1
      by_cases c2 : a - 57896044618658097711785492504343953926634992332820282019728792003956564819949 < 57896044618658097711785492504343953926634992332820282019728792003956564819949
      · rw [if_pos c2] at hn
        omega
      · rw [if_neg c2] at hn
        omega
  rw [fqB, ← hval]
  exact (cuLittle_numL 32 _ (by rw [bytD_length, d2.1])).symm
def bytJ (f : List Int) (j : Nat) : List UInt8 := (bytD f).take (2 * j) ++ (List.replicate 32 (0 : UInt8)).drop (2 * j)
theorem bytJ_length (f : List Int) (h : f.length = 16) (j : Nat) (hj : j ≤ 16) : (bytJ f j).length = 32 := by
  have := bytD_length f
  simp [bytJ, this, h]; omega
theorem bytJ_step (f : List Int) (h : f.length = 16) (j : Nat) (hj : j < 16) : ((bytJ f j).set (2 * j) (UInt8.ofNat (f.getD j 0 % 256).toNat)).set (2 * j + 1) (UInt8.ofNat (f.getD j 0 / 256).toNat) = bytJ f (j + 1) := by
  have hl := bytD_length f
  rw [h] at hl
  obtain ⟨g1, g2⟩ := bytD_get f j (by omega)
  have e1 : (bytD f)[2 * j]'(by omega) = UInt8.ofNat (f.getD j 0 % 256).toNat := by rw [← g1, List.getD_eq_getElem?_getD, List.getElem?_eq_getElem (by omega)]; rfl
  have e2 : (bytD f)[2 * j + 1]'(by omega) = UInt8.ofNat (f.getD j 0 / 256).toNat := by rw [← g2, List.getD_eq_getElem?_getD, List.getElem?_eq_getElem (by omega)]; rfl
  have ht : (bytD f).take (2 * (j + 1)) = (bytD f).take (2 * j) ++ [UInt8.ofNat (f.getD j 0 % 256).toNat, UInt8.ofNat (f.getD j 0 / 256).toNat] := by
    rw [show 2 * (j + 1) = 2 * j + 1 + 1 by omega, List.take_succ_eq_append_getElem (by omega), List.take_succ_eq_append_getElem (by omega), e1, e2, List.append_assoc]
    rfl
  have hd : (List.replicate 32 (0 : UInt8)).drop (2 * j) = 0 :: 0 :: (List.replicate 32 (0 : UInt8)).drop (2 * (j + 1)) := by
    rw [List.drop_replicate, List.drop_replicate, show 32 - 2 * j = 32 - 2 * (j + 1) + 1 + 1 by omega]
    rfl
  have hlt : ((bytD f).take (2 * j)).length = 2 * j := by rw [List.length_take]; omega
  rw [bytJ, bytJ, ht, hd, List.set_append_right _ _ (by omega), hlt, Nat.sub_self, List.set_cons_zero, List.set_append_right _ _ (by omega), hlt, Nat.add_sub_cancel_left, List.set_cons_succ, List.set_cons_zero, List.append_assoc]
  rfl
theorem u8_low (x : Int) (_h : 0 ≤ x ∧ x ≤ 65535) : IntKind.u8.wrap x = ((UInt8.ofNat (x % 256).toNat).toNat : Int) := by
  rw [UInt8.toNat_ofNat', Nat.mod_eq_of_lt (by omega), IntKind.wrap_u8]; omega
theorem u8_high (x : Int) (h : 0 ≤ x ∧ x ≤ 65535) : IntKind.u8.wrap (x / 256) = ((UInt8.ofNat (x / 256).toNat).toNat : Int) := by
  rw [UInt8.toNat_ofNat', Nat.mod_eq_of_lt (by omega), IntKind.wrap_u8]; omega

set_option maxRecDepth 100000 in
set_option maxHeartbeats 4000000 in
theorem refWrite_any (r : List Int) (hr : Cu.Good r) (w : World) :
    Calls Try.prog 22 #[.agg (r.map i64v).toArray] w fun e w' => e = .returned (.agg ((fqB (Cu.fq (Cu.valL r))).map u8v).toArray) ∧ Below w.heap.size w w' := by
  have hrw := (Good.small hr).mono (show (65573 : Int) ≤ 1125899906842624 by omega)
  have hd := carL_of_good r hr
  have C1 := fun W : World => refCarried_any r hr.1 hrw W
  have hfq := Cu.fq_carL r hr.1
  generalize Cu.carL r = d at C1 hd hfq
  have hdw : Within 1125899906842624 d := fun x hx => by have := hd.2 x hx; omega
  have C2 := fun W : World => refCarried_any d hd.1 hdw W
  rw [carL_dig d hd] at C2
  have C4 := fun W : World => refOnce_any d hd W
  have hd1 := onceL_dig d hd
  have C5 := fun W : World => refOnce_any (onceL d) hd1 W
  have hd2 := onceL_dig _ hd1
  have hby := once_twice d hd
  rw [hfq] at hby
  generalize onceL (onceL d) = f at C5 hd2 hby
  generalize onceL d = o at C4 C5 hd1
  obtain ⟨ca, hca⟩ : ∃ c, (r.map i64v).toArray = c := ⟨_, rfl⟩
  obtain ⟨c1, hc1⟩ : ∃ c, (d.map i64v).toArray = c := ⟨_, rfl⟩
  obtain ⟨c2, hc2⟩ : ∃ c, (o.map i64v).toArray = c := ⟨_, rfl⟩
  obtain ⟨c3, hc3⟩ : ∃ c, (f.map i64v).toArray = c := ⟨_, rfl⟩
  rw [hca, hc1] at C1
  rw [hc1] at C2
  rw [hc1, hc2] at C4
  rw [hc2, hc3] at C5
  rw [hca, ← hby]
  have HM := Lib.hid (show Mem w [blkE (w.heap.size + 1) 23 (aeZ 32), blkE w.heap.size 38 ((r).map i64v)] ((w.alloc (.cells ca 38)).alloc (.cells #[.int .u8 0, .int .u8 0, .int .u8 0, .int .u8 0, .int .u8 0, .int .u8 0, .int .u8 0, .int .u8 0, .int .u8 0, .int .u8 0, .int .u8 0, .int .u8 0, .int .u8 0, .int .u8 0, .int .u8 0, .int .u8 0, .int .u8 0, .int .u8 0, .int .u8 0, .int .u8 0, .int .u8 0, .int .u8 0, .int .u8 0, .int .u8 0, .int .u8 0, .int .u8 0, .int .u8 0, .int .u8 0, .int .u8 0, .int .u8 0, .int .u8 0, .int .u8 0] 23)) from ((Mem.nil w).alloc rfl 38 ca (r.map i64v) hca.symm).alloc (by simp) 23 #[.int .u8 0, .int .u8 0, .int .u8 0, .int .u8 0, .int .u8 0, .int .u8 0, .int .u8 0, .int .u8 0, .int .u8 0, .int .u8 0, .int .u8 0, .int .u8 0, .int .u8 0, .int .u8 0, .int .u8 0, .int .u8 0, .int .u8 0, .int .u8 0, .int .u8 0, .int .u8 0, .int .u8 0, .int .u8 0, .int .u8 0, .int .u8 0, .int .u8 0, .int .u8 0, .int .u8 0, .int .u8 0, .int .u8 0, .int .u8 0, .int .u8 0, .int .u8 0] (aeZ 32) rfl)
  have HC := Lib.hid (And.intro hca hc3)
  have HR := Lib.hid hr.1
  have HL := Lib.hid hd2
  have HC1 := Lib.hid C1
  have HC2 := Lib.hid C2
  have HC3 := Lib.hid C2
  have HC4 := Lib.hid C4
  have HC5 := Lib.hid C5
  clear C1 C2 C4 C5 hca hc1 hc2 hc3 hr hrw hd hfq hdw hd1 hd2 hby
  go_enter Try.func22, Try.ntmps22
  go_upto_region 1 with fail
  generalize ((w.alloc (.cells ca 38)).alloc (.cells #[.int .u8 0, .int .u8 0, .int .u8 0, .int .u8 0, .int .u8 0, .int .u8 0, .int .u8 0, .int .u8 0, .int .u8 0, .int .u8 0, .int .u8 0, .int .u8 0, .int .u8 0, .int .u8 0, .int .u8 0, .int .u8 0, .int .u8 0, .int .u8 0, .int .u8 0, .int .u8 0, .int .u8 0, .int .u8 0, .int .u8 0, .int .u8 0, .int .u8 0, .int .u8 0, .int .u8 0, .int .u8 0, .int .u8 0, .int .u8 0, .int .u8 0, .int .u8 0] 23)) = w1 at HM ⊢
  go_wp2_with (refine wpList_load_blk rfl 38 (.tmp 1) rfl w.heap.size rfl 38 (r.map i64v) (HM.out.blk 1 rfl) 16 2 Try.underlying38 (cu_cells r HR.out) ?_; rw [HC.out.1])
  refine (HC1.out _).mono ?_
  rintro e v0 ⟨rfl, hb⟩
  replace HM := Lib.hid (show Mem w [blkE (w.heap.size + 1) 23 (aeZ 32), blkE w.heap.size 38 ((r).map i64v)] v0 from HM.out.below hb)
  clear hb
  go_wp2_with fail
  refine (HC2.out _).mono ?_
  rintro e v1 ⟨rfl, hb⟩
  replace HM := Lib.hid (show Mem w [blkE (w.heap.size + 1) 23 (aeZ 32), blkE w.heap.size 38 ((r).map i64v)] v1 from HM.out.below hb)
  clear hb
  go_wp2_with fail
  refine (HC3.out _).mono ?_
  rintro e v2 ⟨rfl, hb⟩
  replace HM := Lib.hid (show Mem w [blkE (w.heap.size + 1) 23 (aeZ 32), blkE w.heap.size 38 ((r).map i64v)] v2 from HM.out.below hb)
  clear hb
  go_wp2_with fail
  refine (HC4.out _).mono ?_
  rintro e v3 ⟨rfl, hb⟩
  replace HM := Lib.hid (show Mem w [blkE (w.heap.size + 1) 23 (aeZ 32), blkE w.heap.size 38 ((r).map i64v)] v3 from HM.out.below hb)
  clear hb
  go_wp2_with fail
  refine (HC5.out _).mono ?_
  rintro e v4 ⟨rfl, hb⟩
  replace HM := Lib.hid (show Mem w [blkE (w.heap.size + 1) 23 (aeZ 32), blkE w.heap.size 38 ((r).map i64v)] v4 from HM.out.below hb)
  clear hb
  go_upto_region 2 with (refine wpList_store_blk rfl 38 (.tmp 1) (.tmp 10) rfl w.heap.size (f.map i64v) rfl (by show Value.agg c3 = _; rw [HC.out.2]) 38 (r.map i64v) (HM.out.blk 1 rfl) (cu_cells f HL.out.1) (by rw [List.length_map, List.length_map, HL.out.1, HR.out]) (i64v_one _) ?_; intro w2 hb9 hg9)
  (try simp only [Act.put])
  replace HM := Lib.hid (show Mem w [blkE (w.heap.size + 1) 23 (aeZ 32), blkE w.heap.size 38 ((f).map i64v)] w2 from HM.out.put 1 rfl _ hg9 hb9)
  clear hb9 hg9 HC1 HC2 HC3 HC4 HC5
  have HA := Lib.hid (show Mem w [blkE w2.heap.size 23 ((List.replicate 32 (0 : UInt8)).map u8v), blkE (w.heap.size + 1) 23 (aeZ 32), blkE w.heap.size 38 (f.map i64v)] (w2.alloc (.cells #[.int .u8 0, .int .u8 0, .int .u8 0, .int .u8 0, .int .u8 0, .int .u8 0, .int .u8 0, .int .u8 0, .int .u8 0, .int .u8 0, .int .u8 0, .int .u8 0, .int .u8 0, .int .u8 0, .int .u8 0, .int .u8 0, .int .u8 0, .int .u8 0, .int .u8 0, .int .u8 0, .int .u8 0, .int .u8 0, .int .u8 0, .int .u8 0, .int .u8 0, .int .u8 0, .int .u8 0, .int .u8 0, .int .u8 0, .int .u8 0, .int .u8 0, .int .u8 0] 23)) from HM.out.alloc rfl 23 #[.int .u8 0, .int .u8 0, .int .u8 0, .int .u8 0, .int .u8 0, .int .u8 0, .int .u8 0, .int .u8 0, .int .u8 0, .int .u8 0, .int .u8 0, .int .u8 0, .int .u8 0, .int .u8 0, .int .u8 0, .int .u8 0, .int .u8 0, .int .u8 0, .int .u8 0, .int .u8 0, .int .u8 0, .int .u8 0, .int .u8 0, .int .u8 0, .int .u8 0, .int .u8 0, .int .u8 0, .int .u8 0, .int .u8 0, .int .u8 0, .int .u8 0, .int .u8 0] ((List.replicate 32 (0 : UInt8)).map u8v) rfl)
  go_upto_region 3 with fail
  generalize w2.alloc (.cells #[.int .u8 0, .int .u8 0, .int .u8 0, .int .u8 0, .int .u8 0, .int .u8 0, .int .u8 0, .int .u8 0, .int .u8 0, .int .u8 0, .int .u8 0, .int .u8 0, .int .u8 0, .int .u8 0, .int .u8 0, .int .u8 0, .int .u8 0, .int .u8 0, .int .u8 0, .int .u8 0, .int .u8 0, .int .u8 0, .int .u8 0, .int .u8 0, .int .u8 0, .int .u8 0, .int .u8 0, .int .u8 0, .int .u8 0, .int .u8 0, .int .u8 0, .int .u8 0] 23) = w3 at HA ⊢
  generalize w2.heap.size = Q at HA ⊢
  clear HM
  go_wp2_with fail
  go_loopw [11, 4] (fun i _ wr => ∃ j : Nat, j ≤ 16 ∧ i = .int .i64 (j : Int) ∧ Mem w [blkE Q 23 ((bytJ f j).map u8v), blkE (w.heap.size + 1) 23 (aeZ 32), blkE w.heap.size 38 (f.map i64v)] wr) (fun i _ _ => 16 - (intOf i).toNat)
  case atStart => exact ⟨0, by omega, rfl, by simpa [bytJ] using HA.out⟩
  case round =>
    clear HA
    obtain ⟨j, hj, rfl, hM⟩ := hrel
    have HM := Lib.hid hM
    clear hM
    by_cases hlt : j < 16
    · have hx := HL.out.getD j hlt
      have hst := bytJ_step f HL.out.1 j hlt
      have fx := (HM.out.blk 2 rfl).dig j (by have := HL.out.1; omega)
      have z1 := (HM.out.blk 0 rfl).frozen (2 * j)
      have z2 := (HM.out.blk 0 rfl).frozen (2 * j + 1)
      have f1 := (HM.out.blk 0 rfl).byt (2 * j) (by rw [bytJ_length f HL.out.1 j hj]; omega)
      have f2 := (HM.out.blk 0 rfl).byt (2 * j + 1) (by rw [bytJ_length f HL.out.1 j hj]; omega)
      obtain ⟨x, hxj⟩ : ∃ x, f.getD j 0 = x := ⟨_, rfl⟩
      rw [hxj] at hx hst fx
      have hw0 : IntKind.i64.wrap (2 * (j : Int)) = 2 * (j : Int) := IntWalk.i64_in _ (by omega)
      have hw1 : IntKind.i64.wrap (2 * (j : Int) + 1) = 2 * (j : Int) + 1 := IntWalk.i64_in _ (by omega)
      have hlo := u8_low x hx
      have hhi := u8_high x hx
      generalize UInt8.ofNat (x % 256).toNat = lo at *
      generalize UInt8.ofNat (x / 256).toNat = hi at *
      have hset1 : ((bytJ f j).map u8v).set (2 * j) (.int .u8 (lo.toNat : Int)) = ((bytJ f j).set (2 * j) lo).map u8v := by rw [List.map_set]; rfl
      have hset2 : (((bytJ f j).set (2 * j) lo).map u8v).set (2 * j + 1) (.int .u8 (hi.toNat : Int)) = (bytJ f (j + 1)).map u8v := by rw [← hst, List.map_set (f := u8v) (i := 2 * j + 1)]; rfl
      have HN := Lib.hid (show ∀ W, Mem w [blkE Q 23 ((bytJ f j).map u8v), blkE (w.heap.size + 1) 23 (aeZ 32), blkE w.heap.size 38 (f.map i64v)] W → Mem w [blkE Q 23 ((bytJ f (j + 1)).map u8v), blkE (w.heap.size + 1) 23 (aeZ 32), blkE w.heap.size 38 (f.map i64v)] ((W.setCell ⟨Q, 2 * j, none⟩ (.int .u8 (lo.toNat : Int))).setCell ⟨Q, 2 * j + 1, none⟩ (.int .u8 (hi.toNat : Int))) from fun W hW => by
        have h := hW.setCell 0 rfl (2 * j) (.int .u8 (lo.toNat : Int))
        rw [hset1] at h
        have h2 := h.setCell 0 rfl (2 * j + 1) (.int .u8 (hi.toNat : Int))
        rw [hset2] at h2
        exact h2)
      have HM1 := Lib.hid (show Mem w [blkE Q 23 (((bytJ f j).set (2 * j) lo).map u8v), blkE (w.heap.size + 1) 23 (aeZ 32), blkE w.heap.size 38 (f.map i64v)] (wr.setCell ⟨Q, 2 * j, none⟩ (.int .u8 (lo.toNat : Int))) from by have h := HM.out.setCell 0 rfl (2 * j) (.int .u8 (lo.toNat : Int)); rw [hset1] at h; exact h)
      have gx := (HM1.out.blk 2 rfl).dig j (by have := HL.out.1; omega)
      rw [hxj] at gx
      have y2 := (HM1.out.blk 0 rfl).frozen (2 * j + 1)
      have g2 := (HM1.out.blk 0 rfl).byt (2 * j + 1) (by rw [List.length_set, bytJ_length f HL.out.1 j hj]; omega)
      clear hset1 hset2 hst hxj
      go_upto_region 6 with fail
      go_region
      clear fx z1 z2 f1 f2 gx y2 g2 hlo hhi hw0 hw1
      replace HM := Lib.hid (HN.out _ HM.out.drew)
      clear HN HM1
      go_wp2_with fail
      go_roundw
      case rel => exact ⟨j + 1, by omega, by go_num, HM.out⟩
      case measure => simp [intOf]; omega
    · obtain rfl : j = 16 := by omega
      rw [show bytJ f 16 = bytD f by rw [bytJ, List.take_of_length_le (by rw [bytD_length, HL.out.1]; omega), List.drop_of_length_le (by simp), List.append_nil]] at HM
      have hlz : (bytD f).length = 32 := by rw [bytD_length, HL.out.1]
      obtain ⟨lz, hlq⟩ : ∃ z, bytD f = z := ⟨_, rfl⟩
      rw [hlq] at HM hlz
      have HSZ := Lib.hid hlq
      have HLz := Lib.hid hlz
      clear hlq hlz
      obtain ⟨cz, hcz⟩ : ∃ c, (lz.map u8v).toArray = c := ⟨_, rfl⟩
      have HCZ := Lib.hid hcz
      clear hcz
      go_wp2_with (first | (refine wpList_load_blk rfl 23 (.tmp 3) rfl Q rfl 23 (lz.map u8v) (HM.out.blk 0 rfl) 32 5 Try.underlying23 (cells32 lz HLz.out) ?_; rw [HCZ.out]) | (refine wpList_store_blk rfl 23 (.tmp 2) (.tmp 31) rfl (w.heap.size + 1) (lz.map u8v) rfl (by show Value.agg cz = _; rw [HCZ.out]) 23 (aeZ 32) (HM.out.blk 1 rfl) (cells32 lz HLz.out) (by rw [List.length_map, HLz.out]; rfl) (u8v_one _) ?_; intro w9 hb9 hg9))
      exact bodyPost_ret (results_blk rfl _ _ (w.heap.size + 1) 23 (lz.map u8v) 32 5 rfl hb9 Try.underlying23 (cells32 lz HLz.out)) rfl ⟨by rw [HSZ.out], (HM.out.put 1 rfl _ hg9 hb9).bel⟩
end Go.Proofs.Ytgdgecehmnokdaa
