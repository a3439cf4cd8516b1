/-
  The contract of the reference's times: the product of the classes, with digits that are small.
-/
import Derived.Test.YtgdgecehmnokdaaCuPlus
namespace Go.Proofs.Ytgdgecehmnokdaa
open Go.RowKit

theorem mul_within {M x y : Int} (_hM : 0 ≤ M) (hx : -M ≤ x ∧ x ≤ M) (hy : -M ≤ y ∧ y ≤ M) : -(M*M) ≤ x*y ∧ x*y ≤ M*M := by
  have h1 : x.natAbs ≤ M.natAbs := by omega
  have h2 : y.natAbs ≤ M.natAbs := by omega
  have h3 := Nat.mul_le_mul h1 h2
  rw [← Int.natAbs_mul, ← Int.natAbs_mul] at h3
  have h4 : ((M*M).natAbs : Int) = M*M := Int.natAbs_of_nonneg (Int.mul_nonneg _hM _hM)
  omega
theorem Within.set {M N : Int} {l : List Int} (h : Within M l) (hMN : M ≤ N) (i : Nat) (x : Int) (hx : -N ≤ x ∧ x ≤ N) : Within N (l.set i x) := by
  intro y hy
  rcases List.mem_or_eq_of_mem_set hy with h1 | h1
  · have := h y h1; omega
  · subst h1; exact hx
theorem Within.mono {M N : Int} {l : List Int} (h : Within M l) (hMN : M ≤ N) : Within N l := fun y hy => by have := h y hy; omega
/-- the high digits of a product come in again -/
def outL (t : List Int) : List Int := addL (t.take 16) ((t.drop 16).map (38 * ·) ++ [0])
theorem outL_length (t : List Int) (h : t.length = 31) : (outL t).length = 16 := addL_length _ _ (by simp [h]) (by simp [h])
theorem valL_map38 : ∀ l : List Int, Cu.valL (l.map (38 * ·)) = 38 * Cu.valL l
  | [] => rfl
  | x :: l => by
    have := valL_map38 l
    simp only [List.map_cons, Cu.valL] at this ⊢
    rw [this]; omega
theorem outL_val (t : List Int) (h : t.length = 31) : Cu.fq (Cu.valL (outL t)) = Cu.fq (Cu.valL t) := by
  have e1 : Cu.valL (outL t) = Cu.valL (t.take 16) + 38 * Cu.valL (t.drop 16) := by
    rw [outL, addL_val _ _ (by simp [h]), Cu.valL_append, valL_map38]
    simp [Cu.valL]
  have e2 : Cu.valL t = Cu.valL (t.take 16) + 65536^16 * Cu.valL (t.drop 16) := by
    conv => lhs; rw [← List.take_append_drop 16 t]
    rw [Cu.valL_append, List.length_take, h]
    rfl
  rw [e1, e2]
  generalize Cu.valL (t.drop 16) = v
  generalize Cu.valL (t.take 16) = u
  have e3 : u + 38 * v = (u + 65536^16 * v) - v * (65536^16 - 38) := by omega
  rw [e3, Cu.fq_less]
theorem outL_get (t : List Int) (h : t.length = 31) (i : Nat) (hi : i < 16) : (outL t).getD i 0 = t.getD i 0 + (if i < 15 then 38 * t.getD (i + 16) 0 else 0) := by
  rw [outL, addL_get _ _ (by simp [h]) (by simp [h]) i hi]
  have e1 : (t.take 16).getD i 0 = t.getD i 0 := by simp [List.getD, hi]
  have e2 : ((t.drop 16).map (38 * ·) ++ [0]).getD i 0 = if i < 15 then 38 * t.getD (i + 16) 0 else 0 := by
    by_cases h1 : i < 15
    · rw [if_pos h1]
      have hlt : i + 16 < t.length := by omega
      rw [List.getD_eq_getElem?_getD, List.getElem?_append_left (by simp [h]; omega)]
      simp [List.getD, hlt, Nat.add_comm]
    · have : i = 15 := by omega
      subst this
      rw [if_neg (by omega), List.getD_eq_getElem?_getD, List.getElem?_append_right (by simp [h])]
      simp [h]
  rw [e1, e2]
def outJ (t : List Int) (j : Nat) : List Int := (outL t).take j ++ (List.replicate 16 (0 : Int)).drop j
theorem outJ_length (t : List Int) (h : t.length = 31) (j : Nat) (hj : j ≤ 16) : (outJ t j).length = 16 := by
  have := outL_length t h
  simp [outJ, this]; omega
theorem outJ_step (t : List Int) (h : t.length = 31) (j : Nat) (hj : j < 16) (x : Int) (hx : (outL t).getD j 0 = x) : (outJ t j).set j x = outJ t (j + 1) := by
  have hl := outL_length t h
  have hx' : (outL t)[j]'(by omega) = x := by rw [← hx, List.getD_eq_getElem?_getD, List.getElem?_eq_getElem (by omega)]; rfl
  rw [outJ, outJ, List.set_append_right _ _ (by rw [List.length_take]; omega), List.length_take, Nat.min_eq_left (by omega), Nat.sub_self,
    List.drop_eq_getElem_cons (by simp; omega), List.set_cons_zero, List.take_succ_eq_append_getElem (by omega), hx', List.append_assoc]
  rfl
theorem outL_within (t : List Int) (h : t.length = 31) (ht : Within 17592186044416 t) : Within 1125899906842624 (outL t) := by
  intro x hx
  obtain ⟨i, hi, rfl⟩ := List.mem_iff_getElem.1 hx
  have hl := outL_length t h
  have e := outL_get t h i (by omega)
  rw [List.getD_eq_getElem?_getD, List.getElem?_eq_getElem hi] at e
  simp only [Option.getD_some] at e
  rw [e]
  have h1 := ht.getD i (by omega)
  split
  · have h2 := ht.getD (i + 16) (by omega)
    omega
  · omega
theorem take_val (a : List Int) (i : Nat) (hi : i < a.length) : Cu.valL (a.take (i + 1)) = Cu.valL (a.take i) + 65536^i * a.getD i 0 := by
  rw [List.take_succ_eq_append_getElem hi, Cu.valL_append, List.length_take, Nat.min_eq_left (by omega), List.getD_eq_getElem?_getD, List.getElem?_eq_getElem hi]
  simp [Cu.valL]
theorem times_step (u v x y : Int) (i j : Nat) : u + (x * 65536^i) * v + (x * y) * 65536^(i + j) = u + (x * 65536^i) * (v + 65536^j * y) := by
  rw [Int.pow_add]
  generalize (65536 : Int)^i = q
  generalize (65536 : Int)^j = r
  rw [Int.mul_add, Int.add_assoc]
  congr 2
  simp only [Int.mul_comm, Int.mul_left_comm]

set_option maxRecDepth 100000 in
set_option maxHeartbeats 4000000 in
theorem refTimes_any (a b : List Int) (ha : a.length = 16) (hb : b.length = 16) (wa : Within 262144 a) (wb : Within 262144 b) (w : World) :
    Calls Try.prog 23 #[.agg (a.map i64v).toArray, .agg (b.map i64v).toArray] w fun e w' => ∃ r, Cu.Good r ∧ Cu.fq (Cu.valL r) = Cu.fq (Cu.valL a) * Cu.fq (Cu.valL b) ∧ e = .returned (.agg (r.map i64v).toArray) ∧ Below w.heap.size w w' := by
  obtain ⟨ca, hca⟩ : ∃ c, (a.map i64v).toArray = c := ⟨_, rfl⟩
  obtain ⟨cb, hcb⟩ : ∃ c, (b.map i64v).toArray = c := ⟨_, rfl⟩
  rw [hca, hcb]
  have HL := Lib.hid (And.intro ha (And.intro hb (And.intro wa wb)))
  have HM := Lib.hid (show Mem w [blkE (w.heap.size + 1 + 1 + 1) 61 ((List.replicate 31 (0 : Int)).map i64v), blkE (w.heap.size + 1 + 1) 38 (zd 16), blkE (w.heap.size + 1) 38 (b.map i64v), blkE w.heap.size 38 (a.map i64v)] ((((w.alloc (.cells ca 38)).alloc (.cells cb 38)).alloc (.cells #[.int .i64 0, .int .i64 0, .int .i64 0, .int .i64 0, .int .i64 0, .int .i64 0, .int .i64 0, .int .i64 0, .int .i64 0, .int .i64 0, .int .i64 0, .int .i64 0, .int .i64 0, .int .i64 0, .int .i64 0, .int .i64 0] 38)).alloc (.cells #[.int .i64 0, .int .i64 0, .int .i64 0, .int .i64 0, .int .i64 0, .int .i64 0, .int .i64 0, .int .i64 0, .int .i64 0, .int .i64 0, .int .i64 0, .int .i64 0, .int .i64 0, .int .i64 0, .int .i64 0, .int .i64 0, .int .i64 0, .int .i64 0, .int .i64 0, .int .i64 0, .int .i64 0, .int .i64 0, .int .i64 0, .int .i64 0, .int .i64 0, .int .i64 0, .int .i64 0, .int .i64 0, .int .i64 0, .int .i64 0, .int .i64 0] 61)) from ((((Mem.nil w).alloc rfl 38 ca (a.map i64v) hca.symm).alloc (by simp) 38 cb (b.map i64v) hcb.symm).alloc (by simp) 38 #[.int .i64 0, .int .i64 0, .int .i64 0, .int .i64 0, .int .i64 0, .int .i64 0, .int .i64 0, .int .i64 0, .int .i64 0, .int .i64 0, .int .i64 0, .int .i64 0, .int .i64 0, .int .i64 0, .int .i64 0, .int .i64 0] (zd 16) rfl).alloc (by simp) 61 #[.int .i64 0, .int .i64 0, .int .i64 0, .int .i64 0, .int .i64 0, .int .i64 0, .int .i64 0, .int .i64 0, .int .i64 0, .int .i64 0, .int .i64 0, .int .i64 0, .int .i64 0, .int .i64 0, .int .i64 0, .int .i64 0, .int .i64 0, .int .i64 0, .int .i64 0, .int .i64 0, .int .i64 0, .int .i64 0, .int .i64 0, .int .i64 0, .int .i64 0, .int .i64 0, .int .i64 0, .int .i64 0, .int .i64 0, .int .i64 0, .int .i64 0] ((List.replicate 31 (0 : Int)).map i64v) rfl)
  clear ha hb wa wb hca hcb
  go_enter Try.func23, Try.ntmps23
  go_upto_region 2 with fail
  generalize ((((w.alloc (.cells ca 38)).alloc (.cells cb 38)).alloc (.cells #[.int .i64 0, .int .i64 0, .int .i64 0, .int .i64 0, .int .i64 0, .int .i64 0, .int .i64 0, .int .i64 0, .int .i64 0, .int .i64 0, .int .i64 0, .int .i64 0, .int .i64 0, .int .i64 0, .int .i64 0, .int .i64 0] 38)).alloc (.cells #[.int .i64 0, .int .i64 0, .int .i64 0, .int .i64 0, .int .i64 0, .int .i64 0, .int .i64 0, .int .i64 0, .int .i64 0, .int .i64 0, .int .i64 0, .int .i64 0, .int .i64 0, .int .i64 0, .int .i64 0, .int .i64 0, .int .i64 0, .int .i64 0, .int .i64 0, .int .i64 0, .int .i64 0, .int .i64 0, .int .i64 0, .int .i64 0, .int .i64 0, .int .i64 0, .int .i64 0, .int .i64 0, .int .i64 0, .int .i64 0, .int .i64 0] 61)) = w1 at HM ⊢
  go_wp2_with fail
  go_loopw [10, 6, 13, 7] (fun i _ _ _ wr => ∃ n : Nat, n ≤ 16 ∧ i = .int .i64 (n : Int) ∧ ∃ t : List Int, t.length = 31 ∧ Within ((n : Int) * 1099511627776) t ∧ Cu.valL t = Cu.valL (a.take n) * Cu.valL b ∧ Mem w [blkE (w.heap.size + 1 + 1 + 1) 61 ((t).map i64v), blkE (w.heap.size + 1 + 1) 38 (zd 16), blkE (w.heap.size + 1) 38 (b.map i64v), blkE w.heap.size 38 (a.map i64v)] wr) (fun i _ _ _ _ => 16 - (intOf i).toNat)
  case atStart => exact ⟨0, by omega, rfl, List.replicate 31 0, rfl, fun x hx => by have := List.eq_of_mem_replicate hx; omega, by simp [Cu.valL], HM.out⟩
  case round =>
    clear HM
    obtain ⟨n, hn, rfl, t, ht, wt, vt, hM⟩ := hrel
    have HM := Lib.hid hM
    have HT := Lib.hid (And.intro ht (And.intro wt vt))
    clear hM ht wt vt
    by_cases hlt : n < 16
    · go_wp2_with fail
      go_loopw [13, 7] (fun i _ wr => ∃ m : Nat, m ≤ 16 ∧ i = .int .i64 (m : Int) ∧ ∃ t : List Int, t.length = 31 ∧ Within ((n : Int) * 1099511627776 + (m : Int) * 68719476736) t ∧ Cu.valL t = Cu.valL (a.take n) * Cu.valL b + (a.getD n 0 * 65536^n) * Cu.valL (b.take m) ∧ Mem w [blkE (w.heap.size + 1 + 1 + 1) 61 ((t).map i64v), blkE (w.heap.size + 1 + 1) 38 (zd 16), blkE (w.heap.size + 1) 38 (b.map i64v), blkE w.heap.size 38 (a.map i64v)] wr) (fun i _ _ => 16 - (intOf i).toNat)
      case atStart => exact ⟨0, by omega, rfl, t, HT.out.1, HT.out.2.1.mono (by omega), by rw [HT.out.2.2]; simp [Cu.valL], HM.out⟩
      case round =>
        clear HM HT
        obtain ⟨m, hm, rfl, t, ht, wt, vt, hM⟩ := hrel
        have HM := Lib.hid hM
        clear hM
        by_cases hlt2 : m < 16
        · have fx := (HM.out.blk 3 rfl).dig n (by have := HL.out.1; omega)
          have fy := (HM.out.blk 2 rfl).dig m (by have := HL.out.2.1; omega)
          have ft := (HM.out.blk 0 rfl).dig (n + m) (by omega)
          have zt := (HM.out.blk 0 rfl).frozen (n + m)
          have bx := HL.out.2.2.1.getD n (by have := HL.out.1; omega)
          have by_ := HL.out.2.2.2.getD m (by have := HL.out.2.1; omega)
          have bt := wt.getD (n + m) (by omega)
          have hv := Cu.valL_set t (n + m) (t.getD (n + m) 0 + a.getD n 0 * b.getD m 0) (by omega)
          have htv := take_val b m (by have := HL.out.2.1; omega)
          have hxy := mul_within (by omega) bx by_
          have hnew : Cu.valL (t.set (n + m) (t.getD (n + m) 0 + a.getD n 0 * b.getD m 0)) = Cu.valL (a.take n) * Cu.valL b + (a.getD n 0 * 65536^n) * Cu.valL (b.take (m + 1)) := by
            rw [hv, vt, htv, show t.getD (n + m) 0 + a.getD n 0 * b.getD m 0 - t.getD (n + m) 0 = a.getD n 0 * b.getD m 0 by omega]
            exact times_step _ _ _ _ n m
          clear hv htv vt
          have hw := Within.set wt (show _ ≤ (n : Int) * 1099511627776 + ((m + 1 : Nat) : Int) * 68719476736 by omega) (n + m) (t.getD (n + m) 0 + a.getD n 0 * b.getD m 0) (by omega)
          have hset2 : (t.map i64v).set (n + m) (.int .i64 (t.getD (n + m) 0 + a.getD n 0 * b.getD m 0)) = (t.set (n + m) (t.getD (n + m) 0 + a.getD n 0 * b.getD m 0)).map i64v := by rw [List.map_set]; rfl
          have HN := Lib.hid (show ∀ W, Mem w [blkE (w.heap.size + 1 + 1 + 1) 61 ((t).map i64v), blkE (w.heap.size + 1 + 1) 38 (zd 16), blkE (w.heap.size + 1) 38 (b.map i64v), blkE w.heap.size 38 (a.map i64v)] W → ∃ s : List Int, s.length = 31 ∧ Within ((n : Int) * 1099511627776 + ((m + 1 : Nat) : Int) * 68719476736) s ∧ Cu.valL s = Cu.valL (a.take n) * Cu.valL b + (a.getD n 0 * 65536^n) * Cu.valL (b.take (m + 1)) ∧ Mem w [blkE (w.heap.size + 1 + 1 + 1) 61 ((s).map i64v), blkE (w.heap.size + 1 + 1) 38 (zd 16), blkE (w.heap.size + 1) 38 (b.map i64v), blkE w.heap.size 38 (a.map i64v)] (W.setCell ⟨w.heap.size + 1 + 1 + 1, n + m, none⟩ (.int .i64 (t.getD (n + m) 0 + a.getD n 0 * b.getD m 0))) from fun W hW => ⟨_, by rw [List.length_set]; exact ht, hw, hnew, by have h := hW.setCell 0 rfl (n + m) (.int .i64 (t.getD (n + m) 0 + a.getD n 0 * b.getD m 0)); rw [hset2] at h; exact h⟩)
          clear hset2 hnew hw ht wt
          obtain ⟨x, hx⟩ : ∃ x, a.getD n 0 = x := ⟨_, rfl⟩
          obtain ⟨y, hy⟩ : ∃ x, b.getD m 0 = x := ⟨_, rfl⟩
          obtain ⟨z, hz⟩ : ∃ x, t.getD (n + m) 0 = x := ⟨_, rfl⟩
          rw [hx, hy, hz] at HN
          rw [hx] at fx bx hxy
          rw [hy] at fy by_ hxy
          rw [hz] at ft bt
          have hq := Lib.hid (And.intro hx (And.intro hy hz))
          clear hx hy hz
          obtain ⟨p, hp⟩ : ∃ p, x * y = p := ⟨_, rfl⟩
          rw [hp] at HN hxy
          have hw0 : IntKind.i64.wrap ((n : Int) + (m : Int)) = (n : Int) + (m : Int) := IntWalk.i64_in _ (by omega)
          have hw1 : IntKind.i64.wrap (x * y) = p := by rw [hp]; exact IntWalk.i64_in _ (by omega)
          have hw2 : IntKind.i64.wrap (z + p) = z + p := IntWalk.i64_in _ (by omega)
          clear hp
          go_upto_region 8 with fail
          go_region
          clear fx fy ft zt hw0 hw1 hw2 bx by_ bt hxy
          have HQ := HN.out _ HM.out.drew
          clear HN HM
          obtain ⟨s, hs1, hs2, hs3, hsM⟩ := HQ
          rw [← hq.out.1] at hs3
          have HS := Lib.hid (And.intro hs1 (And.intro hs2 (And.intro hs3 hsM)))
          clear hs1 hs2 hs3 hsM hq
          go_wp2_with fail
          go_roundw
          case rel => exact ⟨m + 1, by omega, by go_num, s, HS.out.1, HS.out.2.1, HS.out.2.2.1, HS.out.2.2.2⟩
          case measure => simp [intOf]; omega
        · obtain rfl : m = 16 := by omega
          have hv : Cu.valL t = Cu.valL (a.take (n + 1)) * Cu.valL b := by
            rw [vt, take_val a n (by have := HL.out.1; omega), show b.take 16 = b from List.take_of_length_le (by have := HL.out.2.1; omega), Int.add_mul, Int.mul_comm (65536^n)]
          have HS := Lib.hid (show t.length = 31 ∧ Within (((n + 1 : Nat) : Int) * 1099511627776) t ∧ Cu.valL t = Cu.valL (a.take (n + 1)) * Cu.valL b from ⟨ht, wt.mono (by omega), hv⟩)
          clear hv vt wt ht
          go_wp2_with fail
          go_roundw
          case rel => exact ⟨n + 1, by omega, by go_num, t, HS.out.1, HS.out.2.1, HS.out.2.2, HM.out⟩
          case measure => simp [intOf]; omega
    · obtain rfl : n = 16 := by omega
      have hv : Cu.fq (Cu.valL (outL t)) = Cu.fq (Cu.valL a) * Cu.fq (Cu.valL b) := by
        rw [outL_val t HT.out.1, HT.out.2.2, show a.take 16 = a from List.take_of_length_le (by have := HL.out.1; omega), Cu.fq_mul]
      have wt := HT.out.2.1.mono (show (((16 : Nat) : Int)) * 1099511627776 ≤ 17592186044416 by omega)
      have ht := HT.out.1
      clear HT
      have HO := Lib.hid (And.intro (outL_length t ht) (And.intro (outL_within t ht wt) hv))
      clear hv
      have HA := Lib.hid (show Mem w [blkE wr.heap.size 38 ((List.replicate 16 (0 : Int)).map i64v), blkE (w.heap.size + 1 + 1 + 1) 61 ((t).map i64v), blkE (w.heap.size + 1 + 1) 38 (zd 16), blkE (w.heap.size + 1) 38 (b.map i64v), blkE w.heap.size 38 (a.map i64v)] (wr.alloc (.cells #[.int .i64 0, .int .i64 0, .int .i64 0, .int .i64 0, .int .i64 0, .int .i64 0, .int .i64 0, .int .i64 0, .int .i64 0, .int .i64 0, .int .i64 0, .int .i64 0, .int .i64 0, .int .i64 0, .int .i64 0, .int .i64 0] 38)) from HM.out.alloc rfl 38 #[.int .i64 0, .int .i64 0, .int .i64 0, .int .i64 0, .int .i64 0, .int .i64 0, .int .i64 0, .int .i64 0, .int .i64 0, .int .i64 0, .int .i64 0, .int .i64 0, .int .i64 0, .int .i64 0, .int .i64 0, .int .i64 0] ((List.replicate 16 (0 : Int)).map i64v) rfl)
      clear HM
      go_upto_region 12 with fail
      generalize wr.alloc (.cells #[.int .i64 0, .int .i64 0, .int .i64 0, .int .i64 0, .int .i64 0, .int .i64 0, .int .i64 0, .int .i64 0, .int .i64 0, .int .i64 0, .int .i64 0, .int .i64 0, .int .i64 0, .int .i64 0, .int .i64 0, .int .i64 0] 38) = w2 at HA ⊢
      generalize wr.heap.size = Q at HA ⊢
      have HT := Lib.hid (And.intro ht wt)
      clear ht wt
      go_wp2_with fail
      go_loopw [32, 9] (fun i _ wr => ∃ j : Nat, j ≤ 16 ∧ i = .int .i64 (j : Int) ∧ Mem w [blkE Q 38 ((outJ t j).map i64v), blkE (w.heap.size + 1 + 1 + 1) 61 ((t).map i64v), blkE (w.heap.size + 1 + 1) 38 (zd 16), blkE (w.heap.size + 1) 38 (b.map i64v), blkE w.heap.size 38 (a.map i64v)] wr) (fun i _ _ => 16 - (intOf i).toNat)
      case atStart => exact ⟨0, by omega, rfl, by simpa [outJ] using HA.out⟩
      case round =>
        clear HA
        obtain ⟨j, hj, rfl, hM⟩ := hrel
        have HM := Lib.hid hM
        clear hM
        by_cases hlt2 : j < 16
        · have ft := (HM.out.blk 1 rfl).dig j (by have := HT.out.1; omega)
          have zx := (HM.out.blk 0 rfl).frozen j
          have fz := (HM.out.blk 0 rfl).dig j (by rw [outJ_length t HT.out.1 j hj]; exact hlt2)
          have bt := HT.out.2.getD j (by have := HT.out.1; omega)
          have hg := outL_get t HT.out.1 j hlt2
          obtain ⟨x, hx⟩ : ∃ x, t.getD j 0 = x := ⟨_, rfl⟩
          rw [hx] at ft bt hg
          clear hx
          have hset2 : ((outJ t j).map i64v).set j (.int .i64 x) = ((outJ t j).set j x).map i64v := by rw [List.map_set]; rfl
          have HN := Lib.hid (show Mem w [blkE Q 38 (((outJ t j).set j x).map i64v), blkE (w.heap.size + 1 + 1 + 1) 61 ((t).map i64v), blkE (w.heap.size + 1 + 1) 38 (zd 16), blkE (w.heap.size + 1) 38 (b.map i64v), blkE w.heap.size 38 (a.map i64v)] (wr.setCell ⟨Q, j, none⟩ (.int .i64 x)) from by have h := HM.out.setCell 0 rfl j (.int .i64 x); rw [hset2] at h; exact h)
          clear hset2
          go_upto_region 16 with fail
          clear ft zx fz HM
          generalize wr.setCell ⟨Q, j, none⟩ (.int .i64 x) = w3 at HN ⊢
          by_cases h15 : j < 15
          · rw [if_pos h15] at hg
            have bs := HT.out.2.getD (j + 16) (by have := HT.out.1; omega)
            have fs := (HN.out.blk 1 rfl).dig (j + 16) (by have := HT.out.1; omega)
            obtain ⟨y, hy⟩ : ∃ x, t.getD (j + 16) 0 = x := ⟨_, rfl⟩
            rw [hy] at fs bs hg
            clear hy
            have hst := outJ_step t HT.out.1 j hlt2 _ hg
            have fo := (HN.out.blk 0 rfl).dig j (by rw [List.length_set, outJ_length t HT.out.1 j hj]; exact hlt2)
            have zo := (HN.out.blk 0 rfl).frozen j
            rw [show ((outJ t j).set j x).getD j 0 = x by have := outJ_length t HT.out.1 j hj; simp [List.getD, this, hlt2]] at fo
            have hset2 : (((outJ t j).set j x).map i64v).set j (.int .i64 (x + 38 * y)) = (outJ t (j + 1)).map i64v := by rw [← hst, List.map_set, List.set_set, List.map_set]; rfl
            have HW := Lib.hid (show ∀ W, Mem w [blkE Q 38 (((outJ t j).set j x).map i64v), blkE (w.heap.size + 1 + 1 + 1) 61 ((t).map i64v), blkE (w.heap.size + 1 + 1) 38 (zd 16), blkE (w.heap.size + 1) 38 (b.map i64v), blkE w.heap.size 38 (a.map i64v)] W → Mem w [blkE Q 38 ((outJ t (j + 1)).map i64v), blkE (w.heap.size + 1 + 1 + 1) 61 ((t).map i64v), blkE (w.heap.size + 1 + 1) 38 (zd 16), blkE (w.heap.size + 1) 38 (b.map i64v), blkE w.heap.size 38 (a.map i64v)] (W.setCell ⟨Q, j, none⟩ (.int .i64 (x + 38 * y))) from fun W hW => by have h := hW.setCell 0 rfl j (.int .i64 (x + 38 * y)); rw [hset2] at h; exact h)
            clear hset2 hst hg
            have hw0 : IntKind.i64.wrap ((j : Int) + 16) = (j : Int) + 16 := IntWalk.i64_in _ (by omega)
            have hw1 : IntKind.i64.wrap (38 * y) = 38 * y := IntWalk.i64_in _ (by omega)
            have hw2 : IntKind.i64.wrap (x + 38 * y) = x + 38 * y := IntWalk.i64_in _ (by omega)
            go_upto_region 17 with fail
            go_region
            clear fs fo zo hw0 hw1 hw2 bs bt
            replace HN := Lib.hid (HW.out _ HN.out.drew)
            clear HW
            go_wp2_with fail
            go_roundw
            case rel => exact ⟨j + 1, by omega, by go_num, HN.out⟩
            case measure => simp [intOf]; omega
          · rw [if_neg h15, Int.add_zero] at hg
            have hst := outJ_step t HT.out.1 j hlt2 _ hg
            rw [hst] at HN
            clear hst hg bt
            go_wp2_with fail
            go_roundw
            case rel => exact ⟨j + 1, by omega, by go_num, HN.out⟩
            case measure => simp [intOf]; omega
        · obtain rfl : j = 16 := by omega
          rw [show outJ t 16 = outL t by rw [outJ, List.take_of_length_le (by rw [HO.out.1]; omega), List.drop_of_length_le (by simp), List.append_nil]] at HM
          generalize outL t = lo at HM HO
          have b1 : Within 1125899906842624 (Cu.carL lo) := by
            obtain ⟨d, r, e, h1, h2, h3⟩ := Cu.carL_first 1125899906842624 (by omega) lo HO.out.1 HO.out.2.1
            intro x hx
            rw [e, List.mem_cons] at hx
            rcases hx with hx | hx
            · subst hx; omega
            · have := h3 x hx; omega
          have C1 := fun W : World => refCarried_any lo HO.out.1 HO.out.2.1 W
          have C2 := fun W : World => refCarried_any (Cu.carL lo) (by rw [Cu.carL_length]; exact HO.out.1) b1 W
          have hgood := Cu.carL_good lo HO.out.1 HO.out.2.1
          have hfq : Cu.fq (Cu.valL (Cu.carL (Cu.carL lo))) = Cu.fq (Cu.valL a) * Cu.fq (Cu.valL b) := by
            rw [Cu.fq_carL _ (by rw [Cu.carL_length]; exact HO.out.1), Cu.fq_carL _ HO.out.1, HO.out.2.2]
          generalize Cu.carL (Cu.carL lo) = rz at C2 hgood hfq
          obtain ⟨c0, hc0⟩ : ∃ c, (lo.map i64v).toArray = c := ⟨_, rfl⟩
          obtain ⟨c1, hc1⟩ : ∃ c, ((Cu.carL lo).map i64v).toArray = c := ⟨_, rfl⟩
          obtain ⟨cz, hcz⟩ : ∃ c, (rz.map i64v).toArray = c := ⟨_, rfl⟩
          rw [hc0, hc1] at C1
          rw [hc1, hcz] at C2
          have HC := Lib.hid (And.intro hc0 (And.intro hcz (And.intro hgood hfq)))
          have HC1 := Lib.hid C1
          have HC2 := Lib.hid C2
          clear C1 C2 b1 hgood hfq hc0 hc1 hcz
          go_wp2_with (refine wpList_load_blk rfl 38 (.tmp 8) rfl Q rfl 38 (lo.map i64v) (HM.out.blk 0 rfl) 16 2 Try.underlying38 (cu_cells lo HO.out.1) ?_; rw [HC.out.1])
          refine (HC1.out _).mono ?_
          rintro e w4 ⟨rfl, hb⟩
          replace HM := Lib.hid (show Mem w [blkE (w.heap.size + 1 + 1) 38 (zd 16)] w4 from ((((HM.out.below hb).erase 0).erase 0).erase 1).erase 1)
          clear hb
          go_wp2_with fail
          refine (HC2.out _).mono ?_
          rintro e w5 ⟨rfl, hb⟩
          replace HM := Lib.hid (show Mem w [blkE (w.heap.size + 1 + 1) 38 (zd 16)] w5 from HM.out.below hb)
          clear hb
          go_wp2_with (refine wpList_store_blk rfl 38 (.tmp 4) (.tmp 55) rfl (w.heap.size + 1 + 1) (rz.map i64v) rfl (by show Value.agg cz = _; rw [HC.out.2.1]) 38 (zd 16) (HM.out.blk 0 rfl) (cu_cells rz HC.out.2.2.1.1) (by rw [List.length_map, HC.out.2.2.1.1]; rfl) (i64v_one _) ?_; intro w9 hb9 hg9)
          exact bodyPost_ret (results_blk rfl _ _ (w.heap.size + 1 + 1) 38 (rz.map i64v) 16 2 rfl hb9 Try.underlying38 (cu_cells rz HC.out.2.2.1.1)) rfl ⟨rz, HC.out.2.2.1, HC.out.2.2.2, rfl, (HM.out.put 0 rfl _ hg9 hb9).bel⟩
end Go.Proofs.Ytgdgecehmnokdaa
