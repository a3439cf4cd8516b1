/-
  The contract of the reference's once: less the modulus, if it is not less.
-/
import Derived.Test.YtgdgecehmnokdaaCuRead
namespace Go.Proofs.Ytgdgecehmnokdaa
open Go.RowKit

/-- digits that are small -/
def Dig (f : List Int) : Prop := f.length = 16 ∧ ∀ x ∈ f, 0 ≤ x ∧ x ≤ 65535
theorem Dig.getD {f : List Int} (h : Dig f) (i : Nat) (hi : i < 16) : 0 ≤ f.getD i 0 ∧ f.getD i 0 ≤ 65535 := h.2 _ (Cu.getD_mem (by rw [h.1]; exact hi))
theorem Dig.val : ∀ (f : List Int), (∀ x ∈ f, 0 ≤ x ∧ x ≤ 65535) → 0 ≤ Cu.valL f ∧ Cu.valL f < 65536^f.length
  | [], _ => ⟨Int.le_refl _, by decide⟩
  | x :: l, hx => by
    have h0 := hx x (by simp)
    have h1 := Dig.val l (fun y hy => hx y (by simp [hy]))
    simp only [Cu.valL, List.length_cons, Int.pow_succ]
    generalize (65536 : Int)^l.length = q at *
    omega
/-- the digits of the modulus -/
def pD : List Int := [65517, 65535, 65535, 65535, 65535, 65535, 65535, 65535, 65535, 65535, 65535, 65535, 65535, 65535, 65535, 32767]
def dz (f : List Int) : List Int := subL f pD
theorem dz_length (f : List Int) (h : f.length = 16) : (dz f).length = 16 := subL_length _ _ h rfl
theorem dz_get (f : List Int) (h : f.length = 16) (i : Nat) (hi : i < 16) : (dz f).getD i 0 = f.getD i 0 - pD.getD i 0 := subL_get f pD h rfl i hi
theorem pD_mid (i : Nat) (h1 : 1 ≤ i) (h2 : i < 15) : pD.getD i 0 = 65535 := by
  match i, h1 with
  | 1, _ | 2, _ | 3, _ | 4, _ | 5, _ | 6, _ | 7, _ | 8, _ | 9, _ | 10, _ | 11, _ | 12, _ | 13, _ | 14, _ => rfl
  | n + 15, _ => omega
theorem pD_bound (i : Nat) (hi : i < 16) : 32767 ≤ pD.getD i 0 ∧ pD.getD i 0 ≤ 65535 := by
  match i with
  | 0 | 1 | 2 | 3 | 4 | 5 | 6 | 7 | 8 | 9 | 10 | 11 | 12 | 13 | 14 | 15 => decide
  | n + 16 => omega
theorem dz_bound (f : List Int) (h : Dig f) : ∀ x ∈ dz f, -65535 ≤ x ∧ x ≤ 65535 := by
  intro x hx
  obtain ⟨i, hi, rfl⟩ := List.mem_iff_getElem.1 hx
  rw [dz_length f h.1] at hi
  have e := dz_get f h.1 i hi
  rw [List.getD_eq_getElem?_getD, List.getElem?_eq_getElem (by rw [dz_length f h.1]; exact hi)] at e
  simp only [Option.getD_some] at e
  rw [e]
  have h1 := h.getD i hi
  have h2 := pD_bound i hi
  omega
theorem chain_neg : ∀ (l : List Int) (c : Int), (∀ x ∈ l, -65535 ≤ x ∧ x ≤ 65535) → -1 ≤ c → c ≤ 0 → -1 ≤ (Cu.chain l c).2 ∧ (Cu.chain l c).2 ≤ 0
  | [], _, _, h1, h2 => ⟨h1, h2⟩
  | x :: r, c, h, h1, h2 => by
    have hx := h x (by simp)
    exact chain_neg r _ (fun y hy => h y (by simp [hy])) (by omega) (by omega)
/-- what once gives -/
def onceL (f : List Int) : List Int := if (Cu.chain (dz f) 0).2 < 0 then f else (Cu.chain (dz f) 0).1
theorem onceL_dig (f : List Int) (h : Dig f) : Dig (onceL f) := by
  unfold onceL
  split
  · exact h
  · exact ⟨by rw [Cu.chain_length, dz_length f h.1], Cu.chain_digit _ 0⟩
theorem pD_val : Cu.valL pD = (Cu.P25 : Int) := by decide +kernel
theorem onceL_val (f : List Int) (h : Dig f) : Cu.valL (onceL f) = if Cu.valL f < (Cu.P25 : Int) then Cu.valL f else Cu.valL f - (Cu.P25 : Int) := by
  have h1 := Cu.chain_val (dz f) 0
  rw [dz_length f h.1, dz, subL_val f pD (by rw [h.1]; rfl), pD_val, ← dz] at h1
  have h2 := chain_neg (dz f) 0 (dz_bound f h) (by omega) (by omega)
  have h3 := Dig.val (Cu.chain (dz f) 0).1 (Cu.chain_digit _ 0)
  rw [Cu.chain_length, dz_length f h.1] at h3
  have e16 : (65536 : Int)^16 = 115792089237316195423570985008687907853269984665640564039457584007913129639936 := by decide +kernel
  rw [e16] at h1 h3
  unfold onceL
  by_cases hk : (Cu.chain (dz f) 0).2 < 0
  · rw [if_pos hk]
    generalize (Cu.chain (dz f) 0).2 = k at *
    generalize Cu.valL (Cu.chain (dz f) 0).1 = v at *
    generalize Cu.valL f = u at *
    generalize (Cu.P25 : Int) = p at *
    rw [if_pos (by omega)]
  · rw [if_neg hk]
    generalize (Cu.chain (dz f) 0).2 = k at *
    generalize Cu.valL (Cu.chain (dz f) 0).1 = v at *
    generalize Cu.valL f = u at *
    generalize (Cu.P25 : Int) = p at *
    rw [if_neg (by omega)]
    omega
/-- the digits while the loop goes on -/
def gJ (f : List Int) (j : Nat) : List Int := carA ((dz f).take j) ((dz f).getD j 0) (f.drop (j + 1))
theorem gJ_length (f : List Int) (h : f.length = 16) (j : Nat) (hj : j < 16) : (gJ f j).length = 16 := by
  simp only [gJ, carA, List.length_append, Cu.chain_length, List.length_cons, List.length_take, List.length_drop, dz_length f h, h]
  omega
theorem gJ_here (f : List Int) (h : f.length = 16) (j : Nat) (hj : j < 16) : (gJ f j).getD j 0 = (dz f).getD j 0 + (Cu.chain ((dz f).take j) 0).2 := by
  have hl : (Cu.chain ((dz f).take j) 0).1.length = j := by rw [Cu.chain_length, List.length_take, dz_length f h]; omega
  rw [gJ, carA, List.getD_eq_getElem?_getD, List.getElem?_append_right (by omega), hl, Nat.sub_self]
  simp
theorem gJ_next (f : List Int) (h : f.length = 16) (j : Nat) (hj : j < 15) : (gJ f j).getD (j + 1) 0 = f.getD (j + 1) 0 := by
  have hl : (Cu.chain ((dz f).take j) 0).1.length = j := by rw [Cu.chain_length, List.length_take, dz_length f h]; omega
  rw [gJ, carA, List.getD_eq_getElem?_getD, List.getElem?_append_right (by omega), hl, Nat.add_sub_cancel_left, List.getElem?_cons_succ, List.getElem?_drop, Nat.add_zero, ← List.getD_eq_getElem?_getD]
theorem gJ_step (f : List Int) (h : f.length = 16) (j : Nat) (hj : j < 15) (v : Int) (hv : (dz f).getD j 0 + (Cu.chain ((dz f).take j) 0).2 = v) :
    ((gJ f j).set (j + 1) ((dz f).getD (j + 1) 0 + v / 65536)).set j (v % 65536) = gJ f (j + 1) := by
  have hd := dz_length f h
  have hl : (Cu.chain ((dz f).take j) 0).1.length = j := by rw [Cu.chain_length, List.length_take, hd]; omega
  have ht : (dz f).take (j + 1) = (dz f).take j ++ [(dz f).getD j 0] := by
    rw [List.take_succ_eq_append_getElem (by omega), List.getD_eq_getElem?_getD, List.getElem?_eq_getElem (by omega)]; rfl
  have hf : f.drop (j + 1) = f.getD (j + 1) 0 :: f.drop (j + 1 + 1) := by
    rw [List.drop_eq_getElem_cons (by omega), List.getD_eq_getElem?_getD, List.getElem?_eq_getElem (by omega)]; rfl
  rw [gJ, gJ, carA, carA, ht, Cu.chain_snoc, hv, hf, List.set_append_right _ _ (by omega), hl, Nat.add_sub_cancel_left, List.set_cons_succ, List.set_cons_zero,
    List.set_append_right _ _ (by omega), hl, Nat.sub_self, List.set_cons_zero, List.append_assoc]
  rfl
theorem gJ_end (f : List Int) (h : f.length = 16) : (dz f).getD 15 0 + (Cu.chain ((dz f).take 15) 0).2 = (gJ f 15).getD 15 0 ∧ (Cu.chain (dz f) 0).2 = (gJ f 15).getD 15 0 / 65536 ∧ ((gJ f 15).getD 15 0 / 65536 = 0 → (Cu.chain (dz f) 0).1 = gJ f 15) := by
  have hd := dz_length f h
  have ht : dz f = (dz f).take 15 ++ [(dz f).getD 15 0] := by
    generalize dz f = l at hd
    match l, hd with
    | [a0, a1, a2, a3, a4, a5, a6, a7, a8, a9, a10, a11, a12, a13, a14, a15], _ => rfl
  have hs := Cu.chain_snoc ((dz f).take 15) 0 ((dz f).getD 15 0)
  rw [← ht] at hs
  have hh := gJ_here f h 15 (by omega)
  rw [hh]
  refine ⟨rfl, by rw [hs], fun h0 => ?_⟩
  rw [hs, gJ, carA, List.drop_of_length_le (by omega)]
  generalize (dz f).getD 15 0 + (Cu.chain ((dz f).take 15) 0).2 = v at *
  have e : v % 65536 = v := by omega
  rw [e]

set_option maxRecDepth 100000 in
set_option maxHeartbeats 4000000 in
theorem refOnce_any (f : List Int) (hf : Dig f) (w : World) :
    Calls Try.prog 34 #[.agg (f.map i64v).toArray] w fun e w' => e = .returned (.agg ((onceL f).map i64v).toArray) ∧ Below w.heap.size w w' := by
  obtain ⟨ca, hca⟩ : ∃ c, (f.map i64v).toArray = c := ⟨_, rfl⟩
  rw [hca]
  have HC := Lib.hid hca
  have HL := Lib.hid hf
  have HM := Lib.hid (show Mem w [blkE (w.heap.size + 1) 38 (zd 16), blkE w.heap.size 38 (f.map i64v)] ((w.alloc (.cells ca 38)).alloc (.cells #[.int .i64 0, .int .i64 0, .int .i64 0, .int .i64 0, .int .i64 0, .int .i64 0, .int .i64 0, .int .i64 0, .int .i64 0, .int .i64 0, .int .i64 0, .int .i64 0, .int .i64 0, .int .i64 0, .int .i64 0, .int .i64 0] 38)) from ((Mem.nil w).alloc rfl 38 ca (f.map i64v) hca.symm).alloc (by simp) 38 #[.int .i64 0, .int .i64 0, .int .i64 0, .int .i64 0, .int .i64 0, .int .i64 0, .int .i64 0, .int .i64 0, .int .i64 0, .int .i64 0, .int .i64 0, .int .i64 0, .int .i64 0, .int .i64 0, .int .i64 0, .int .i64 0] (zd 16) rfl)
  clear hf hca
  go_enter Try.func34, Try.ntmps34
  go_upto_region 1 with fail
  generalize ((w.alloc (.cells ca 38)).alloc (.cells #[.int .i64 0, .int .i64 0, .int .i64 0, .int .i64 0, .int .i64 0, .int .i64 0, .int .i64 0, .int .i64 0, .int .i64 0, .int .i64 0, .int .i64 0, .int .i64 0, .int .i64 0, .int .i64 0, .int .i64 0, .int .i64 0] 38)) = w1 at HM ⊢
  have HA := Lib.hid (show Mem w [blkE w1.heap.size 38 (zd 16), blkE (w.heap.size + 1) 38 (zd 16), blkE w.heap.size 38 (f.map i64v)] (w1.alloc (.cells #[.int .i64 0, .int .i64 0, .int .i64 0, .int .i64 0, .int .i64 0, .int .i64 0, .int .i64 0, .int .i64 0, .int .i64 0, .int .i64 0, .int .i64 0, .int .i64 0, .int .i64 0, .int .i64 0, .int .i64 0, .int .i64 0] 38)) from HM.out.alloc rfl 38 #[.int .i64 0, .int .i64 0, .int .i64 0, .int .i64 0, .int .i64 0, .int .i64 0, .int .i64 0, .int .i64 0, .int .i64 0, .int .i64 0, .int .i64 0, .int .i64 0, .int .i64 0, .int .i64 0, .int .i64 0, .int .i64 0] (zd 16) rfl)
  go_upto_region 2 with (first | (refine wpList_load_blk rfl 38 (.tmp 1) rfl w.heap.size rfl 38 (f.map i64v) (HM.out.blk 1 rfl) 16 2 Try.underlying38 (cu_cells f HL.out.1) ?_; rw [HC.out]) | (refine wpList_store_blk rfl 38 (.tmp 3) (.tmp 6) rfl w1.heap.size (f.map i64v) rfl (by show Value.agg ca = _; rw [HC.out]) 38 (zd 16) (HA.out.blk 0 rfl) (cu_cells f HL.out.1) (by rw [List.length_map, HL.out.1]; rfl) (i64v_one _) ?_; intro w2 hb9 hg9))
  (try simp only [Act.put])
  replace HM := Lib.hid (show Mem w [blkE w1.heap.size 38 ((f).map i64v), blkE (w.heap.size + 1) 38 (zd 16), blkE w.heap.size 38 (f.map i64v)] w2 from HA.out.put 0 rfl _ hg9 hb9)
  clear HA hb9 hg9
  generalize w1.heap.size = Q at HM ⊢
  have h0 := HL.out.getD 0 (by omega)
  have fx := (HM.out.blk 0 rfl).dig 0 (by rw [HL.out.1]; omega)
  have zx := (HM.out.blk 0 rfl).frozen 0
  have hw : IntKind.i64.wrap (f.getD 0 0 - 65517) = f.getD 0 0 - 65517 := IntWalk.i64_in _ (by omega)
  have hg0 : f.set 0 (f.getD 0 0 - 65517) = gJ f 0 := by
    have hl := HL.out.1
    generalize f = l at hl
    match l, hl with
    | [a0, a1, a2, a3, a4, a5, a6, a7, a8, a9, a10, a11, a12, a13, a14, a15], _ => simp [gJ, carA, Cu.chain, dz, subL, pD]
  have hset2 : (f.map i64v).set 0 (.int .i64 (f.getD 0 0 - 65517)) = (gJ f 0).map i64v := by rw [← hg0, List.map_set]; rfl
  have HN := Lib.hid (show ∀ W, Mem w [blkE Q 38 ((f).map i64v), blkE (w.heap.size + 1) 38 (zd 16), blkE w.heap.size 38 (f.map i64v)] W → Mem w [blkE Q 38 ((gJ f 0).map i64v), blkE (w.heap.size + 1) 38 (zd 16), blkE w.heap.size 38 (f.map i64v)] (W.setCell ⟨Q, 0, none⟩ (.int .i64 (f.getD 0 0 - 65517))) from fun W hW => by have h := hW.setCell 0 rfl 0 (.int .i64 (f.getD 0 0 - 65517)); rw [hset2] at h; exact h)
  clear hset2 hg0
  generalize f.getD 0 0 = x0 at *
  go_upto_region 3 with fail
  replace HM := Lib.hid (HN.out _ HM.out)
  clear HN hw fx zx h0
  generalize w2.setCell ⟨Q, 0, none⟩ (.int .i64 (x0 - 65517)) = w3 at HM ⊢
  go_wp2_with fail
  go_loopw [4] (fun i wr => ∃ j : Nat, j ≤ 14 ∧ i = .int .i64 ((j : Int) + 1) ∧ Mem w [blkE Q 38 ((gJ f j).map i64v), blkE (w.heap.size + 1) 38 (zd 16), blkE w.heap.size 38 (f.map i64v)] wr) (fun i _ => 16 - (intOf i).toNat)
  case atStart => exact ⟨0, by omega, rfl, HM.out⟩
  case round =>
    clear HM
    obtain ⟨j, hj, rfl, hM⟩ := hrel
    have HM := Lib.hid hM
    clear hM
    have hd := HL.out.getD (j + 1) (by omega)
    have hdn := dz_get f HL.out.1 (j + 1) (by omega)
    have hgh := gJ_here f HL.out.1 j (by omega)
    have hgn := gJ_next f HL.out.1 j (by omega)
    have hvb : -65536 ≤ (dz f).getD j 0 + (Cu.chain ((dz f).take j) 0).2 ∧ (dz f).getD j 0 + (Cu.chain ((dz f).take j) 0).2 ≤ 65535 := by
      have a1 := dz_bound f HL.out ((dz f).getD j 0) (Cu.getD_mem (by rw [dz_length f HL.out.1]; omega))
      have a2 := chain_neg ((dz f).take j) 0 (fun x hx => dz_bound f HL.out x (List.mem_of_mem_take hx)) (by omega) (by omega)
      omega
    obtain ⟨v, hv⟩ : ∃ v, (dz f).getD j 0 + (Cu.chain ((dz f).take j) 0).2 = v := ⟨_, rfl⟩
    rw [hv] at hgh hvb
    have hgh2 := hgh
    have hst := gJ_step f HL.out.1 j (by omega) v hv
    rw [hdn] at hst
    obtain ⟨x, hx⟩ : ∃ x, f.getD (j + 1) 0 = x := ⟨_, rfl⟩
    rw [hx] at hgn hd hst
    have fx := (HM.out.blk 0 rfl).dig j (by rw [gJ_length f HL.out.1 j (by omega)]; omega)
    have fy := (HM.out.blk 0 rfl).dig (j + 1) (by rw [gJ_length f HL.out.1 j (by omega)]; omega)
    have zx := (HM.out.blk 0 rfl).frozen j
    have zy := (HM.out.blk 0 rfl).frozen (j + 1)
    rw [hgh] at fx
    rw [hgn] at fy
    have hm1 := i64_mask (v / 65536) 1 1 (by decide) (by omega)
    have hm2 := i64_mask v 65535 16 (by decide) (by omega)
    rw [show ((1 : Nat) : Int) = 1 from rfl, show (((2 ^ 1 : Nat)) : Int) = 2 from by decide] at hm1
    rw [show ((65535 : Nat) : Int) = 65535 from rfl, show (((2 ^ 16 : Nat)) : Int) = 65536 from by decide] at hm2
    have hq : v / 65536 = -(v / 65536 % 2) := by omega
    obtain ⟨b, hb⟩ : ∃ b, v / 65536 % 2 = b := ⟨_, rfl⟩
    rw [hb] at hq hm1
    have hbb : 0 ≤ b ∧ b ≤ 1 := by omega
    have hw0 : IntKind.i64.wrap ((j : Int) + 1 - 1) = (j : Int) := by rw [IntWalk.i64_in _ (by omega)]; omega
    have hw1 : IntKind.i64.wrap (65535 + b) = 65535 + b := IntWalk.i64_in _ (by omega)
    have hw2 : IntKind.i64.wrap (x - (65535 + b)) = x - (65535 + b) := IntWalk.i64_in _ (by omega)
    clear hgh hgn hv hdn hx
    by_cases hlt : j < 14
    · rw [pD_mid (j + 1) (by omega) (by omega), hq, show x - 65535 + -b = x - (65535 + b) by omega] at hst
      have hset1 : ((gJ f j).map i64v).set (j + 1) (.int .i64 (x - (65535 + b))) = ((gJ f j).set (j + 1) (x - (65535 + b))).map i64v := by rw [List.map_set]; rfl
      have hset2 : (((gJ f j).set (j + 1) (x - (65535 + b))).map i64v).set j (.int .i64 (v % 65536)) = (gJ f (j + 1)).map i64v := by rw [← hst, List.map_set (f := i64v) (i := j)]; rfl
      have HN1 := Lib.hid (show ∀ W, Mem w [blkE Q 38 ((gJ f j).map i64v), blkE (w.heap.size + 1) 38 (zd 16), blkE w.heap.size 38 (f.map i64v)] W → Mem w [blkE Q 38 (((gJ f j).set (j + 1) (x - (65535 + b))).map i64v), blkE (w.heap.size + 1) 38 (zd 16), blkE w.heap.size 38 (f.map i64v)] (W.setCell ⟨Q, j + 1, none⟩ (.int .i64 (x - (65535 + b)))) from fun W hW => by have h := hW.setCell 0 rfl (j + 1) (.int .i64 (x - (65535 + b))); rw [hset1] at h; exact h)
      have HN2 := Lib.hid (show ∀ W, Mem w [blkE Q 38 (((gJ f j).set (j + 1) (x - (65535 + b))).map i64v), blkE (w.heap.size + 1) 38 (zd 16), blkE w.heap.size 38 (f.map i64v)] W → Mem w [blkE Q 38 ((gJ f (j + 1)).map i64v), blkE (w.heap.size + 1) 38 (zd 16), blkE w.heap.size 38 (f.map i64v)] (W.setCell ⟨Q, j, none⟩ (.int .i64 (v % 65536))) from fun W hW => by have h := hW.setCell 0 rfl j (.int .i64 (v % 65536)); rw [hset2] at h; exact h)
      clear hset1 hset2 hst hb hq
      go_upto_region 6 with fail
      go_region
      clear fx fy zx zy
      replace HM := Lib.hid (HN1.out _ HM.out).drew
      clear HN1 hm1 hw1 hw2
      go_upto_region 7 with fail
      generalize (wr.setCell ⟨Q, j + 1, none⟩ (.int .i64 (x - (65535 + b)))).drew = w5 at HM ⊢
      have fx := (HM.out.blk 0 rfl).dig j (by rw [List.length_set, gJ_length f HL.out.1 j (by omega)]; omega)
      have zx := (HM.out.blk 0 rfl).frozen j
      rw [show ((gJ f j).set (j + 1) (x - (65535 + b))).getD j 0 = v by rw [List.getD_eq_getElem?_getD, List.getElem?_set_ne (by omega), ← List.getD_eq_getElem?_getD]; exact hgh2] at fx
      go_upto_region 5 with fail
      clear fx zx hw0 hm2
      replace HM := Lib.hid (HN2.out _ HM.out)
      clear HN2
      generalize w5.setCell ⟨Q, j, none⟩ (.int .i64 (v % 65536)) = w6 at HM ⊢
      have hw3 : IntKind.i64.wrap ((j : Int) + 1 + 1) = ((j + 1 : Nat) : Int) + 1 := by rw [IntWalk.i64_in _ (by omega)]; omega
      go_wp2_with fail
      go_roundw
      case rel => exact ⟨j + 1, by omega, by first | rfl | (rw [hw3]) | go_num, HM.out⟩
      case measure => simp [intOf]; omega
    · obtain rfl : j = 14 := by omega
      have hp15 : pD.getD (14 + 1) 0 = 32767 := rfl
      rw [hp15, hq, show x - 32767 + -b = x - (32767 + b) by omega] at hst
      have hset1 : ((gJ f 14).map i64v).set 15 (.int .i64 (x - (32767 + b))) = ((gJ f 14).set 15 (x - (32767 + b))).map i64v := by rw [List.map_set]; rfl
      have hset2 : (((gJ f 14).set 15 (x - (32767 + b))).map i64v).set 14 (.int .i64 (v % 65536)) = (gJ f 15).map i64v := by rw [← hst, List.map_set (f := i64v) (i := 14)]; rfl
      have HN1 := Lib.hid (show ∀ W, Mem w [blkE Q 38 ((gJ f 14).map i64v), blkE (w.heap.size + 1) 38 (zd 16), blkE w.heap.size 38 (f.map i64v)] W → Mem w [blkE Q 38 (((gJ f 14).set 15 (x - (32767 + b))).map i64v), blkE (w.heap.size + 1) 38 (zd 16), blkE w.heap.size 38 (f.map i64v)] (W.setCell ⟨Q, 15, none⟩ (.int .i64 (x - (32767 + b)))) from fun W hW => by have h := hW.setCell 0 rfl 15 (.int .i64 (x - (32767 + b))); rw [hset1] at h; exact h)
      have HN2 := Lib.hid (show ∀ W, Mem w [blkE Q 38 (((gJ f 14).set 15 (x - (32767 + b))).map i64v), blkE (w.heap.size + 1) 38 (zd 16), blkE w.heap.size 38 (f.map i64v)] W → Mem w [blkE Q 38 ((gJ f 15).map i64v), blkE (w.heap.size + 1) 38 (zd 16), blkE w.heap.size 38 (f.map i64v)] (W.setCell ⟨Q, 14, none⟩ (.int .i64 (v % 65536))) from fun W hW => by have h := hW.setCell 0 rfl 14 (.int .i64 (v % 65536)); rw [hset2] at h; exact h)
      obtain ⟨ge1, ge2, ge3⟩ := gJ_end f HL.out.1
      have hy15 : (gJ f 15).getD 15 0 = x - (32767 + b) := by
        have hl := gJ_length f HL.out.1 14 (by omega)
        rw [← hst, List.getD_eq_getElem?_getD, List.getElem?_set_ne (by omega), List.getElem?_set_self (by omega)]
        rfl
      rw [hy15] at ge2 ge3
      have HE := Lib.hid (And.intro ge2 ge3)
      clear hset1 hset2 hst hb hq ge1 ge2 ge3 hy15 hw1 hw2
      obtain ⟨y, hy⟩ : ∃ y, x - (32767 + b) = y := ⟨_, rfl⟩
      have hyb : -65536 ≤ y ∧ y ≤ 65535 := by omega
      have hw1 : IntKind.i64.wrap (32767 + b) = 32767 + b := IntWalk.i64_in _ (by omega)
      have hw2 : IntKind.i64.wrap (x - (32767 + b)) = y := by rw [hy]; exact IntWalk.i64_in _ (by omega)
      have hm3 := i64_mask (y / 65536) 1 1 (by decide) (by omega)
      rw [show ((1 : Nat) : Int) = 1 from rfl, show (((2 ^ 1 : Nat)) : Int) = 2 from by decide] at hm3
      rw [hy] at HN1 HN2 HE
      clear hy
      go_upto_region 9 with fail
      clear fx fy zx zy hw1 hw2 hm1
      replace HM := Lib.hid (HN1.out _ HM.out)
      clear HN1
      generalize wr.setCell ⟨Q, 15, none⟩ (.int .i64 y) = w5 at HM ⊢
      have hl14 := gJ_length f HL.out.1 14 (by omega)
      have fx := (HM.out.blk 0 rfl).dig 14 (by rw [List.length_set, hl14]; omega)
      have zx := (HM.out.blk 0 rfl).frozen 14
      rw [show ((gJ f 14).set 15 y).getD 14 0 = v by rw [List.getD_eq_getElem?_getD, List.getElem?_set_ne (by omega), ← List.getD_eq_getElem?_getD]; exact hgh2] at fx
      have fy := (HM.out.blk 0 rfl).dig 15 (by rw [List.length_set, hl14]; omega)
      rw [show ((gJ f 14).set 15 y).getD 15 0 = y by rw [List.getD_eq_getElem?_getD, List.getElem?_set_self (by omega)]; rfl] at fy
      clear hl14 hgh2
      go_upto_region 11 with fail
      clear fx fy zx hm2
      replace HM := Lib.hid (HN2.out _ HM.out)
      clear HN2
      generalize w5.setCell ⟨Q, 14, none⟩ (.int .i64 (v % 65536)) = w6 at HM ⊢
      by_cases hneg : y / 65536 % 2 = 1
      · have ho : onceL f = f := by rw [onceL, if_pos (by rw [HE.out.1]; omega)]
        have hd1 : (y / 65536 % 2 == 1) = true := by simp [hneg]
        have HO := Lib.hid ho
        clear ho hm3
        go_wp2_with (first | (refine wpList_load_blk rfl 38 (.tmp 1) rfl w.heap.size rfl 38 (f.map i64v) (HM.out.blk 2 rfl) 16 2 Try.underlying38 (cu_cells f HL.out.1) ?_; rw [HC.out]) | (refine wpList_store_blk rfl 38 (.tmp 2) (.tmp 52) rfl (w.heap.size + 1) (f.map i64v) rfl (by show Value.agg ca = _; rw [HC.out]) 38 (zd 16) (HM.out.blk 1 rfl) (cu_cells f HL.out.1) (by rw [List.length_map, HL.out.1]; rfl) (i64v_one _) ?_; intro w9 hb9 hg9))
        exact bodyPost_ret (results_blk rfl _ _ (w.heap.size + 1) 38 (f.map i64v) 16 2 rfl hb9 Try.underlying38 (cu_cells f HL.out.1)) rfl ⟨by rw [HO.out], (HM.out.put 1 rfl _ hg9 hb9).bel⟩
      · have hz : y / 65536 = 0 := by omega
        have ho : onceL f = gJ f 15 := by rw [onceL, if_neg (by rw [HE.out.1]; omega), HE.out.2 hz]
        have hd1 : (y / 65536 % 2 == 1) = false := by simp [hneg]
        have hlz := gJ_length f HL.out.1 15 (by omega)
        rw [← ho] at HM hlz
        obtain ⟨lz, hlq⟩ : ∃ z, onceL f = z := ⟨_, rfl⟩
        rw [hlq] at HM hlz
        have HSZ := Lib.hid hlq
        clear hlq
        have HLz := Lib.hid hlz
        obtain ⟨cz, hcz⟩ : ∃ c, (lz.map i64v).toArray = c := ⟨_, rfl⟩
        have HCZ := Lib.hid hcz
        clear hcz ho hm3 hlz
        go_wp2_with (first | (refine wpList_load_blk rfl 38 (.tmp 3) rfl Q rfl 38 (lz.map i64v) (HM.out.blk 0 rfl) 16 2 Try.underlying38 (cu_cells lz HLz.out) ?_; rw [HCZ.out]) | (refine wpList_store_blk rfl 38 (.tmp 2) (.tmp 53) rfl (w.heap.size + 1) (lz.map i64v) rfl (by show Value.agg cz = _; rw [HCZ.out]) 38 (zd 16) (HM.out.blk 1 rfl) (cu_cells lz HLz.out) (by rw [List.length_map, HLz.out]; rfl) (i64v_one _) ?_; intro w9 hb9 hg9))
        exact bodyPost_ret (results_blk rfl _ _ (w.heap.size + 1) 38 (lz.map i64v) 16 2 rfl hb9 Try.underlying38 (cu_cells lz HLz.out)) rfl ⟨by rw [HSZ.out], (HM.out.put 1 rfl _ hg9 hb9).bel⟩
end Go.Proofs.Ytgdgecehmnokdaa
