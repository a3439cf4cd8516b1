/-
  The contract of the reference's read: the digits of 32 bytes, without the highest bit.
-/
import Derived.Test.YtgdgecehmnokdaaCuInv
namespace Go.Proofs.Ytgdgecehmnokdaa
open Go.RowKit

theorem i64_mask (n : Int) (m : Nat) (k : Nat) (hm : m = 2 ^ k - 1) (hk : k ≤ 32) : bits BinOp.and IntKind.i64 n (m : Int) = n % ((2 ^ k : Nat) : Int) := by
  have hp : 2 ^ k ≤ 2 ^ 32 := Nat.pow_le_pow_right (by omega) hk
  have hp1 : 1 ≤ 2 ^ k := Nat.one_le_two_pow
  have h127 : (BitVec.ofInt 64 (m : Int)).toNat = 2 ^ k - 1 := by
    rw [BitVec.ofInt_natCast, BitVec.toNat_ofNat, hm]; exact Nat.mod_eq_of_lt (by omega)
  have key : (BitVec.ofInt 64 n &&& BitVec.ofInt 64 (m : Int)).toNat = (n % ((2 ^ 64 : Nat) : Int)).toNat % 2 ^ k := by
    rw [BitVec.toNat_and, BitVec.toNat_ofInt, h127, Nat.and_two_pow_sub_one_eq_mod]
  show IntKind.i64.wrap ((BitVec.ofInt 64 n &&& BitVec.ofInt 64 (m : Int)).toNat : Nat) = _
  rw [key, IntWalk.i64_in _ (by have := Nat.mod_lt (n % ((2 ^ 64 : Nat) : Int)).toNat (show 0 < 2 ^ k by omega); omega), Int.natCast_emod, Int.toNat_of_nonneg (Int.emod_nonneg _ (by decide))]
  exact Int.emod_emod_of_dvd _ (Int.natCast_dvd_natCast.2 (Nat.pow_dvd_pow 2 (by omega)))
theorem i64_or_bytes (a b : UInt8) : bits BinOp.or IntKind.i64 (a.toNat : Int) ((b.toNat : Int) * 256) = (a.toNat : Int) + 256 * (b.toNat : Int) := by
  have ha := a.toNat_lt
  have hb := b.toNat_lt
  have h1 : (BitVec.ofInt 64 (a.toNat : Int)).toNat = a.toNat := by
    rw [BitVec.ofInt_natCast, BitVec.toNat_ofNat]; exact Nat.mod_eq_of_lt (by omega)
  have h2 : (BitVec.ofInt 64 ((b.toNat : Int) * 256)).toNat = 2 ^ 8 * b.toNat := by
    rw [show (b.toNat : Int) * 256 = ((2 ^ 8 * b.toNat : Nat) : Int) by omega, BitVec.ofInt_natCast, BitVec.toNat_ofNat]; exact Nat.mod_eq_of_lt (by omega)
  show IntKind.i64.wrap ((BitVec.ofInt 64 (a.toNat : Int) ||| BitVec.ofInt 64 ((b.toNat : Int) * 256)).toNat : Nat) = _
  rw [BitVec.toNat_or, h1, h2, or_low b.toNat a.toNat 8 (by omega), IntWalk.i64_in _ (by omega)]
  omega
theorem Blk.byt {w : World} {g : Nat} {t : TypeId} {l : List UInt8} (h : Blk w g t (l.map u8v)) (i : Nat) (hi : i < l.length) : w.cell? ⟨g, i, none⟩ = some (.int .u8 ((l.getD i 0).toNat : Int)) := by
  rw [h.cell i]
  simp [u8v, hi, List.getD]
/-- digits of bytes -/
def digL : List UInt8 → List Int
  | a :: b :: r => ((a.toNat : Int) + 256 * (b.toNat : Int)) :: digL r
  | _ => []
theorem digL_length : ∀ (n : Nat) (l : List UInt8), l.length = 2 * n → (digL l).length = n
  | 0, [], _ => rfl
  | n + 1, a :: b :: r, h => by
    have := digL_length n r (by simp only [List.length_cons] at h; omega)
    simp [digL, this]
  | 0, _ :: _, h => by simp at h
  | n + 1, [], h => by simp at h
  | n + 1, [_], h => by simp at h; omega
theorem digL_val : ∀ (n : Nat) (l : List UInt8), l.length = 2 * n → Cu.valL (digL l) = (numL l : Int)
  | 0, [], _ => rfl
  | n + 1, a :: b :: r, h => by
    have := digL_val n r (by simp only [List.length_cons] at h; omega)
    simp only [digL, Cu.valL, this, numL]
    omega
  | 0, _ :: _, h => by simp at h
  | n + 1, [], h => by simp at h
  | n + 1, [_], h => by simp at h; omega
theorem digL_get : ∀ (n : Nat) (l : List UInt8), l.length = 2 * n → ∀ i, i < n → (digL l).getD i 0 = ((l.getD (2 * i) 0).toNat : Int) + 256 * ((l.getD (2 * i + 1) 0).toNat : Int)
  | n + 1, a :: b :: r, h, 0, _ => by simp [digL]
  | n + 1, a :: b :: r, h, i + 1, hi => by
    have := digL_get n r (by simp only [List.length_cons] at h; omega) i (by omega)
    rw [digL, List.getD_cons_succ, this, show 2 * (i + 1) = 2 * i + 1 + 1 by omega]
    simp only [List.getD_cons_succ]
  | n + 1, [], h, _, _ => by simp at h
  | n + 1, [_], h, _, _ => by simp at h; omega
theorem digL_within (n : Nat) (l : List UInt8) (h : l.length = 2 * n) : ∀ x ∈ digL l, 0 ≤ x ∧ x ≤ 65535 := by
  intro x hx
  obtain ⟨i, hi, rfl⟩ := List.mem_iff_getElem.1 hx
  rw [digL_length n l h] at hi
  have e := digL_get n l h i hi
  rw [List.getD_eq_getElem?_getD, List.getElem?_eq_getElem (by rw [digL_length n l h]; exact hi)] at e
  simp only [Option.getD_some] at e
  rw [e]
  have h1 := (l.getD (2 * i) 0).toNat_lt
  have h2 := (l.getD (2 * i + 1) 0).toNat_lt
  omega
def digJ (k : List UInt8) (j : Nat) : List Int := (digL k).take j ++ (List.replicate 16 (0 : Int)).drop j
theorem digJ_length (k : List UInt8) (h : k.length = 32) (j : Nat) (hj : j ≤ 16) : (digJ k j).length = 16 := by
  have := digL_length 16 k h
  simp [digJ, this]; omega
theorem digJ_step (k : List UInt8) (h : k.length = 32) (j : Nat) (hj : j < 16) : (digJ k j).set j (((k.getD (2 * j) 0).toNat : Int) + 256 * ((k.getD (2 * j + 1) 0).toNat : Int)) = digJ k (j + 1) := by
  have hl := digL_length 16 k h
  have hx := digL_get 16 k h j hj
  have hx' : (digL k)[j]'(by omega) = ((k.getD (2 * j) 0).toNat : Int) + 256 * ((k.getD (2 * j + 1) 0).toNat : Int) := by rw [← hx, List.getD_eq_getElem?_getD, List.getElem?_eq_getElem (by omega)]; rfl
  rw [digJ, digJ, List.set_append_right _ _ (by rw [List.length_take]; omega), List.length_take, Nat.min_eq_left (by omega), Nat.sub_self,
    List.drop_eq_getElem_cons (by simp; omega), List.set_cons_zero, List.take_succ_eq_append_getElem (by omega), hx', List.append_assoc]
  rfl
/-- what read gives -/
def readL (k : List UInt8) : List Int := (digL k).set 15 ((digL k).getD 15 0 % 32768)
theorem readL_length (k : List UInt8) (h : k.length = 32) : (readL k).length = 16 := by rw [readL, List.length_set, digL_length 16 k h]
theorem readL_fit (k : List UInt8) (h : k.length = 32) : Fit (readL k) := by
  refine ⟨readL_length k h, fun x hx => ?_⟩
  rcases List.mem_or_eq_of_mem_set hx with h1 | h1
  · have := digL_within 16 k h x h1; omega
  · omega
theorem readL_val (k : List UInt8) (h : k.length = 32) : Cu.valL (readL k) = ((numL k % 2 ^ 255 : Nat) : Int) := by
  have hl := digL_length 16 k h
  have hv := digL_val 16 k h
  have hw := digL_within 16 k h
  have hs := Cu.valL_set (digL k) 15 ((digL k).getD 15 0 % 32768) (by omega)
  rw [← readL, hv] at hs
  have h15 := hw ((digL k).getD 15 0) (Cu.getD_mem (by omega))
  have hd : digL k = (digL k).take 15 ++ [(digL k).getD 15 0] := by
    generalize digL k = l at hl
    match l, hl with
    | [a0, a1, a2, a3, a4, a5, a6, a7, a8, a9, a10, a11, a12, a13, a14, a15], _ => rfl
  have hlow : ∀ l : List Int, (∀ x ∈ l, 0 ≤ x ∧ x ≤ 65535) → 0 ≤ Cu.valL l ∧ Cu.valL l < 65536^l.length := by
    intro l
    induction l with
    | nil => intro _; exact ⟨Int.le_refl _, by decide⟩
    | cons x l ih =>
      intro hx
      have h0 := hx x (by simp)
      have h1 := ih (fun y hy => hx y (by simp [hy]))
      simp only [Cu.valL, List.length_cons, Int.pow_succ]
      generalize (65536 : Int)^l.length = q at *
      omega
  have hb := hlow ((digL k).take 15) (fun x hx => hw x (List.mem_of_mem_take hx))
  have hv2 : (numL k : Int) = Cu.valL ((digL k).take 15) + 65536^15 * (digL k).getD 15 0 := by
    rw [← hv]
    conv => lhs; rw [hd]
    rw [Cu.valL_append, List.length_take, hl]
    simp [Cu.valL]
  rw [List.length_take, hl] at hb
  rw [hs]
  generalize Cu.valL ((digL k).take 15) = v at *
  generalize (digL k).getD 15 0 = d at *
  generalize numL k = n at *
  clear hs hv hd hw hlow hl
  have e15 : ((65536 : Int)^15) = 1766847064778384329583297500742918515827483896875618958121606201292619776 := by decide +kernel
  have e255 : (2 : Nat)^255 = 57896044618658097711785492504343953926634992332820282019728792003956564819968 := by decide +kernel
  have em : min 15 16 = 15 := rfl
  rw [em, e15] at hb
  rw [e15] at hv2 ⊢
  rw [e255]
  omega

set_option maxRecDepth 100000 in
set_option maxHeartbeats 4000000 in
theorem refRead_any (k : List UInt8) (hk : k.length = 32) (w : World) :
    Calls Try.prog 19 #[.agg (k.map u8v).toArray] w fun e w' => e = .returned (.agg ((readL k).map i64v).toArray) ∧ Below w.heap.size w w' := by
  obtain ⟨ck, hck⟩ : ∃ c, (k.map u8v).toArray = c := ⟨_, rfl⟩
  rw [hck]
  have HL := Lib.hid hk
  have HM := Lib.hid (show Mem w [blkE (w.heap.size + 1) 38 (zd 16), blkE w.heap.size 23 (k.map u8v)] ((w.alloc (.cells ck 23)).alloc (.cells #[.int .i64 0, .int .i64 0, .int .i64 0, .int .i64 0, .int .i64 0, .int .i64 0, .int .i64 0, .int .i64 0, .int .i64 0, .int .i64 0, .int .i64 0, .int .i64 0, .int .i64 0, .int .i64 0, .int .i64 0, .int .i64 0] 38)) from ((Mem.nil w).alloc rfl 23 ck (k.map u8v) hck.symm).alloc (by simp) 38 #[.int .i64 0, .int .i64 0, .int .i64 0, .int .i64 0, .int .i64 0, .int .i64 0, .int .i64 0, .int .i64 0, .int .i64 0, .int .i64 0, .int .i64 0, .int .i64 0, .int .i64 0, .int .i64 0, .int .i64 0, .int .i64 0] (zd 16) rfl)
  clear hk hck
  go_enter Try.func19, Try.ntmps19
  go_upto_region 1 with fail
  generalize ((w.alloc (.cells ck 23)).alloc (.cells #[.int .i64 0, .int .i64 0, .int .i64 0, .int .i64 0, .int .i64 0, .int .i64 0, .int .i64 0, .int .i64 0, .int .i64 0, .int .i64 0, .int .i64 0, .int .i64 0, .int .i64 0, .int .i64 0, .int .i64 0, .int .i64 0] 38)) = w1 at HM ⊢
  have HA := Lib.hid (show Mem w [blkE w1.heap.size 38 ((List.replicate 16 (0 : Int)).map i64v), blkE (w.heap.size + 1) 38 (zd 16), blkE w.heap.size 23 (k.map u8v)] (w1.alloc (.cells #[.int .i64 0, .int .i64 0, .int .i64 0, .int .i64 0, .int .i64 0, .int .i64 0, .int .i64 0, .int .i64 0, .int .i64 0, .int .i64 0, .int .i64 0, .int .i64 0, .int .i64 0, .int .i64 0, .int .i64 0, .int .i64 0] 38)) from HM.out.alloc rfl 38 #[.int .i64 0, .int .i64 0, .int .i64 0, .int .i64 0, .int .i64 0, .int .i64 0, .int .i64 0, .int .i64 0, .int .i64 0, .int .i64 0, .int .i64 0, .int .i64 0, .int .i64 0, .int .i64 0, .int .i64 0, .int .i64 0] ((List.replicate 16 (0 : Int)).map i64v) rfl)
  go_upto_region 2 with fail
  generalize w1.alloc (.cells #[.int .i64 0, .int .i64 0, .int .i64 0, .int .i64 0, .int .i64 0, .int .i64 0, .int .i64 0, .int .i64 0, .int .i64 0, .int .i64 0, .int .i64 0, .int .i64 0, .int .i64 0, .int .i64 0, .int .i64 0, .int .i64 0] 38) = w2 at HA ⊢
  generalize w1.heap.size = Q at HA ⊢
  clear HM
  go_wp2_with fail
  go_loopw [5, 4] (fun i _ wr => ∃ j : Nat, j ≤ 16 ∧ i = .int .i64 (j : Int) ∧ Mem w [blkE Q 38 ((digJ k j).map i64v), blkE (w.heap.size + 1) 38 (zd 16), blkE w.heap.size 23 (k.map u8v)] wr) (fun i _ _ => 16 - (intOf i).toNat)
  case atStart => exact ⟨0, by omega, rfl, by simpa [digJ] using HA.out⟩
  case round =>
    clear HA
    obtain ⟨j, hj, rfl, hM⟩ := hrel
    have HM := Lib.hid hM
    clear hM
    by_cases hlt : j < 16
    · have fx := (HM.out.blk 2 rfl).byt (2 * j) (by have := HL.out; omega)
      have fy := (HM.out.blk 2 rfl).byt (2 * j + 1) (by have := HL.out; omega)
      have zx := (HM.out.blk 0 rfl).frozen j
      have fz := (HM.out.blk 0 rfl).dig j (by rw [digJ_length k HL.out j hj]; exact hlt)
      have hst := digJ_step k HL.out j hlt
      generalize k.getD (2 * j) 0 = x at *
      generalize k.getD (2 * j + 1) 0 = y at *
      have hx := x.toNat_lt
      have hy := y.toNat_lt
      have hset2 : ((digJ k j).map i64v).set j (.int .i64 ((x.toNat : Int) + 256 * (y.toNat : Int))) = (digJ k (j + 1)).map i64v := by rw [← hst, List.map_set]; rfl
      have HN := Lib.hid (show ∀ W, Mem w [blkE Q 38 ((digJ k j).map i64v), blkE (w.heap.size + 1) 38 (zd 16), blkE w.heap.size 23 (k.map u8v)] W → Mem w [blkE Q 38 ((digJ k (j + 1)).map i64v), blkE (w.heap.size + 1) 38 (zd 16), blkE w.heap.size 23 (k.map u8v)] (W.setCell ⟨Q, j, none⟩ (.int .i64 ((x.toNat : Int) + 256 * (y.toNat : Int)))) from fun W hW => by have h := hW.setCell 0 rfl j (.int .i64 ((x.toNat : Int) + 256 * (y.toNat : Int))); rw [hset2] at h; exact h)
      clear hset2 hst
      have hw0 : IntKind.i64.wrap (2 * (j : Int)) = 2 * (j : Int) := IntWalk.i64_in _ (by omega)
      have hw1 : IntKind.i64.wrap (2 * (j : Int) + 1) = 2 * (j : Int) + 1 := IntWalk.i64_in _ (by omega)
      have hw2 : IntKind.i64.wrap (x.toNat : Int) = (x.toNat : Int) := IntWalk.i64_in _ (by omega)
      have hw3 : IntKind.i64.wrap (y.toNat : Int) = (y.toNat : Int) := IntWalk.i64_in _ (by omega)
      have hw4 : IntKind.i64.wrap ((y.toNat : Int) * 256) = (y.toNat : Int) * 256 := IntWalk.i64_in _ (by omega)
      have hor := i64_or_bytes x y
      go_upto_region 5 with fail
      go_region
      clear fx fy zx fz hw0 hw1 hw2 hw3 hw4 hor hx hy
      replace HM := Lib.hid (HN.out _ HM.out.drew)
      clear HN
      go_wp2_with fail
      go_roundw
      case rel => exact ⟨j + 1, by omega, by go_num, HM.out⟩
      case measure => simp [intOf]; omega
    · obtain rfl : j = 16 := by omega
      have hl := digL_length 16 k HL.out
      rw [show digJ k 16 = digL k by rw [digJ, List.take_of_length_le (by omega), List.drop_of_length_le (by simp), List.append_nil]] at HM
      have fx := (HM.out.blk 0 rfl).dig 15 (by omega)
      have zx := (HM.out.blk 0 rfl).frozen 15
      have hset2 : ((digL k).map i64v).set 15 (.int .i64 ((digL k).getD 15 0 % 32768)) = (readL k).map i64v := by rw [readL, List.map_set]; rfl
      have HN := Lib.hid (show ∀ W, Mem w [blkE Q 38 ((digL k).map i64v), blkE (w.heap.size + 1) 38 (zd 16), blkE w.heap.size 23 (k.map u8v)] W → Mem w [blkE Q 38 ((readL k).map i64v), blkE (w.heap.size + 1) 38 (zd 16), blkE w.heap.size 23 (k.map u8v)] (W.setCell ⟨Q, 15, none⟩ (.int .i64 ((digL k).getD 15 0 % 32768))) from fun W hW => by have h := hW.setCell 0 rfl 15 (.int .i64 ((digL k).getD 15 0 % 32768)); rw [hset2] at h; exact h)
      clear hset2 hl
      have hand := i64_mask ((digL k).getD 15 0) 32767 15 (by decide) (by omega)
      rw [show (((32767 : Nat)) : Int) = 32767 from rfl, show (((2 ^ 15 : Nat)) : Int) = 32768 from by decide] at hand
      generalize (digL k).getD 15 0 = d at *
      go_upto_region 8 with fail
      clear fx zx hand
      replace HM := Lib.hid (HN.out _ HM.out)
      clear HN
      generalize wr.setCell ⟨Q, 15, none⟩ (.int .i64 (d % 32768)) = w5 at HM ⊢
      have HLz := Lib.hid (readL_length k HL.out)
      obtain ⟨lz, hlz⟩ : ∃ z, readL k = z := ⟨_, rfl⟩
      rw [hlz] at HM HLz
      have HSZ := Lib.hid hlz
      clear hlz
      obtain ⟨cz, hcz⟩ : ∃ c, (lz.map i64v).toArray = c := ⟨_, rfl⟩
      have HCZ := Lib.hid hcz
      clear hcz
      go_wp2_with (first | (refine wpList_load_blk rfl 38 (.tmp 3) rfl Q rfl 38 (lz.map i64v) (HM.out.blk 0 rfl) 16 2 Try.underlying38 (cu_cells lz HLz.out) ?_; rw [HCZ.out]) | (refine wpList_store_blk rfl 38 (.tmp 2) (.tmp 28) rfl (w.heap.size + 1) (lz.map i64v) rfl (by show Value.agg cz = _; rw [HCZ.out]) 38 (zd 16) (HM.out.blk 1 rfl) (cu_cells lz HLz.out) (by rw [List.length_map, HLz.out]; rfl) (i64v_one _) ?_; intro w9 hb9 hg9))
      exact bodyPost_ret (results_blk rfl _ _ (w.heap.size + 1) 38 (lz.map i64v) 16 2 rfl hb9 Try.underlying38 (cu_cells lz HLz.out)) rfl ⟨by rw [HSZ.out], (HM.out.put 1 rfl _ hg9 hb9).bel⟩
end Go.Proofs.Ytgdgecehmnokdaa
