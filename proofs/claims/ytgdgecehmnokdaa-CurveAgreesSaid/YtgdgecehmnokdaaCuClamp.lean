/-
  The bits of a scalar, and the contract of the reference's Clamp.
-/
import Derived.Test.YtgdgecehmnokdaaCells32
import Derived.Test.YtgdgecehmnokdaaCuStep
namespace Go.Proofs.Ytgdgecehmnokdaa
open Go.RowKit

/-- a scalar with its fixed bits -/
def clampL (k : List UInt8) : List UInt8 := (k.set 0 (k.getD 0 0 &&& 248)).set 31 (k.getD 31 0 &&& 127 ||| 64)
theorem clampL_length (k : List UInt8) : (clampL k).length = k.length := by simp [clampL]
/-- the bit t of a number of bytes -/
def bitAt (c : List UInt8) (t : Nat) : Bool := (c.getD (t / 8) 0).toNat / 2 ^ (t % 8) % 2 == 1
/-- the bits that count, the highest one first -/
def bitsOf (c : List UInt8) : List Bool := (List.range 255).map fun i => bitAt c (254 - i)
theorem bitsOf_length (c : List UInt8) : (bitsOf c).length = 255 := by simp [bitsOf]
theorem bitsOf_take (c : List UInt8) (n : Nat) (h : n < 255) : (bitsOf c).take (n + 1) = (bitsOf c).take n ++ [bitAt c (254 - n)] := by
  rw [List.take_succ_eq_append_getElem (by rw [bitsOf_length]; exact h)]
  simp [bitsOf]
theorem bitsOf_even (k : List UInt8) (h : k.length = 32) : ∃ i, Cu.bitsN (bitsOf (clampL k)) = 2 * i := by
  have e : bitsOf (clampL k) = (bitsOf (clampL k)).take 254 ++ [bitAt (clampL k) 0] := by
    have := bitsOf_take (clampL k) 254 (by omega)
    rw [List.take_of_length_le (by rw [bitsOf_length]; omega)] at this
    exact this
  have hb : bitAt (clampL k) 0 = false := by
    have h0 : (clampL k).getD (0 / 8) 0 = k.getD 0 0 &&& 248 := by
      cases k with
      | nil => simp at h
      | cons a r => simp [clampL]
    unfold bitAt
    rw [h0]
    have hf : ∀ n : Fin 256, ((n.val &&& 248) / 2 ^ (0 % 8) % 2 == 1) = false := by decide +kernel
    rw [UInt8.toNat_and]
    exact hf ⟨(k.getD 0 0).toNat, (k.getD 0 0).toNat_lt⟩
  obtain ⟨l, hl⟩ : ∃ l, (bitsOf (clampL k)).take 254 = l := ⟨_, rfl⟩
  rw [hl] at e
  refine ⟨Cu.bitsN l, ?_⟩
  rw [e, Cu.bitsN_snoc, hb]
  simp
/-- the multiplication: what X25519 is -/
noncomputable def mulL (a u : List UInt8) : List UInt8 := fqB (Cu.ladU Cu.fqC (Cu.fq ((numL u % 2 ^ 255 : Nat) : Int)) (bitsOf (clampL a)))
theorem mulL_length (a u : List UInt8) : (mulL a u).length = 32 := fqB_length _
theorem u8_and_lit (x m : UInt8) : bits BinOp.and IntKind.u8 (x.toNat : Int) (m.toNat : Int) = ((x &&& m).toNat : Int) := by
  rw [u8_and_nat _ _ x.toNat_lt m.toNat_lt, UInt8.toNat_and]
theorem u8_or_lit (x m : UInt8) : bits BinOp.or IntKind.u8 (x.toNat : Int) (m.toNat : Int) = ((x ||| m).toNat : Int) := by
  rw [u8_or_nat _ _ x.toNat_lt m.toNat_lt, UInt8.toNat_or]

set_option maxRecDepth 100000 in
theorem refClamp_any (k : List UInt8) (hk : k.length = 32) (w : World) :
    Calls Try.prog 15 #[.agg (k.map u8v).toArray] w fun e w' => e = .returned (.agg ((clampL k).map u8v).toArray) ∧ Below w.heap.size w w' := by
  obtain ⟨ck, hck⟩ : ∃ c, (k.map u8v).toArray = c := ⟨_, rfl⟩
  rw [hck]
  have HM := Lib.hid (show Mem w [blkE (w.heap.size + 1) 23 (aeZ 32), blkE w.heap.size 23 (k.map u8v)] ((w.alloc (.cells ck 23)).alloc (.cells #[.int .u8 0, .int .u8 0, .int .u8 0, .int .u8 0, .int .u8 0, .int .u8 0, .int .u8 0, .int .u8 0, .int .u8 0, .int .u8 0, .int .u8 0, .int .u8 0, .int .u8 0, .int .u8 0, .int .u8 0, .int .u8 0, .int .u8 0, .int .u8 0, .int .u8 0, .int .u8 0, .int .u8 0, .int .u8 0, .int .u8 0, .int .u8 0, .int .u8 0, .int .u8 0, .int .u8 0, .int .u8 0, .int .u8 0, .int .u8 0, .int .u8 0, .int .u8 0] 23)) from ((Mem.nil w).alloc rfl 23 ck (k.map u8v) hck.symm).alloc (by simp) 23 #[.int .u8 0, .int .u8 0, .int .u8 0, .int .u8 0, .int .u8 0, .int .u8 0, .int .u8 0, .int .u8 0, .int .u8 0, .int .u8 0, .int .u8 0, .int .u8 0, .int .u8 0, .int .u8 0, .int .u8 0, .int .u8 0, .int .u8 0, .int .u8 0, .int .u8 0, .int .u8 0, .int .u8 0, .int .u8 0, .int .u8 0, .int .u8 0, .int .u8 0, .int .u8 0, .int .u8 0, .int .u8 0, .int .u8 0, .int .u8 0, .int .u8 0, .int .u8 0] (aeZ 32) rfl)
  have HL := Lib.hid hk
  clear hck hk
  go_enter Try.func15, Try.ntmps15
  go_upto_region 1 with fail
  generalize ((w.alloc (.cells ck 23)).alloc (.cells #[.int .u8 0, .int .u8 0, .int .u8 0, .int .u8 0, .int .u8 0, .int .u8 0, .int .u8 0, .int .u8 0, .int .u8 0, .int .u8 0, .int .u8 0, .int .u8 0, .int .u8 0, .int .u8 0, .int .u8 0, .int .u8 0, .int .u8 0, .int .u8 0, .int .u8 0, .int .u8 0, .int .u8 0, .int .u8 0, .int .u8 0, .int .u8 0, .int .u8 0, .int .u8 0, .int .u8 0, .int .u8 0, .int .u8 0, .int .u8 0, .int .u8 0, .int .u8 0] 23)) = w1 at HM ⊢
  have fx := (HM.out.blk 1 rfl).byt 0 (by rw [HL.out]; omega)
  have zx := (HM.out.blk 1 rfl).frozen 0
  obtain ⟨x, hx⟩ : ∃ x, k.getD 0 0 = x := ⟨_, rfl⟩
  rw [hx] at fx
  have ha := u8_and_lit x 248
  rw [show ((248 : UInt8).toNat : Int) = 248 from rfl] at ha
  have hs1 : (k.map u8v).set 0 (.int .u8 ((x &&& 248).toNat : Int)) = (k.set 0 (x &&& 248)).map u8v := by rw [List.map_set]; rfl
  have HN := Lib.hid (show Mem w [blkE (w.heap.size + 1) 23 (aeZ 32), blkE w.heap.size 23 ((k.set 0 (x &&& 248)).map u8v)] (w1.setCell ⟨w.heap.size, 0, none⟩ (.int .u8 ((x &&& 248).toNat : Int))) from by have h := HM.out.setCell 1 rfl 0 (.int .u8 ((x &&& 248).toNat : Int)); rw [hs1] at h; exact h)
  clear hs1
  generalize hm : x &&& 248 = m at *
  go_upto_region 2 with fail
  clear fx zx ha HM
  generalize w1.setCell ⟨w.heap.size, 0, none⟩ (.int .u8 (m.toNat : Int)) = w2 at HN ⊢
  have fx := (HN.out.blk 1 rfl).byt 31 (by rw [List.length_set, HL.out]; omega)
  have zx := (HN.out.blk 1 rfl).frozen 31
  have e31 : (k.set 0 m).getD 31 0 = k.getD 31 0 := by rw [List.getD_eq_getElem?_getD, List.getElem?_set_ne (by omega), ← List.getD_eq_getElem?_getD]
  rw [e31] at fx
  obtain ⟨y, hy⟩ : ∃ x, k.getD 31 0 = x := ⟨_, rfl⟩
  rw [hy] at fx
  have ha := u8_and_lit y 127
  rw [show ((127 : UInt8).toNat : Int) = 127 from rfl] at ha
  have ho := u8_or_lit (y &&& 127) 64
  rw [show ((64 : UInt8).toNat : Int) = 64 from rfl] at ho
  have hs1 : ((k.set 0 m).map u8v).set 31 (.int .u8 ((y &&& 127 ||| 64).toNat : Int)) = (clampL k).map u8v := by
    rw [clampL, hx, hy, hm, List.map_set (f := u8v) (i := 31)]; rfl
  have HP := Lib.hid (show Mem w [blkE (w.heap.size + 1) 23 (aeZ 32), blkE w.heap.size 23 ((clampL k).map u8v)] (w2.setCell ⟨w.heap.size, 31, none⟩ (.int .u8 ((y &&& 127 ||| 64).toNat : Int))) from by have h := HN.out.setCell 1 rfl 31 (.int .u8 ((y &&& 127 ||| 64).toNat : Int)); rw [hs1] at h; exact h)
  clear hs1 e31 hx hy hm
  generalize hn : y &&& 127 = n at *
  generalize n ||| 64 = o at *
  go_upto_region 3 with fail
  clear fx zx ha ho HN hn
  generalize w2.setCell ⟨w.heap.size, 31, none⟩ (.int .u8 (o.toNat : Int)) = w3 at HP ⊢
  have HLz := Lib.hid (show (clampL k).length = 32 by rw [clampL_length]; exact HL.out)
  obtain ⟨lz, hlz⟩ : ∃ z, clampL k = z := ⟨_, rfl⟩
  rw [hlz] at HP HLz
  have HSZ := Lib.hid hlz
  obtain ⟨cz, hcz⟩ : ∃ c, (lz.map u8v).toArray = c := ⟨_, rfl⟩
  have HCZ := Lib.hid hcz
  clear hcz hlz
  go_wp2_with (first | (refine wpList_load_blk rfl 23 (.tmp 1) rfl w.heap.size rfl 23 (lz.map u8v) (HP.out.blk 1 rfl) 32 5 Try.underlying23 (cells32 lz HLz.out) ?_; rw [HCZ.out]) | (refine wpList_store_blk rfl 23 (.tmp 2) (.tmp 12) rfl (w.heap.size + 1) (lz.map u8v) rfl (by show Value.agg cz = _; rw [HCZ.out]) 23 (aeZ 32) (HP.out.blk 0 rfl) (cells32 lz HLz.out) (by rw [List.length_map, HLz.out]; rfl) (u8v_one _) ?_; intro w9 hb9 hg9))
  exact bodyPost_ret (results_blk rfl _ _ (w.heap.size + 1) 23 (lz.map u8v) 32 5 rfl hb9 Try.underlying23 (cells32 lz HLz.out)) rfl ⟨by rw [HSZ.out], (HP.out.put 0 rfl _ hg9 hb9).bel⟩
end Go.Proofs.Ytgdgecehmnokdaa
