/-
  The contracts of math/bits.RotateLeft32 at the distances of BLAKE2s, and of blake.mix. No statement is proved here.
-/
import Derived.Test.YtbochejgjmjieaaDoorRot
import Derived.Test.YtbochejgjmjieaaDoorBlMath
namespace Go.Proofs.YtbochejgjmjieaaDoor
open Go.RowKit

set_option maxRecDepth 100000 in
theorem rotneg_any (x : UInt32) (n : Nat) (h : n = 16 ∨ n = 12 ∨ n = 8 ∨ n = 7) (w : World) :
    Calls Tryd.prog 38 #[.int .u32 (x.toNat : Int), .int .i64 (-(n : Int))] w fun e w' => e = .returned (.int .u32 ((rotr x n).toNat : Int)) ∧ w = w' := by
  have hx : x.toNat < 4294967296 := x.toNat_lt
  rcases h with rfl | rfl | rfl | rfl
  · have HR := u32_rotl x 16 (by omega) (by omega)
    simp only [show (2 : Int) ^ 16 = 65536 from rfl] at HR
    rw [show rotl x 16 = rotr x 16 from (rotr_rotl x 16 (by omega) (by omega)).symm] at HR
    have HR2 := Lib.hid HR
    clear HR
    have hb : bits BinOp.and IntKind.u64 (IntKind.u64.wrap (-16)) 31 = 16 := by decide
    rw [show -((16 : Nat) : Int) = -16 from rfl]
    go_enter Tryd.func38, Tryd.ntmps38
    go_wp2
    rw [HR2.out]
    go_ret
    exact ⟨rfl, rfl⟩
  · have HR := u32_rotl x 20 (by omega) (by omega)
    simp only [show (2 : Int) ^ 20 = 1048576 from rfl, show (2 : Int) ^ (32 - 20) = 4096 from rfl] at HR
    rw [show rotl x 20 = rotr x 12 from (rotr_rotl x 12 (by omega) (by omega)).symm] at HR
    have HR2 := Lib.hid HR
    clear HR
    have hb : bits BinOp.and IntKind.u64 (IntKind.u64.wrap (-12)) 31 = 20 := by decide
    rw [show -((12 : Nat) : Int) = -12 from rfl]
    go_enter Tryd.func38, Tryd.ntmps38
    go_wp2
    rw [HR2.out]
    go_ret
    exact ⟨rfl, rfl⟩
  · have HR := u32_rotl x 24 (by omega) (by omega)
    simp only [show (2 : Int) ^ 24 = 16777216 from rfl, show (2 : Int) ^ (32 - 24) = 256 from rfl] at HR
    rw [show rotl x 24 = rotr x 8 from (rotr_rotl x 8 (by omega) (by omega)).symm] at HR
    have HR2 := Lib.hid HR
    clear HR
    have hb : bits BinOp.and IntKind.u64 (IntKind.u64.wrap (-8)) 31 = 24 := by decide
    rw [show -((8 : Nat) : Int) = -8 from rfl]
    go_enter Tryd.func38, Tryd.ntmps38
    go_wp2
    rw [HR2.out]
    go_ret
    exact ⟨rfl, rfl⟩
  · have HR := u32_rotl x 25 (by omega) (by omega)
    simp only [show (2 : Int) ^ 25 = 33554432 from rfl, show (2 : Int) ^ (32 - 25) = 128 from rfl] at HR
    rw [show rotl x 25 = rotr x 7 from (rotr_rotl x 7 (by omega) (by omega)).symm] at HR
    have HR2 := Lib.hid HR
    clear HR
    have hb : bits BinOp.and IntKind.u64 (IntKind.u64.wrap (-7)) 31 = 25 := by decide
    rw [show -((7 : Nat) : Int) = -7 from rfl]
    go_enter Tryd.func38, Tryd.ntmps38
    go_wp2
    rw [HR2.out]
    go_ret
    exact ⟨rfl, rfl⟩

theorem rotneg_any' (v : Int) (n : Nat) (x : UInt32) (hv : v = (x.toNat : Int)) (h : n = 16 ∨ n = 12 ∨ n = 8 ∨ n = 7) (w : World) :
    Calls Tryd.prog 38 #[.int .u32 v, .int .i64 (-(n : Int))] w fun e w' => e = .returned (.int .u32 ((rotr x n).toNat : Int)) ∧ w = w' := by
  rw [hv]
  exact rotneg_any x n h w
/-- four words, mixed with two words of the message -/
def mixT (x : UInt32 × UInt32 × UInt32 × UInt32) (p q : UInt32) : UInt32 × UInt32 × UInt32 × UInt32 :=
  let (a, b, c, d) := x
  let a1 := a + b + p
  let d1 := rotr (d ^^^ a1) 16
  let c1 := c + d1
  let b1 := rotr (b ^^^ c1) 12
  let a2 := a1 + b1 + q
  let d2 := rotr (d1 ^^^ a2) 8
  let c2 := c1 + d2
  (a2, rotr (b1 ^^^ c2) 7, c2, d2)
theorem u32_add3 (x y z : UInt32) : x + y + z = x + (y + z) := by
  apply UInt32.toNat.inj
  rw [UInt32.toNat_add, UInt32.toNat_add, UInt32.toNat_add, UInt32.toNat_add]
  omega

set_option maxRecDepth 100000 in
theorem bpMix_any (a b c d p q bp bq a1 d1 c1 b1 a2 d2 c2 b2 : UInt32) (e0 : b + p = bp) (e1 : a + bp = a1) (e2 : rotr (d ^^^ a1) 16 = d1) (e3 : c + d1 = c1) (e4 : rotr (b ^^^ c1) 12 = b1) (e50 : b1 + q = bq) (e5 : a1 + bq = a2) (e6 : rotr (d1 ^^^ a2) 8 = d2) (e7 : c1 + d2 = c2) (e8 : rotr (b1 ^^^ c2) 7 = b2) (w : World) :
    Calls Tryd.prog 37 #[.int .u32 (a.toNat : Int), .int .u32 (b.toNat : Int), .int .u32 (c.toNat : Int), .int .u32 (d.toNat : Int), .int .u32 (p.toNat : Int), .int .u32 (q.toNat : Int)] w fun e w' => e = .returned (.tuple #[.int .u32 (a2.toNat : Int), .int .u32 (b2.toNat : Int), .int .u32 (c2.toNat : Int), .int .u32 (d2.toNat : Int)]) ∧ w = w' := by
  have s0 := u32_sum b p
  have s1 := u32_sum a bp
  have x1 := u32_xor d a1
  have s2 := u32_sum c d1
  have x2 := u32_xor b c1
  have s30 := u32_sum b1 q
  have s3 := u32_sum a1 bq
  have x3 := u32_xor d1 a2
  have s4 := u32_sum c1 d2
  have x4 := u32_xor b1 c2
  rw [e0] at s0
  rw [e1] at s1
  rw [e3] at s2
  rw [e50] at s30
  rw [e5] at s3
  rw [e7] at s4
  go_enter Tryd.func37, Tryd.ntmps37
  go_wp2_with fail
  refine (rotneg_any' _ 16 (d ^^^ a1) (by rw [UInt32.toNat_xor]) (by omega) _).mono ?_
  rintro e w1 ⟨rfl, rfl⟩
  rw [e2]
  go_wp2_with fail
  refine (rotneg_any' _ 12 (b ^^^ c1) (by rw [UInt32.toNat_xor]) (by omega) _).mono ?_
  rintro e w1 ⟨rfl, rfl⟩
  rw [e4]
  go_wp2_with fail
  refine (rotneg_any' _ 8 (d1 ^^^ a2) (by rw [UInt32.toNat_xor]) (by omega) _).mono ?_
  rintro e w1 ⟨rfl, rfl⟩
  rw [e6]
  go_wp2_with fail
  refine (rotneg_any' _ 7 (b1 ^^^ c2) (by rw [UInt32.toNat_xor]) (by omega) _).mono ?_
  rintro e w1 ⟨rfl, rfl⟩
  rw [e8]
  go_wp2_with fail
  refine bodyPost_ret (results_tmp4 rfl _ _ _) rfl ⟨rfl, rfl⟩
set_option maxRecDepth 100000 in
theorem bpMix_of {a b c d p q a2 b2 c2 d2 : UInt32} (h : mixT (a, b, c, d) p q = (a2, b2, c2, d2)) (w : World) :
    Calls Tryd.prog 37 #[.int .u32 (a.toNat : Int), .int .u32 (b.toNat : Int), .int .u32 (c.toNat : Int), .int .u32 (d.toNat : Int), .int .u32 (p.toNat : Int), .int .u32 (q.toNat : Int)] w fun e w' => e = .returned (.tuple #[.int .u32 (a2.toNat : Int), .int .u32 (b2.toNat : Int), .int .u32 (c2.toNat : Int), .int .u32 (d2.toNat : Int)]) ∧ w = w' := by
  simp only [mixT, Prod.mk.injEq] at h
  obtain ⟨rfl, rfl, rfl, rfl⟩ := h
  exact bpMix_any a b c d p q _ _ _ _ _ _ _ _ _ _ rfl (u32_add3 a b p).symm rfl rfl rfl rfl (u32_add3 _ _ q).symm rfl rfl rfl w
/-- mixing at four different places is setting them to what mixT gives -/
theorem mixB_mixT (v : List UInt32) (hv : v.length = 16) (a b c d : Nat) (ha : a < 16) (hb : b < 16) (hc : c < 16) (hd : d < 16) (hab : a ≠ b) (hac : a ≠ c) (had : a ≠ d) (hbc : b ≠ c) (hbd : b ≠ d) (hcd : c ≠ d) (p q : UInt32) :
    mixB v a b c d p q = let r := mixT (wd v a, wd v b, wd v c, wd v d) p q; (((v.set a r.1).set b r.2.1).set c r.2.2.1).set d r.2.2.2 := by
  have hs : ∀ (l : List UInt32) (i j : Nat) (x : UInt32), i ≠ j → wd (l.set i x) j = wd l j := by
    intro l i j x h
    simp [wd, List.getD, List.getElem?_set_ne h]
  have hg : ∀ (l : List UInt32) (i : Nat) (x : UInt32), l.length = 16 → i < 16 → wd (l.set i x) i = x := by
    intro l i x hl hi
    simp [wd, List.getD, hl, hi]
  have hab' := hab.symm
  have hac' := hac.symm
  have had' := had.symm
  have hbc' := hbc.symm
  have hbd' := hbd.symm
  have hcd' := hcd.symm
  simp only [mixB, addX, addW, xrot, mixT]
  simp only [hs, hg, List.length_set, hv, ha, hb, hc, hd, hab, hac, had, hbc, hbd, hcd, hab', hac', had', hbc', hbd', hcd', ne_eq, not_false_eq_true]
  apply List.ext_getElem?
  intro i
  simp only [List.getElem?_set, List.length_set, hv]
  by_cases h1 : d = i <;> by_cases h2 : c = i <;> by_cases h3 : b = i <;> by_cases h4 : a = i <;> simp_all
end Go.Proofs.YtbochejgjmjieaaDoor
