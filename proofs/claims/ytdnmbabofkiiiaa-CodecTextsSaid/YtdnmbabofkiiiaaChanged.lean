/-
  What the laws' own change of one byte means: the changed list is the old one exactly if the byte that is combined is 0. No statement is proved here.
-/
import Derived.Test.YtdnmbabofkiiiaaMem
import Derived.Laws.BitsAllLaws
namespace Go.Proofs.Ytdnmbabofkiiiaa
open Go.RowKit
/-- the law's own change of one byte: equal exactly if the byte that is combined is 0 -/
theorem changed_eq (la : List UInt8) (p : Nat) (hp : p < la.length) (x z : UInt8) (y : Nat) (hy : y ≤ 255) (hx : la[p] = x) (hz : UInt8.ofNat (x.toNat ^^^ y) = z) : (la == la.set p z) = ((y : Int) == 0) := by
  rw [Bool.eq_iff_iff, beq_iff_eq, beq_iff_eq]
  have hzn : z.toNat = x.toNat ^^^ y := by
    rw [← hz, UInt8.toNat_ofNat', Nat.mod_eq_of_lt (Nat.xor_lt_two_pow (n := 8) x.toNat_lt (by omega))]
  constructor
  · intro h
    have h1 : la[p] = (la.set p z)[p]'(by simpa using hp) := by
      have := congrArg (fun q : List UInt8 => q[p]?) h
      simp only [List.getElem?_eq_getElem hp] at this
      rw [List.getElem?_eq_getElem (by simpa using hp)] at this
      exact Option.some.inj this
    rw [List.getElem_set_self, hx] at h1
    rw [← h1] at hzn
    have : (x.toNat ^^^ (x.toNat ^^^ y)) = 0 := by rw [← hzn]; simp
    rw [← Nat.xor_assoc, Nat.xor_self, Nat.zero_xor] at this
    omega
  · intro h
    have h0 : y = 0 := by omega
    subst h0
    have : z = x := UInt8.toNat_inj.1 (by rw [hzn]; simp)
    rw [this, ← hx, List.set_getElem_self]
end Go.Proofs.Ytdnmbabofkiiiaa
