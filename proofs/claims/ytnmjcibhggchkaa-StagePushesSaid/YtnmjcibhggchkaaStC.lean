/-
  What is asked of the functions of package stage. No statement is proved here.
-/
import Derived.Test.YtnmjcibhggchkaaPks
namespace Go.Proofs.Ytnmjcibhggchkaa
open Go.RowKit

/-- the list behind a packet, and how many were left out -/
def pushM (ls : List (List UInt8)) (cap : Int) (x : List UInt8) : List (List UInt8) × Nat :=
  ((ls ++ [x]).drop ((ls ++ [x]).length - (max cap 0).toNat), (ls ++ [x]).length - (max cap 0).toNat)
def sumB (ls : List (List UInt8)) : Nat := (ls.map List.length).sum
/-- a list of packets that is handed in -/
structure PkArg (W : World) (A : Option Addr) (n c : Nat) (ps : List Part) : Prop where
  le : n ≤ c
  cap : c ≤ maxLen
  few : n ≤ 1000
  rd : PkRd W W.heap.size A n ps
  small : ∀ p ∈ ps, p.n ≤ 100000
theorem PkArg.below {W W' : World} {A : Option Addr} {n c : Nat} {ps : List Part} (h : PkArg W A n c ps) (hb : Below W.heap.size W W') : PkArg W' A n c ps := ⟨h.le, h.cap, h.few, (h.rd.below hb).mono hb.size, h.small⟩
/-- and a list that comes back -/
def PkRes (W : World) (A : Option Addr) (n c : Nat) (qs : List Part) : Prop := n ≤ c ∧ c ≤ maxLen ∧ PkRd W W.heap.size A n qs
def StPushC (F : Nat) : Prop := ∀ (A : Option Addr) (n c : Nat) (ps : List Part) (cap : Int) (p : Part) (w : World), PkArg w A n c ps → PkOk w w.heap.size p → p.n ≤ 100000 → -9223372036854775808 ≤ cap → cap ≤ 9223372036854775807 →
  Calls Try.prog F #[.slice A n c, .int .i64 cap, .slice p.A p.n p.c] w fun e w' => ∃ A' n' c' qs, e = .returned (.tuple #[.slice A' n' c', .int .i64 (((pushM (psB ps) cap p.l).2 : Nat) : Int)]) ∧ PkRes w' A' n' c' qs ∧ psB qs = (pushM (psB ps) cap p.l).1 ∧ Below w.heap.size w w'
def StPopC (F : Nat) : Prop := ∀ (A : Option Addr) (n c : Nat) (ps : List Part) (w : World), PkArg w A n c ps →
  Calls Try.prog F #[.slice A n c] w fun e w' => ∃ p A' n' c' qs, e = .returned (.tuple #[.slice p.A p.n p.c, .slice A' n' c', .bool (decide (0 < n))]) ∧ PkOk w' w'.heap.size p ∧ PkRes w' A' n' c' qs ∧ p.l = ((psB ps).head?).getD [] ∧ psB qs = (psB ps).tail ∧ Below w.heap.size w w'
def StSizeC (F : Nat) : Prop := ∀ (A : Option Addr) (n c : Nat) (ps : List Part) (w : World), PkArg w A n c ps →
  Calls Try.prog F #[.slice A n c] w fun e w' => e = .returned (.int .i64 (sumB (psB ps) : Int)) ∧ Below w.heap.size w w'
theorem PkRes.arg {W : World} {A : Option Addr} {n c : Nat} {qs : List Part} (h : PkRes W A n c qs) (hn : n ≤ 1000) (hs : ∀ l ∈ psB qs, l.length ≤ 100000) : PkArg W A n c qs :=
  ⟨h.1, h.2.1, hn, h.2.2, fun p hp => by rw [← (h.2.2.2 p hp).len]; exact hs _ (List.mem_map_of_mem hp)⟩
theorem PkRes.len {W : World} {A : Option Addr} {n c : Nat} {qs : List Part} (h : PkRes W A n c qs) : (psB qs).length = n := by rw [psB_len, h.2.2.len]
theorem PkRes.below {W W' : World} {A : Option Addr} {n c : Nat} {qs : List Part} (h : PkRes W A n c qs) (hb : Below W.heap.size W W') : PkRes W' A n c qs := ⟨h.1, h.2.1, (h.2.2.below hb).mono hb.size⟩
end Go.Proofs.Ytnmjcibhggchkaa
