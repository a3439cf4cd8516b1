/-
  What is asked of the functions of layer 11, by a function's number (the program's or the reference's). No statement is proved here.
-/
import Derived.Test.YtaolhndbpgjlcaaMsMath
namespace Go.Proofs.Ytaolhndbpgjlcaa
open Go.RowKit

def MsKindC (F : Nat) : Prop := ∀ (A : Option Addr) (n c : Nat) (l : List UInt8), n ≤ c → c ≤ maxLen → n ≤ 100000 → ∀ w : World, Rd w w.heap.size A n l →
  Calls Try.prog F #[.slice A n c] w fun e w' => e = .returned (.int .i64 (kindB l : Int)) ∧ Below w.heap.size w w'
def MsEncC (F k : Nat) : Prop := ∀ m : MsgM, m.ok k → ∀ w : World,
  Calls Try.prog F #[.agg m.cells.toArray] w fun e w' => ∃ A c, e = .returned (.slice A (msLen k) c) ∧ msLen k ≤ c ∧ c ≤ maxLen ∧ Rd w' w'.heap.size A (msLen k) (encB k m) ∧ Below w.heap.size w w'
def MsDecC (F k : Nat) : Prop := ∀ (A : Option Addr) (n c : Nat) (l : List UInt8), n ≤ c → c ≤ maxLen → n ≤ 100000 → ∀ w : World, Rd w w.heap.size A n l →
  Calls Try.prog F #[.slice A n c] w fun e w' => e = .returned (.tuple #[.agg (decB k l).1.cells.toArray, .int .i64 ((decB k l).2 : Int)]) ∧ Below w.heap.size w w'
def MsEncTC (F : Nat) : Prop := ∀ (r q : Nat) (A : Option Addr) (n c : Nat) (l : List UInt8), r < 4294967296 → q < 18446744073709551616 → n ≤ c → c ≤ maxLen → n ≤ 100000 → ∀ w : World, Rd w w.heap.size A n l →
  Calls Try.prog F #[.agg #[.int .u32 (r : Int), .int .u64 (q : Int), .slice A n c]] w fun e w' => ∃ A' c', e = .returned (.tuple #[.slice A' (encT ⟨r, q, l⟩).1.length c', .int .i64 ((encT ⟨r, q, l⟩).2 : Int)]) ∧ (encT ⟨r, q, l⟩).1.length ≤ c' ∧ c' ≤ maxLen ∧ Rd w' w'.heap.size A' (encT ⟨r, q, l⟩).1.length (encT ⟨r, q, l⟩).1 ∧ Below w.heap.size w w'
def MsDecTC (F : Nat) : Prop := ∀ (A : Option Addr) (n c : Nat) (l : List UInt8), n ≤ c → c ≤ maxLen → n ≤ 100000 → ∀ w : World, Rd w w.heap.size A n l →
  Calls Try.prog F #[.slice A n c] w fun e w' => ∃ A' c', e = .returned (.tuple #[.agg #[.int .u32 ((decT l).1.r : Int), .int .u64 ((decT l).1.c : Int), .slice A' (decT l).1.body.length c'], .int .i64 ((decT l).2 : Int)]) ∧ Rd w' w'.heap.size A' (decT l).1.body.length (decT l).1.body ∧ Below w.heap.size w w'
end Go.Proofs.Ytaolhndbpgjlcaa
