/-
  What is asked of the six functions of inner. No statement is proved here.
-/
import Derived.Test.YtdpdalkeafkhkaaInRef2
import Derived.Test.YtdpdalkeafkhkaaInRef3
import Derived.Test.YtdpdalkeafkhkaaInLits
namespace Go.Proofs.Ytdpdalkeafkhkaa
open Go.RowKit

def InCheckC : Prop := ∀ (A : Option Addr) (n c : Nat) (l : List UInt8), n ≤ c → c ≤ maxLen → n ≤ 100000 → ∀ w : World, Rd w w.heap.size A n l →
  Calls Try.prog 9 #[.slice A n c] w fun e w' => e = .returned (.tuple #[.agg (checkB l).1.cells.toArray, .int .i64 ((checkB l).2 : Int)]) ∧ Below w.heap.size w w'
def InPadC : Prop := ∀ (A : Option Addr) (n c : Nat) (l : List UInt8), n ≤ c → c ≤ maxLen → n ≤ 100000 → ∀ w : World, Rd w w.heap.size A n l →
  Calls Try.prog 13 #[.slice A n c] w fun e w' => ∃ A' c', e = .returned (.slice A' (padB l).length c') ∧ (padB l).length ≤ c' ∧ c' ≤ maxLen ∧ Rd w' w'.heap.size A' (padB l).length (padB l) ∧ Below w.heap.size w w'
def InTrimC : Prop := ∀ (A : Option Addr) (n c : Nat) (l : List UInt8), n ≤ c → c ≤ maxLen → n ≤ 100000 → ∀ w : World, Rd w w.heap.size A n l →
  Calls Try.prog 11 #[.slice A n c] w fun e w' => ∃ A' c', e = .returned (.tuple #[.slice A' (trimB l).1.length c', .int .i64 ((trimB l).2 : Int)]) ∧ Rd w' w'.heap.size A' (trimB l).1.length (trimB l).1 ∧ Below w.heap.size w w'
def InValidC : Prop := ∀ (a : AddrM) (bits : Int), a.ok → -9223372036854775808 ≤ bits → bits ≤ 9223372036854775807 → ∀ w : World,
  Calls Try.prog 21 #[.agg (prefC a bits).toArray] w fun e w' => e = .returned (.bool (validM a bits)) ∧ Below w.heap.size w w'
def InContainsC : Prop := ∀ (a : AddrM) (bits : Int), a.ok → -9223372036854775808 ≤ bits → bits ≤ 9223372036854775807 → ∀ x : AddrM, x.ok → ∀ w : World,
  Calls Try.prog 19 #[.agg (prefC a bits).toArray, .agg x.cells.toArray] w fun e w' => e = .returned (.bool (containsM a bits x)) ∧ Below w.heap.size w w'
def InLessC : Prop := ∀ (a b : AddrM), a.ok → b.ok → ∀ w : World,
  Calls Try.prog 23 #[.agg a.cells.toArray, .agg b.cells.toArray] w fun e w' => e = .returned (.bool (lessM a b)) ∧ Below w.heap.size w w'
end Go.Proofs.Ytdpdalkeafkhkaa
