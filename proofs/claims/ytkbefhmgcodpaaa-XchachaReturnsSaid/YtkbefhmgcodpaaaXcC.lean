/-
  What is asked of xchacha.Derive, Seal and Open. No statement is proved here.
-/
import Derived.Test.YtkbefhmgcodpaaaXcMath
namespace Go.Proofs.Ytkbefhmgcodpaaa
open Go.RowKit

def DeriveC : Prop := ∀ (k inn : List UInt8), k.length = 32 → inn.length = 16 → ∀ w : World,
  Calls Try.prog 7 #[.agg (k.map u8v).toArray, .agg (inn.map u8v).toArray] w fun e w' => e = .returned (.agg ((deriveL k inn).map u8v).toArray) ∧ Below w.heap.size w w'
def XSealC : Prop := ∀ (k n : List UInt8), k.length = 32 → n.length = 24 → ∀ (Ap Am : Option Addr) (np cp nm cm : Nat) (pl more : List UInt8), np ≤ cp → cp ≤ maxLen → nm ≤ cm → cm ≤ maxLen → np ≤ 100000 → nm ≤ 100000 → ∀ w : World, Rd w w.heap.size Ap np pl → Rd w w.heap.size Am nm more →
  Calls Try.prog 9 #[.agg (k.map u8v).toArray, .agg (n.map u8v).toArray, .slice Ap np cp, .slice Am nm cm] w fun e w' => ∃ A c', e = .returned (.slice A (np + 16) c') ∧ w'.ownsRow w.heap.size 5 1 (.slice A (np + 16) c') (np + 16) ((xsealL k n pl more).map u8v) ∧ Below w.heap.size w w'
def XOpenC : Prop := ∀ (k n : List UInt8), k.length = 32 → n.length = 24 → ∀ (As Am : Option Addr) (ns cs nm cm : Nat) (sl more : List UInt8), ns ≤ cs → cs ≤ maxLen → nm ≤ cm → cm ≤ maxLen → ns ≤ 100000 → nm ≤ 100000 → ∀ w : World, Rd w w.heap.size As ns sl → Rd w w.heap.size Am nm more →
  Calls Try.prog 10 #[.agg (k.map u8v).toArray, .agg (n.map u8v).toArray, .slice As ns cs, .slice Am nm cm] w fun e w' => ∃ A c', e = .returned (.tuple #[.slice A (xopenL k n sl more).1.length c', .int .i64 ((xopenL k n sl more).2 : Int)]) ∧ Rd w' w'.heap.size A (xopenL k n sl more).1.length (xopenL k n sl more).1 ∧ (xopenL k n sl more).1.length ≤ c' ∧ c' ≤ maxLen ∧ Below w.heap.size w w'
end Go.Proofs.Ytkbefhmgcodpaaa
