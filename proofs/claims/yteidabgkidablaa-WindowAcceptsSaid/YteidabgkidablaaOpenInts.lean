/-
  How an argument that is a slice of numbers is opened. No statement is proved here.
-/
import Derived.Test.YteidabgkidablaaOpenRows
import Derived.Test.YteidabgkidablaaInts
namespace Go.Proofs.Yteidabgkidablaa
open Go.RowKit Go.ChangeShapes Go.WideShapes Go.ChangeAt

theorem ints_of {k : IntKind} {R : Int → Prop} : ∀ {os : List (List Value)}, (∀ o ∈ os, ∃ x : Int, o = [.int k x] ∧ R x) → ∃ l : List Int, os = intsV k l ∧ ∀ x ∈ l, R x
  | [], _ => ⟨[], rfl, by simp⟩
  | o :: os, h => by
    obtain ⟨x, rfl, hx⟩ := h o (List.mem_cons_self ..)
    obtain ⟨l, rfl, hl⟩ := ints_of (fun o ho => h o (List.mem_cons_of_mem _ ho))
    exact ⟨x :: l, rfl, fun q hq => by
      rcases List.mem_cons.1 hq with rfl | hq
      · exact hx
      · exact hl q hq⟩
theorem open_nums {H : Type} {enc : TypeId × Value → H} {P : Program} {W : World} {r : Reach} {b0 : Nat} {t e : TypeId} {k : IntKind} {v : Value} {d : DataW H} {p : List MemPlace} (ht : P.underlying t = some (.slice e)) (he : P.underlying e = some (.int k)) (hc : P.cellsOf e = 1) (hv : Value.okWide P W r b0 t v) (h : DataW.Trod enc P W 0 (fun _ => true) true t v d p) :
    ∃ A len cap l, v = .slice A len cap ∧ len ≤ cap ∧ cap ≤ maxLen ∧ IntRd k W W.heap.size A len l ∧ ∀ x ∈ l, (Lit.int k x).wf = true := by
  obtain ⟨A, len, cap, os, hv2, h1, h2, h3, h4⟩ := open_objs ht 1 hc (by omega) (fun cs => ∃ x : Int, cs = [.int k x] ∧ (Lit.int k x).wf = true) (fun _ _ _ h => by
    obtain ⟨n, h1, _, hw⟩ := DataW.trod_int he h
    exact ⟨n, h1, hw⟩) hv h
  obtain ⟨l, rfl, hl⟩ := ints_of h4
  exact ⟨A, len, cap, l, hv2, h1, h2, h3, hl⟩
end Go.Proofs.Yteidabgkidablaa
