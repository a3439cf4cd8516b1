/-
  How an argument that is a slice of slices of bytes is opened. No statement is proved here.
-/
import Derived.Test.YtnmjcibhggchkaaOpenRows
import Derived.Test.YtnmjcibhggchkaaOpenMB
import Derived.Test.YtnmjcibhggchkaaPks
namespace Go.Proofs.Ytnmjcibhggchkaa
open Go.RowKit Go.ChangeShapes Go.WideShapes Go.ChangeAt

theorem pks_of {R : Part → Prop} : ∀ {os : List (List Value)}, (∀ o ∈ os, ∃ p : Part, o = [pkV p] ∧ R p) → ∃ l : List Part, os = pksV l ∧ ∀ p ∈ l, R p
  | [], _ => ⟨[], rfl, by simp⟩
  | o :: os, h => by
    obtain ⟨r, rfl, hr⟩ := h o (List.mem_cons_self ..)
    obtain ⟨l, rfl, hl⟩ := pks_of (fun o ho => h o (List.mem_cons_of_mem _ ho))
    exact ⟨r :: l, rfl, fun q hq => by
      rcases List.mem_cons.1 hq with rfl | hq
      · exact hr
      · exact hl q hq⟩
theorem open_pks {H : Type} {enc : TypeId × Value → H} {W : World} {r : Reach} {b0 : Nat} {v : Value} {d : DataW H} {p : List MemPlace} (hv : Value.okWide Try.prog W r b0 22 v) (h : DataW.Trod enc Try.prog W 0 (fun _ => true) true 22 v d p) :
    ∃ A len cap ps, v = .slice A len cap ∧ len ≤ cap ∧ cap ≤ maxLen ∧ PkRd W W.heap.size A len ps := by
  obtain ⟨A, len, cap, os, hv2, h1, h2, h3, h4⟩ := open_objs Try.underlying22 1 (by kernel_rfl) (by omega) (fun cs => ∃ p : Part, cs = [pkV p] ∧ PkOk W W.heap.size p) (fun _ _ _ h => by
    obtain ⟨A, len, cap, l, hcs, hl, hm, hr⟩ := slice_cells Try.underlying23 Try.underlying5 (by kernel_rfl) h
    exact ⟨Part.mk A len cap l, hcs, hr, hl, hm⟩) hv h
  obtain ⟨l, rfl, hl⟩ := pks_of h4
  exact ⟨A, len, cap, l, hv2, h1, h2, h3, hl⟩
end Go.Proofs.Ytnmjcibhggchkaa
