/-
  The reference's Hash and Code of no part and of two. No statement is proved here.
-/
import Derived.Test.YtbochejgjmjieaaDoorBlUse
import Derived.Test.YtbochejgjmjieaaDoorBlHash
namespace Go.Proofs.YtbochejgjmjieaaDoor
open Go.RowKit

theorem ref_hash_none   (w : World)  :
    Calls Tryd.prog 17 #[.slice none 0 0] w fun e w' => e = .returned (.agg ((hashB 32 [] ([])).map u8v).toArray) ∧ Below w.heap.size w w' := by
  have h := refHash_any 0 none [] (by simp) (by simp [flat]) w (fun h => absurd h (by simp))
  rw [show flat ([] : List Part) ([] : List Part).length = [] from rfl, show ([] : List Part).length = 0 from rfl] at h
  exact h
theorem ref_hash_one (g : Nat) (t : TypeId) (A1 : Option Addr) (n1 c1 : Nat) (l1 : List UInt8) (hn1 : n1 ≤ c1) (hc1 : c1 ≤ maxLen) (hs1 : n1 ≤ 10000) (w : World) (hb : Blk w g t [.slice A1 n1 c1]) (hr1 : Rd w w.heap.size A1 n1 l1) :
    Calls Tryd.prog 17 #[.slice (some ⟨g, 0, none⟩) 1 1] w fun e w' => e = .returned (.agg ((hashB 32 [] (l1)).map u8v).toArray) ∧ Below w.heap.size w w' := by
  have hf : flat ([⟨A1, n1, c1, l1⟩] : List Part) 1 = l1 := by simp [flat]
  have ok : PartsOk ([⟨A1, n1, c1, l1⟩] : List Part) := by
    refine ⟨by simp, ?_, fun p hp => ?_⟩
    · show (flat _ 1).length ≤ _
      rw [hf]
      skip
      have := hr1.1
      omega
    · simp only [List.mem_cons, List.not_mem_nil, or_false] at hp
      subst hp
      · exact ⟨hn1, hc1⟩
  have h := refHash_any 1 (some ⟨g, 0, none⟩) [⟨A1, n1, c1, l1⟩] (by simp) (Nat.le_trans ok.2.1 (by omega)) w (parts_blk [⟨A1, n1, c1, l1⟩] hb (fun p hp => by
    simp only [List.mem_cons, List.not_mem_nil, or_false] at hp
    subst hp
    · exact hr1))
  rw [show ([⟨A1, n1, c1, l1⟩] : List Part).length = 1 from rfl, hf] at h
  exact h
theorem ref_hash_two (g : Nat) (t : TypeId) (A1 : Option Addr) (n1 c1 : Nat) (l1 : List UInt8) (A2 : Option Addr) (n2 c2 : Nat) (l2 : List UInt8) (hn1 : n1 ≤ c1) (hc1 : c1 ≤ maxLen) (hs1 : n1 ≤ 10000) (hn2 : n2 ≤ c2) (hc2 : c2 ≤ maxLen) (hs2 : n2 ≤ 10000) (w : World) (hb : Blk w g t [.slice A1 n1 c1, .slice A2 n2 c2]) (hr1 : Rd w w.heap.size A1 n1 l1) (hr2 : Rd w w.heap.size A2 n2 l2) :
    Calls Tryd.prog 17 #[.slice (some ⟨g, 0, none⟩) 2 2] w fun e w' => e = .returned (.agg ((hashB 32 [] (l1 ++ l2)).map u8v).toArray) ∧ Below w.heap.size w w' := by
  have hf : flat ([⟨A1, n1, c1, l1⟩, ⟨A2, n2, c2, l2⟩] : List Part) 2 = l1 ++ l2 := by simp [flat]
  have ok : PartsOk ([⟨A1, n1, c1, l1⟩, ⟨A2, n2, c2, l2⟩] : List Part) := by
    refine ⟨by simp, ?_, fun p hp => ?_⟩
    · show (flat _ 2).length ≤ _
      rw [hf]
      simp only [List.length_append]
      have := hr1.1; have := hr2.1
      omega
    · simp only [List.mem_cons, List.not_mem_nil, or_false] at hp
      rcases hp with rfl | rfl
      · exact ⟨hn1, hc1⟩
      · exact ⟨hn2, hc2⟩
  have h := refHash_any 2 (some ⟨g, 0, none⟩) [⟨A1, n1, c1, l1⟩, ⟨A2, n2, c2, l2⟩] (by simp) (Nat.le_trans ok.2.1 (by omega)) w (parts_blk [⟨A1, n1, c1, l1⟩, ⟨A2, n2, c2, l2⟩] hb (fun p hp => by
    simp only [List.mem_cons, List.not_mem_nil, or_false] at hp
    rcases hp with rfl | rfl
    · exact hr1
    · exact hr2))
  rw [show ([⟨A1, n1, c1, l1⟩, ⟨A2, n2, c2, l2⟩] : List Part).length = 2 from rfl, hf] at h
  exact h
end Go.Proofs.YtbochejgjmjieaaDoor
