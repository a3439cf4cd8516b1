/-
  blake.Hash and Code of no, one, two and three parts, by what is asked of them. No statement is proved here.
-/
import Derived.Test.YtbochejgjmjieaaDoorBlC
namespace Go.Proofs.YtbochejgjmjieaaDoor
open Go.RowKit

theorem sumB_ok (size : Int) (n : Nat) (hs : size = (n : Int)) (h1 : 1 ≤ n) (h2 : n ≤ 32) (key data : List UInt8) (hk : key.length ≤ 32) : sumB size key data = (hashB n key data, 0) := by
  subst hs
  rw [sumB, if_neg (by omega)]
  rfl
theorem codeB_ok (key data : List UInt8) (hk : key.length ≤ 32) : codeB key data = hashB 16 key data := by
  rw [codeB, if_neg (by omega)]
theorem hash_none (HC : BlHashC)   (w : World) (hlv : LvBlake w)  :
    Calls Tryd.prog 14 #[.slice none 0 0] w fun e w' => e = .returned (.agg ((hashB 32 [] ([])).map u8v).toArray) ∧ Below w.heap.size w w' := by
  have h := HC 0 none [] ⟨by simp, by simp [flat], fun p hp => by cases hp⟩ (Nat.le_refl _) (Nat.zero_le _) w hlv (fun h => absurd h (by simp))
  rw [show flat ([] : List Part) ([] : List Part).length = [] from rfl, show ([] : List Part).length = 0 from rfl] at h
  exact h
theorem hash_one (HC : BlHashC) (g : Nat) (t : TypeId) (A1 : Option Addr) (n1 c1 : Nat) (l1 : List UInt8) (hn1 : n1 ≤ c1) (hc1 : c1 ≤ maxLen) (hs1 : n1 ≤ 10000) (w : World) (hlv : LvBlake w) (hb : Blk w g t [.slice A1 n1 c1]) (hr1 : Rd w w.heap.size A1 n1 l1) :
    Calls Tryd.prog 14 #[.slice (some ⟨g, 0, none⟩) 1 1] w fun e w' => e = .returned (.agg ((hashB 32 [] (l1)).map u8v).toArray) ∧ Below w.heap.size w w' := by
  have hf : flat ([⟨A1, n1, c1, l1⟩] : List Part) 1 = l1 := by simp [flat]
  have ok : PartsOk ([⟨A1, n1, c1, l1⟩] : List Part) := by
    refine ⟨by simp, ?_, fun p hp => ?_⟩
    · show (flat _ 1).length ≤ _
      rw [hf]
      skip
      have := hr1.1
      omega
    · simp only [List.mem_cons, List.not_mem_nil, or_false] at hp
      subst hp
      · exact ⟨hn1, hc1⟩
  have h := HC 1 (some ⟨g, 0, none⟩) [⟨A1, n1, c1, l1⟩] ok (Nat.le_refl _) (by unfold maxLen; omega) w hlv (parts_blk [⟨A1, n1, c1, l1⟩] hb (fun p hp => by
    simp only [List.mem_cons, List.not_mem_nil, or_false] at hp
    subst hp
    · exact hr1))
  rw [show ([⟨A1, n1, c1, l1⟩] : List Part).length = 1 from rfl, hf] at h
  exact h
theorem hash_two (HC : BlHashC) (g : Nat) (t : TypeId) (A1 : Option Addr) (n1 c1 : Nat) (l1 : List UInt8) (A2 : Option Addr) (n2 c2 : Nat) (l2 : List UInt8) (hn1 : n1 ≤ c1) (hc1 : c1 ≤ maxLen) (hs1 : n1 ≤ 10000) (hn2 : n2 ≤ c2) (hc2 : c2 ≤ maxLen) (hs2 : n2 ≤ 10000) (w : World) (hlv : LvBlake w) (hb : Blk w g t [.slice A1 n1 c1, .slice A2 n2 c2]) (hr1 : Rd w w.heap.size A1 n1 l1) (hr2 : Rd w w.heap.size A2 n2 l2) :
    Calls Tryd.prog 14 #[.slice (some ⟨g, 0, none⟩) 2 2] w fun e w' => e = .returned (.agg ((hashB 32 [] (l1 ++ l2)).map u8v).toArray) ∧ Below w.heap.size w w' := by
  have hf : flat ([⟨A1, n1, c1, l1⟩, ⟨A2, n2, c2, l2⟩] : List Part) 2 = l1 ++ l2 := by simp [flat]
  have ok : PartsOk ([⟨A1, n1, c1, l1⟩, ⟨A2, n2, c2, l2⟩] : List Part) := by
    refine ⟨by simp, ?_, fun p hp => ?_⟩
    · show (flat _ 2).length ≤ _
      rw [hf]
      simp only [List.length_append]
      have := hr1.1; have := hr2.1
      omega
    · simp only [List.mem_cons, List.not_mem_nil, or_false] at hp
      rcases hp with rfl | rfl
      · exact ⟨hn1, hc1⟩
      · exact ⟨hn2, hc2⟩
  have h := HC 2 (some ⟨g, 0, none⟩) [⟨A1, n1, c1, l1⟩, ⟨A2, n2, c2, l2⟩] ok (Nat.le_refl _) (by unfold maxLen; omega) w hlv (parts_blk [⟨A1, n1, c1, l1⟩, ⟨A2, n2, c2, l2⟩] hb (fun p hp => by
    simp only [List.mem_cons, List.not_mem_nil, or_false] at hp
    rcases hp with rfl | rfl
    · exact hr1
    · exact hr2))
  rw [show ([⟨A1, n1, c1, l1⟩, ⟨A2, n2, c2, l2⟩] : List Part).length = 2 from rfl, hf] at h
  exact h
theorem hash_three (HC : BlHashC) (g : Nat) (t : TypeId) (A1 : Option Addr) (n1 c1 : Nat) (l1 : List UInt8) (A2 : Option Addr) (n2 c2 : Nat) (l2 : List UInt8) (A3 : Option Addr) (n3 c3 : Nat) (l3 : List UInt8) (hn1 : n1 ≤ c1) (hc1 : c1 ≤ maxLen) (hs1 : n1 ≤ 10000) (hn2 : n2 ≤ c2) (hc2 : c2 ≤ maxLen) (hs2 : n2 ≤ 10000) (hn3 : n3 ≤ c3) (hc3 : c3 ≤ maxLen) (hs3 : n3 ≤ 10000) (w : World) (hlv : LvBlake w) (hb : Blk w g t [.slice A1 n1 c1, .slice A2 n2 c2, .slice A3 n3 c3]) (hr1 : Rd w w.heap.size A1 n1 l1) (hr2 : Rd w w.heap.size A2 n2 l2) (hr3 : Rd w w.heap.size A3 n3 l3) :
    Calls Tryd.prog 14 #[.slice (some ⟨g, 0, none⟩) 3 3] w fun e w' => e = .returned (.agg ((hashB 32 [] (l1 ++ l2 ++ l3)).map u8v).toArray) ∧ Below w.heap.size w w' := by
  have hf : flat ([⟨A1, n1, c1, l1⟩, ⟨A2, n2, c2, l2⟩, ⟨A3, n3, c3, l3⟩] : List Part) 3 = l1 ++ l2 ++ l3 := by simp [flat]
  have ok : PartsOk ([⟨A1, n1, c1, l1⟩, ⟨A2, n2, c2, l2⟩, ⟨A3, n3, c3, l3⟩] : List Part) := by
    refine ⟨by simp, ?_, fun p hp => ?_⟩
    · show (flat _ 3).length ≤ _
      rw [hf]
      simp only [List.length_append]
      have := hr1.1; have := hr2.1; have := hr3.1
      omega
    · simp only [List.mem_cons, List.not_mem_nil, or_false] at hp
      rcases hp with rfl | rfl | rfl
      · exact ⟨hn1, hc1⟩
      · exact ⟨hn2, hc2⟩
      · exact ⟨hn3, hc3⟩
  have h := HC 3 (some ⟨g, 0, none⟩) [⟨A1, n1, c1, l1⟩, ⟨A2, n2, c2, l2⟩, ⟨A3, n3, c3, l3⟩] ok (Nat.le_refl _) (by unfold maxLen; omega) w hlv (parts_blk [⟨A1, n1, c1, l1⟩, ⟨A2, n2, c2, l2⟩, ⟨A3, n3, c3, l3⟩] hb (fun p hp => by
    simp only [List.mem_cons, List.not_mem_nil, or_false] at hp
    rcases hp with rfl | rfl | rfl
    · exact hr1
    · exact hr2
    · exact hr3))
  rw [show ([⟨A1, n1, c1, l1⟩, ⟨A2, n2, c2, l2⟩, ⟨A3, n3, c3, l3⟩] : List Part).length = 3 from rfl, hf] at h
  exact h
end Go.Proofs.YtbochejgjmjieaaDoor
