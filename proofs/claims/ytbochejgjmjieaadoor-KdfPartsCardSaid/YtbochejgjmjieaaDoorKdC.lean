/-
  What is asked of kdf.Hmac and Expand, and Hmac of none, one, two and three parts. No statement is proved here.
-/
import Derived.Test.YtbochejgjmjieaaDoorKdExp
namespace Go.Proofs.YtbochejgjmjieaaDoor
open Go.RowKit

/-- the package-level variables that kdf comes to -/
def LvKdf (w : World) : Prop := LvBlake w
theorem LvKdf.below {w w' : World} (h : LvKdf w) (hb : Below w.heap.size w w') : LvKdf w' := LvBlake.below h hb
theorem LvKdf.blake {w : World} (h : LvKdf w) : LvBlake w := h
def KdHmacC : Prop := ∀ (Ak : Option Addr) (nk ck : Nat) (key : List UInt8), nk ≤ ck → ck ≤ maxLen → nk ≤ 1000 → ∀ (c : Nat) (A : Option Addr) (ps : List Part), ps.length ≤ 50 → (flat ps ps.length).length ≤ 3000 → (∀ p ∈ ps, p.n ≤ p.c ∧ p.c ≤ maxLen) → ps.length ≤ c → c ≤ maxLen → ∀ w : World, LvKdf w → Rd w w.heap.size Ak nk key → PartsRd w w.heap.size A ps →
  Calls Tryd.prog 11 #[.slice Ak nk ck, .slice A ps.length c] w fun e w' => e = .returned (.agg ((hmacB key (flat ps ps.length)).map u8v).toArray) ∧ Below w.heap.size w w'
def KdExpandC : Prop := ∀ (Ak : Option Addr) (nk ck : Nat) (key : List UInt8), nk ≤ ck → ck ≤ maxLen → nk ≤ 1000 → ∀ (Ai : Option Addr) (ni ci : Nat) (inp : List UInt8), ni ≤ ci → ci ≤ maxLen → ni ≤ 1000 → ∀ n : Int, -9223372036854775808 ≤ n → n ≤ 9223372036854775807 → ∀ w : World, LvKdf w → Rd w w.heap.size Ak nk key → Rd w w.heap.size Ai ni inp →
  Calls Tryd.prog 9 #[.slice Ak nk ck, .slice Ai ni ci, .int .i64 n] w fun e w' => ∃ A c', e = .returned (.slice A (expandB key inp n).length c') ∧ w'.ownsRow w.heap.size 30 32 (.slice A (expandB key inp n).length c') (expandB key inp n).length (keysV (expandB key inp n)) ∧ Below w.heap.size w w'
theorem kd_hmac_none (HC : KdHmacC) (Ak : Option Addr) (nk ck : Nat) (key : List UInt8) (h1 : nk ≤ ck) (h2 : ck ≤ maxLen) (h3 : nk ≤ 1000) (w : World) (hlv : LvKdf w) (hrk : Rd w w.heap.size Ak nk key) :
    Calls Tryd.prog 11 #[.slice Ak nk ck, .slice none 0 0] w fun e w' => e = .returned (.agg ((hmacB key []).map u8v).toArray) ∧ Below w.heap.size w w' := by
  have h := HC Ak nk ck key h1 h2 h3 0 none [] (by simp) (by simp [flat]) (fun p hp => by cases hp) (Nat.le_refl _) (Nat.zero_le _) w hlv hrk (fun h => absurd h (by simp))
  rw [show flat ([] : List Part) ([] : List Part).length = [] from rfl, show ([] : List Part).length = 0 from rfl] at h
  exact h
theorem ref_hmac_none (Ak : Option Addr) (nk ck : Nat) (key : List UInt8) (h1 : nk ≤ ck) (h2 : ck ≤ maxLen) (h3 : nk ≤ 1000) (w : World) (hrk : Rd w w.heap.size Ak nk key) :
    Calls Tryd.prog 12 #[.slice Ak nk ck, .slice none 0 0] w fun e w' => e = .returned (.agg ((hmacB key []).map u8v).toArray) ∧ Below w.heap.size w w' := by
  have h := refHmac_any Ak nk ck key h1 h2 h3 0 none [] (by simp) (by simp [flat]) w hrk (fun h => absurd h (by simp))
  rw [show flat ([] : List Part) ([] : List Part).length = [] from rfl, show ([] : List Part).length = 0 from rfl] at h
  exact h
theorem kd_hmac_one (HC : KdHmacC) (Ak : Option Addr) (nk ck : Nat) (key : List UInt8) (h1 : nk ≤ ck) (h2 : ck ≤ maxLen) (h3 : nk ≤ 1000) (g : Nat) (t : TypeId) (A1 : Option Addr) (n1 c1 : Nat) (l1 : List UInt8) (hn1 : n1 ≤ c1) (hc1 : c1 ≤ maxLen) (hs1 : n1 ≤ 1000) (w : World) (hlv : LvKdf w) (hrk : Rd w w.heap.size Ak nk key) (hb : Blk w g t [.slice A1 n1 c1]) (hr1 : Rd w w.heap.size A1 n1 l1) :
    Calls Tryd.prog 11 #[.slice Ak nk ck, .slice (some ⟨g, 0, none⟩) 1 1] w fun e w' => e = .returned (.agg ((hmacB key (l1)).map u8v).toArray) ∧ Below w.heap.size w w' := by
  have hf : flat ([⟨A1, n1, c1, l1⟩] : List Part) 1 = l1 := by simp [flat]
  have h := HC Ak nk ck key h1 h2 h3 1 (some ⟨g, 0, none⟩) [⟨A1, n1, c1, l1⟩] (by simp) (by show (flat _ 1).length ≤ _; rw [hf]; simp only [hr1.1]; omega) (fun p hp => by
    simp only [List.mem_cons, List.not_mem_nil, or_false] at hp
    subst hp
    exact ⟨hn1, hc1⟩) (Nat.le_refl _) (by unfold maxLen; omega) w hlv hrk (parts_blk [⟨A1, n1, c1, l1⟩] hb (fun p hp => by
    simp only [List.mem_cons, List.not_mem_nil, or_false] at hp
    subst hp
    exact hr1))
  rw [show ([⟨A1, n1, c1, l1⟩] : List Part).length = 1 from rfl, hf] at h
  exact h
theorem kd_hmac_two (HC : KdHmacC) (Ak : Option Addr) (nk ck : Nat) (key : List UInt8) (h1 : nk ≤ ck) (h2 : ck ≤ maxLen) (h3 : nk ≤ 1000) (g : Nat) (t : TypeId) (A1 : Option Addr) (n1 c1 : Nat) (l1 : List UInt8) (hn1 : n1 ≤ c1) (hc1 : c1 ≤ maxLen) (hs1 : n1 ≤ 1000) (A2 : Option Addr) (n2 c2 : Nat) (l2 : List UInt8) (hn2 : n2 ≤ c2) (hc2 : c2 ≤ maxLen) (hs2 : n2 ≤ 1000) (w : World) (hlv : LvKdf w) (hrk : Rd w w.heap.size Ak nk key) (hb : Blk w g t [.slice A1 n1 c1, .slice A2 n2 c2]) (hr1 : Rd w w.heap.size A1 n1 l1) (hr2 : Rd w w.heap.size A2 n2 l2) :
    Calls Tryd.prog 11 #[.slice Ak nk ck, .slice (some ⟨g, 0, none⟩) 2 2] w fun e w' => e = .returned (.agg ((hmacB key (l1 ++ l2)).map u8v).toArray) ∧ Below w.heap.size w w' := by
  have hf : flat ([⟨A1, n1, c1, l1⟩, ⟨A2, n2, c2, l2⟩] : List Part) 2 = l1 ++ l2 := by simp [flat]
  have h := HC Ak nk ck key h1 h2 h3 2 (some ⟨g, 0, none⟩) [⟨A1, n1, c1, l1⟩, ⟨A2, n2, c2, l2⟩] (by simp) (by show (flat _ 2).length ≤ _; rw [hf]; simp only [List.length_append, hr1.1, hr2.1]; omega) (fun p hp => by
    simp only [List.mem_cons, List.not_mem_nil, or_false] at hp
    rcases hp with rfl | rfl
    · exact ⟨hn1, hc1⟩
    · exact ⟨hn2, hc2⟩) (Nat.le_refl _) (by unfold maxLen; omega) w hlv hrk (parts_blk [⟨A1, n1, c1, l1⟩, ⟨A2, n2, c2, l2⟩] hb (fun p hp => by
    simp only [List.mem_cons, List.not_mem_nil, or_false] at hp
    rcases hp with rfl | rfl
    · exact hr1
    · exact hr2))
  rw [show ([⟨A1, n1, c1, l1⟩, ⟨A2, n2, c2, l2⟩] : List Part).length = 2 from rfl, hf] at h
  exact h
theorem kd_hmac_three (HC : KdHmacC) (Ak : Option Addr) (nk ck : Nat) (key : List UInt8) (h1 : nk ≤ ck) (h2 : ck ≤ maxLen) (h3 : nk ≤ 1000) (g : Nat) (t : TypeId) (A1 : Option Addr) (n1 c1 : Nat) (l1 : List UInt8) (hn1 : n1 ≤ c1) (hc1 : c1 ≤ maxLen) (hs1 : n1 ≤ 1000) (A2 : Option Addr) (n2 c2 : Nat) (l2 : List UInt8) (hn2 : n2 ≤ c2) (hc2 : c2 ≤ maxLen) (hs2 : n2 ≤ 1000) (A3 : Option Addr) (n3 c3 : Nat) (l3 : List UInt8) (hn3 : n3 ≤ c3) (hc3 : c3 ≤ maxLen) (hs3 : n3 ≤ 1000) (w : World) (hlv : LvKdf w) (hrk : Rd w w.heap.size Ak nk key) (hb : Blk w g t [.slice A1 n1 c1, .slice A2 n2 c2, .slice A3 n3 c3]) (hr1 : Rd w w.heap.size A1 n1 l1) (hr2 : Rd w w.heap.size A2 n2 l2) (hr3 : Rd w w.heap.size A3 n3 l3) :
    Calls Tryd.prog 11 #[.slice Ak nk ck, .slice (some ⟨g, 0, none⟩) 3 3] w fun e w' => e = .returned (.agg ((hmacB key (l1 ++ (l2 ++ l3))).map u8v).toArray) ∧ Below w.heap.size w w' := by
  have hf : flat ([⟨A1, n1, c1, l1⟩, ⟨A2, n2, c2, l2⟩, ⟨A3, n3, c3, l3⟩] : List Part) 3 = l1 ++ (l2 ++ l3) := by simp [flat]
  have h := HC Ak nk ck key h1 h2 h3 3 (some ⟨g, 0, none⟩) [⟨A1, n1, c1, l1⟩, ⟨A2, n2, c2, l2⟩, ⟨A3, n3, c3, l3⟩] (by simp) (by show (flat _ 3).length ≤ _; rw [hf]; simp only [List.length_append, hr1.1, hr2.1, hr3.1]; omega) (fun p hp => by
    simp only [List.mem_cons, List.not_mem_nil, or_false] at hp
    rcases hp with rfl | rfl | rfl
    · exact ⟨hn1, hc1⟩
    · exact ⟨hn2, hc2⟩
    · exact ⟨hn3, hc3⟩) (Nat.le_refl _) (by unfold maxLen; omega) w hlv hrk (parts_blk [⟨A1, n1, c1, l1⟩, ⟨A2, n2, c2, l2⟩, ⟨A3, n3, c3, l3⟩] hb (fun p hp => by
    simp only [List.mem_cons, List.not_mem_nil, or_false] at hp
    rcases hp with rfl | rfl | rfl
    · exact hr1
    · exact hr2
    · exact hr3))
  rw [show ([⟨A1, n1, c1, l1⟩, ⟨A2, n2, c2, l2⟩, ⟨A3, n3, c3, l3⟩] : List Part).length = 3 from rfl, hf] at h
  exact h
theorem kd_first : (tB (hmacB [1] [2]) 1 == List.replicate 32 0) = false := by decide +kernel
end Go.Proofs.YtbochejgjmjieaaDoor
