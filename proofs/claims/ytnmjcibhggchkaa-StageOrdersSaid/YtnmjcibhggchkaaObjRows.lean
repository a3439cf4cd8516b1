/-
  Rows of objects of one size that lie one after the other. No function of the program is named here.
-/
import Derived.Test.YtnmjcibhggchkaaObj
import Derived.Test.YtnmjcibhggchkaaEnt
namespace Go.Proofs.Ytnmjcibhggchkaa
open Go.RowKit

theorem flat_length {k : Nat} : ∀ {os : List (List Value)}, (∀ o ∈ os, o.length = k) → os.flatten.length = os.length * k
  | [], _ => by simp
  | o :: r, h => by
    rw [List.flatten_cons, List.length_append, h o (List.mem_cons_self ..), flat_length (fun x hx => h x (List.mem_cons_of_mem _ hx)), List.length_cons, Nat.succ_mul, Nat.add_comm]
theorem flat_at {k : Nat} : ∀ {os : List (List Value)}, (∀ o ∈ os, o.length = k) → ∀ (i : Nat) (o : List Value), os[i]? = some o → ∀ (j : Nat) (v : Value), o[j]? = some v → os.flatten[i * k + j]? = some v
  | [], _, i, o, hi, _, _, _ => by simp at hi
  | a :: r, h, 0, o, hi, j, v, hj => by
    simp only [List.getElem?_cons_zero, Option.some.injEq] at hi
    subst hi
    rw [List.flatten_cons, Nat.zero_mul, Nat.zero_add, List.getElem?_append_left (List.getElem?_eq_some_iff.1 hj).1]
    exact hj
  | a :: r, h, i + 1, o, hi, j, v, hj => by
    have ha := h a (List.mem_cons_self ..)
    rw [List.flatten_cons, List.getElem?_append_right (by rw [ha, Nat.succ_mul]; omega), ha, show (i + 1) * k + j - k = i * k + j from by rw [Nat.succ_mul]; omega]
    exact flat_at (fun x hx => h x (List.mem_cons_of_mem _ hx)) i o (by simpa using hi) j v hj
theorem flat_drop {k : Nat} : ∀ (n : Nat) {os : List (List Value)}, (∀ o ∈ os, o.length = k) → (os.drop n).flatten = os.flatten.drop (n * k)
  | 0, os, _ => by simp
  | n + 1, [], _ => by simp
  | n + 1, a :: r, h => by
    have ha := h a (List.mem_cons_self ..)
    rw [List.drop_succ_cons, List.flatten_cons, flat_drop n (fun x hx => h x (List.mem_cons_of_mem _ hx)), List.drop_append, ha, Nat.succ_mul, List.drop_eq_nil_of_le (show a.length ≤ n * k + k by rw [ha]; omega), List.nil_append, Nat.add_sub_cancel]
theorem flat_take {k : Nat} : ∀ (n : Nat) {os : List (List Value)}, (∀ o ∈ os, o.length = k) → (os.take n).flatten = os.flatten.take (n * k)
  | 0, os, _ => by simp
  | n + 1, [], _ => by simp
  | n + 1, a :: r, h => by
    have ha := h a (List.mem_cons_self ..)
    rw [List.take_succ_cons, List.flatten_cons, List.flatten_cons, flat_take n (fun x hx => h x (List.mem_cons_of_mem _ hx)), List.take_append, ha, Nat.succ_mul, List.take_of_length_le (show a.length ≤ n * k + k by rw [ha]; omega), Nat.add_sub_cancel]
/-- n objects of k cells that lie one after the other below B -/
def RdRow (W : World) (B : Nat) (A : Option Addr) (k n : Nat) (os : List (List Value)) : Prop :=
  os.length = n ∧ (∀ o ∈ os, o.length = k) ∧ (0 < n → ∃ b off, A = some ⟨b, off, none⟩ ∧ b < B ∧ ∀ j v, os.flatten[j]? = some v → W.cell? ⟨b, off + j, none⟩ = some v)
theorem RdRow.below {w W : World} {B k n : Nat} {A : Option Addr} {os : List (List Value)} (h : RdRow w B A k n os) (hb : Below B w W) : RdRow W B A k n os :=
  ⟨h.1, h.2.1, fun hn => by
    obtain ⟨b, off, e, hlt, hc⟩ := h.2.2 hn
    exact ⟨b, off, e, hlt, fun j v hv => (World.cell?_of_block (hb.block b hlt)).trans (hc j v hv)⟩⟩
theorem RdRow.mono {W : World} {B C k n : Nat} {A : Option Addr} {os : List (List Value)} (h : RdRow W B A k n os) (hc : B ≤ C) : RdRow W C A k n os :=
  ⟨h.1, h.2.1, fun hn => by
    obtain ⟨b, off, e, hlt, hc2⟩ := h.2.2 hn
    exact ⟨b, off, e, by omega, hc2⟩⟩
theorem RdRow.nil {W : World} {B k : Nat} {A : Option Addr} : RdRow W B A k 0 [] := ⟨rfl, (by simp), fun h => by omega⟩
theorem RdRow.of_own {W : World} {B k n c : Nat} {e : TypeId} {A : Option Addr} {os : List (List Value)} (hn : os.length = n) (hk : ∀ o ∈ os, o.length = k) (h : W.ownsRow B e k (.slice A n c) n os.flatten) : RdRow W W.heap.size A k n os := by
  refine ⟨hn, hk, fun h0 => ?_⟩
  rcases h.2 with ⟨_, e⟩ | ⟨g, cap, cur, hv, hbg, hg, hcap, hm, hs, hr⟩
  · omega
  · injection hv with hA _ _
    refine ⟨g, 0, hA, ?_, fun j v hj => ?_⟩
    · rcases Nat.lt_or_ge g W.heap.size with h | h
      · exact h
      · rw [Array.getElem?_eq_none h] at hg; cases hg
    · rw [← hr, List.getElem?_take] at hj
      split at hj
      · rw [Nat.zero_add]
        simp only [World.cell?, hg]
        simpa using hj
      · cases hj
/-- the object at a place of a row -/
theorem RdRow.at {W : World} {B k n b off : Nat} {os : List (List Value)} (h : RdRow W B (some ⟨b, off, none⟩) k n os) (i : Nat) (o : List Value) (hi : os[i]? = some o) : b < B ∧ At W b (off + i * k) o := by
  have hl : i < os.length := (List.getElem?_eq_some_iff.1 hi).1
  obtain ⟨b', off', e, hlt, hc⟩ := h.2.2 (by rw [← h.1]; omega)
  injection e with e
  injection e with e1 e2 _
  subst e1 e2
  exact ⟨hlt, fun j v hj => by rw [Nat.add_assoc]; exact hc _ v (flat_at h.2.1 i o hi j v hj)⟩
theorem RdRow.addr {W : World} {B k n : Nat} {A : Option Addr} {os : List (List Value)} (h : RdRow W B A k n os) (hn : 0 < n) : ∃ b off, A = some ⟨b, off, none⟩ := by
  obtain ⟨b, off, e, _⟩ := h.2.2 hn
  exact ⟨b, off, e⟩
theorem RdRow.take {W : World} {B k n : Nat} {A : Option Addr} {os : List (List Value)} (h : RdRow W B A k n os) (i : Nat) (hi : i ≤ n) : RdRow W B A k i (os.take i) := by
  refine ⟨by rw [List.length_take, h.1]; omega, fun o ho => h.2.1 o (List.mem_of_mem_take ho), fun h0 => ?_⟩
  obtain ⟨b, off, e, hlt, hc⟩ := h.2.2 (by omega)
  refine ⟨b, off, e, hlt, fun j v hj => hc j v ?_⟩
  rw [flat_take i h.2.1, List.getElem?_take] at hj
  split at hj
  · exact hj
  · cases hj
theorem RdRow.drop {W : World} {B k n b off : Nat} {os : List (List Value)} (h : RdRow W B (some ⟨b, off, none⟩) k n os) (i : Nat) (hi : i ≤ n) : RdRow W B (some ⟨b, off + i * k, none⟩) k (n - i) (os.drop i) := by
  refine ⟨by rw [List.length_drop, h.1], fun o ho => h.2.1 o (List.mem_of_mem_drop ho), fun h0 => ?_⟩
  obtain ⟨b', off', e, hlt, hc⟩ := h.2.2 (by omega)
  injection e with e
  injection e with e1 e2 _
  subst e1 e2
  refine ⟨b, off + i * k, rfl, hlt, fun j v hj => ?_⟩
  rw [flat_drop i h.2.1, List.getElem?_drop] at hj
  rw [Nat.add_assoc]
  exact hc _ v hj
end Go.Proofs.Ytnmjcibhggchkaa
