/-
  Packets whose bytes lie in blocks of bytes: they stay where a row of slices grows. No statement is proved here.
-/
import Derived.Test.YtnmjcibhggchkaaStC
namespace Go.Proofs.Ytnmjcibhggchkaa
open Go.RowKit

def PkU (W : World) (p : Part) : Prop := PkOk W W.heap.size p ∧ (0 < p.n → ∃ b off arr fr, p.A = some ⟨b, off, none⟩ ∧ W.heap[b]? = some (.cells arr 5 fr))
theorem PkU.lt {W : World} {p : Part} (h : PkU W p) (hn : 0 < p.n) : ∃ b off, p.A = some ⟨b, off, none⟩ ∧ b < W.heap.size := by
  obtain ⟨b, off, e, hb, _⟩ := h.1.1.2 hn
  exact ⟨b, off, e, hb⟩
theorem PkU.below {W W' : World} {p : Part} (h : PkU W p) (hb : Below W.heap.size W W') : PkU W' p := by
  refine ⟨(h.1.below hb).mono hb.size, fun hn => ?_⟩
  obtain ⟨b, off, arr, fr, e, hg⟩ := h.2 hn
  obtain ⟨b', off', e', hlt⟩ := h.lt hn
  rw [e] at e'
  injection e' with e'
  injection e' with e1 _ _
  subst e1
  exact ⟨b, off, arr, fr, e, (hb.block b hlt).trans hg⟩
theorem PkU.grown {W W' : World} {p : Part} (h : PkU W p) {base m : Nat} {v : Value} {xs : List Value} (ho : W.ownsRow base 23 1 v m xs) (hg : W.grownBy W' v.ownBlock) : PkU W' p := by
  have key : ∀ (b off : Nat) (arr : Array Value) (fr : Nat × Nat), p.A = some ⟨b, off, none⟩ → W.heap[b]? = some (.cells arr 5 fr) → b < W.heap.size → W'.heap[b]? = W.heap[b]? := by
    intro b off arr fr e hb hlt
    refine hg.block b hlt fun hk => ?_
    rcases ho.2 with ⟨rfl, _⟩ | ⟨g, cap, cur, rfl, _, hgc, _⟩
    · cases hk
    · injection hk with hk
      subst hk
      rw [hb] at hgc
      injection hgc with hgc
      injection hgc with _ ht _
      exact absurd ht (by decide)
  refine ⟨⟨⟨h.1.1.1, fun hn => ?_⟩, h.1.2⟩, fun hn => ?_⟩
  · obtain ⟨b, off, e, hlt, hc⟩ := h.1.1.2 hn
    obtain ⟨b', off', arr, fr, e', hb⟩ := h.2 hn
    rw [e] at e'
    injection e' with e'
    injection e' with e1 e2 _
    subst e1 e2
    exact ⟨b, off, e, Nat.lt_of_lt_of_le hlt hg.size, fun j hj => (World.cell?_of_block (a := ⟨b, off + j, none⟩) (key b off arr fr e hb hlt)).trans (hc j hj)⟩
  · obtain ⟨b, off, arr, fr, e, hb⟩ := h.2 hn
    obtain ⟨b', off', e', hlt⟩ := h.lt hn
    rw [e] at e'
    injection e' with e'
    injection e' with e1 _ _
    subst e1
    exact ⟨b, off, arr, fr, e, (key b off arr fr e hb hlt).trans hb⟩
theorem PkU.of_own {W : World} {base n c : Nat} {A : Option Addr} {l : List UInt8} (ho : W.ownsRow base 5 1 (.slice A n c) n (l.map u8v)) : PkU W (Part.mk A n c l) := by
  refine ⟨⟨Rd.of_own ho, ?_⟩, fun hn => ?_⟩
  · rcases ho.2 with ⟨h, h0⟩ | ⟨g, cap, cur, h, _, _, h1, h2, _⟩
    · injection h with _ _ h
      exact ⟨by show n ≤ c; omega, by show c ≤ maxLen; rw [h]; exact Nat.zero_le _⟩
    · injection h with _ _ h
      subst h
      exact ⟨h1, h2⟩
  · rcases ho.2 with ⟨h, h0⟩ | ⟨g, cap, cur, h, _, hg, _⟩
    · have : (Part.mk A n c l).n = n := rfl
      omega
    · injection h with h _ _
      exact ⟨g, 0, cur, _, h, hg⟩
/-- a packet that is appended to a row of packets -/
theorem row_one (w : World) (A : Option Addr) (n c : Nat) (l : List UInt8) : RdRow (w.alloc (.cells #[.slice A n c] 23)) (w.alloc (.cells #[.slice A n c] 23)).heap.size (some ⟨w.heap.size, 0, none⟩) 1 1 (pksV [Part.mk A n c l]) := by
  refine blk_row (t := 23) (rest := []) ?_ (pksV_size _) rfl
  rw [List.append_nil, pksV_flat]
  exact Blk.new w 23 [.slice A n c]
theorem pksV_snoc (ps : List Part) (p : Part) : (pksV ps).flatten ++ (pksV [p]).flatten = (pksV (ps ++ [p])).flatten := by rw [pksV_flat, pksV_flat, pksV_flat, List.map_append]
end Go.Proofs.Ytnmjcibhggchkaa
