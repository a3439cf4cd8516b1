/-
  What the walks of layer 2's laws keep: the key and the nonce in blocks of their own, and slices that read as bytes. And the contract of burrowcase.Cut. No statement is proved here.
-/
import Derived.Test.YtafkedeelngnnaaChXor
import Derived.Test.YtafkedeelngnnaaCut
import Derived.Outline
namespace Go.Proofs.Ytafkedeelngnnaa
open Go.RowKit



/-- the key at block K, the nonce behind it, the slices of L read as their bytes, and all from w0 on is later -/
def Env (w0 : World) (K : Nat) (k nn : List UInt8) (L : List (Option Addr × Nat × List UInt8)) (W : World) : Prop :=
  Blk W K 23 (k.map u8v) ∧ Blk W (K + 1) 25 (nn.map u8v) ∧ (∀ p ∈ L, Rd W W.heap.size p.1 p.2.1 p.2.2) ∧ Below w0.heap.size w0 W
section
variable {w0 W W' : World} {K : Nat} {k nn : List UInt8} {L : List (Option Addr × Nat × List UInt8)}
theorem Env.below (h : Env w0 K k nn L W) (hb : Below W.heap.size W W') : Env w0 K k nn L W' :=
  ⟨h.1.below hb h.1.lt, h.2.1.below hb h.2.1.lt, fun p hp => ((h.2.2.1 p hp).below hb).mono hb.size, h.2.2.2.trans (hb.mono h.2.2.2.size)⟩
theorem Env.drew (h : Env w0 K k nn L W) : Env w0 K k nn L W.drew := h.below ((Below.refl _ _).drew)
theorem Env.cons (h : Env w0 K k nn L W) {A : Option Addr} {n : Nat} {l : List UInt8} (hr : Rd W W.heap.size A n l) : Env w0 K k nn ((A, n, l) :: L) W :=
  ⟨h.1, h.2.1, fun p hp => by
    rcases List.mem_cons.1 hp with rfl | hp
    · exact hr
    · exact h.2.2.1 p hp, h.2.2.2⟩
theorem Env.rd (h : Env w0 K k nn L W) {A : Option Addr} {n : Nat} {l : List UInt8} (hm : (A, n, l) ∈ L) : Rd W W.heap.size A n l := h.2.2.1 _ hm
end
theorem conv_str {w : World} {B n : Nat} {A : Option Addr} {l : List UInt8} (h : Rd w B A n l) (c : Nat) : (convert 26 9 (.slice A n c)).run Try.prog w = .ok (.string ⟨l.toArray⟩) w :=
  run_string_of_rd (P := Try.prog) 26 9 5 c Try.underlying26 Try.underlying5 Try.underlying9 h
theorem xor_rd (k nn : List UInt8) (hk : k.length = 32) (hn : nn.length = 12) (c : UInt32) (D : Option Addr) (n cap : Nat) (l : List UInt8) (hn6 : n ≤ 1000000) (w : World) (hr : Rd w w.heap.size D n l) :
    Calls Try.prog 16 #[.agg (k.map u8v).toArray, .int .u32 (c.toNat : Int), .agg (nn.map u8v).toArray, .slice D n cap] w fun e w' => ∃ G, e = .returned (.slice (some ⟨G, 0, none⟩) n n) ∧ Rd w' w'.heap.size (some ⟨G, 0, none⟩) n (xorL k c nn l) ∧ Below w.heap.size w w' := by
  refine (xor_any k nn hk hn c w.heap.size D n cap l hn6 w (Nat.le_refl _) hr).mono ?_
  rintro e w' ⟨G, he, ho, hb⟩
  exact ⟨G, he, Rd.of_own ho, hb⟩


end Go.Proofs.Ytafkedeelngnnaa
