/-
  The program's Join of a list of slices, its headers, and numbers as slices somewhere. No statement is proved here.
-/
import Derived.Test.YtaolhndbpgjlcaaMsSmall
import Derived.Test.YtaolhndbpgjlcaaCoJoin
import Derived.Test.YtaolhndbpgjlcaaMsJoin
namespace Go.Proofs.Ytaolhndbpgjlcaa
open Go.RowKit

theorem coJoin_rows (g : Nat) (t : TypeId) (ps : List Part) (k : Nat) (hk : ps.length = k) (hk1 : k ≤ 1000) (L : List UInt8) (hL : (ps.map Part.l).flatten = L) (M : Nat) (hM : L.length = M) (hM6 : M ≤ 1000000) (w : World) (hb : Blk w g t (ps.map Part.v)) (hr : ∀ p ∈ ps, Rd w w.heap.size p.A p.n p.l) :
    Calls Try.prog 23 #[.slice (some ⟨g, 0, none⟩) k k] w fun e w' => ∃ A' c', e = .returned (.slice A' M c') ∧ M ≤ c' ∧ c' ≤ maxLen ∧ Rd w' w'.heap.size A' M L ∧ Below w.heap.size w w' := by
  subst hk
  have hf : flat ps ps.length = L := by rw [flat, List.take_of_length_le (Nat.le_refl _), hL]
  have hJ := coJoin_any w.heap.size ps.length (some ⟨g, 0, none⟩) ps (by omega) (by rw [hf, hM]; exact hM6) w (Nat.le_refl _) (parts_rd hb hr)
  refine hJ.mono ?_
  rintro e w' ⟨A', c', he, ho, hbl⟩
  rw [hf, hM] at he ho
  obtain ⟨q1, q2, _⟩ := own_addr ho
  exact ⟨A', c', he, q1, q2, Rd.of_own ho, hbl⟩
theorem head_little : ∀ k : Nat, k ≤ 4 → littleL k 4 = msHead k := by
  intro k hk
  match k, hk with
  | 0, _ => decide +kernel
  | 1, _ => decide +kernel
  | 2, _ => decide +kernel
  | 3, _ => decide +kernel
  | 4, _ => decide +kernel
theorem pHeader_k (k : Nat) (hk : k ≤ 4) (w : World) :
    Calls Try.prog 24 #[.int .i64 (k : Int)] w fun e w' => ∃ A c, e = .returned (.slice A 4 c) ∧ Rd w' w'.heap.size A 4 (msHead k) ∧ Below w.heap.size w w' := by
  rw [← head_little k hk]
  exact pHeader_any k (by omega) w
theorem pLittle_any (v : Nat) (hv : v < 18446744073709551616) (k : Nat) (h1 : 1 ≤ k) (h8 : k ≤ 8) (w : World) :
    Calls Try.prog 26 #[.int .u64 (v : Int), .int .i64 (k : Int)] w fun e w' => ∃ A c, e = .returned (.slice A k c) ∧ Rd w' w'.heap.size A k (littleL v k) ∧ Below w.heap.size w w' := by
  refine (little_any v hv k h1 h8 w).mono ?_
  rintro e w1 ⟨rfl, ho, hb⟩
  exact ⟨_, _, rfl, Rd.of_own ho, hb⟩
end Go.Proofs.Ytaolhndbpgjlcaa
