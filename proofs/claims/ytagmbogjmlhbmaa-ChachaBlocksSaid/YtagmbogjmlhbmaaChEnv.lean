/-
  What the walks of layer 2's laws keep: the key and the nonce in blocks of their own, and slices that read as bytes. And the contract of burrowcase.Cut. No statement is proved here.
-/
import Derived.Test.YtagmbogjmlhbmaaChXor
import Derived.Test.YtagmbogjmlhbmaaChBegun
import Derived.Outline
namespace Go.Proofs.Ytagmbogjmlhbmaa
open Go.RowKit

theorem Rd.drop {w : World} {B n : Nat} {A : Option Addr} {l : List UInt8} (h : Rd w B A n l) (m : Nat) (b off : Nat) (hA : A = some ⟨b, off, none⟩) (hm : m ≤ n) : Rd w B (some ⟨b, off + m, none⟩) (n - m) (l.drop m) := by
  have h1 := h.1
  refine ⟨by rw [List.length_drop]; omega, fun hp => ?_⟩
  obtain ⟨b', off', e, hb, hc⟩ := h.2 (by omega)
  rw [hA] at e
  injection e with e
  injection e with e1 e2
  subst e1 e2
  refine ⟨b, off + m, rfl, hb, fun j hj => ?_⟩
  rw [List.length_drop] at hj
  rw [List.getElem_drop, Nat.add_assoc]
  exact hc (m + j) (by omega)

/-- behind the first m bytes: where nothing is left the address may stay -/
theorem Rd.drop_if {w : World} {B n m b off : Nat} {Ad : Option Addr} {l : List UInt8} (hA : Ad = some ⟨b, off + m, none⟩ ∨ n = m) (hm : m ≤ n) (h : Rd w B (some ⟨b, off, none⟩) n l) : Rd w B Ad (n - m) (l.drop m) := by
  rcases hA with rfl | rfl
  · exact h.drop m b off rfl hm
  · rw [Nat.sub_self, List.drop_of_length_le (by have := h.1; omega)]
    exact Rd.nil _ _ _

/-- the key at block K, the nonce behind it, the slices of L read as their bytes, and all from w0 on is later -/
def Env (w0 : World) (K : Nat) (k nn : List UInt8) (L : List (Option Addr × Nat × List UInt8)) (W : World) : Prop :=
  Blk W K 25 (k.map u8v) ∧ Blk W (K + 1) 27 (nn.map u8v) ∧ (∀ p ∈ L, Rd W W.heap.size p.1 p.2.1 p.2.2) ∧ Below w0.heap.size w0 W
section
variable {w0 W W' : World} {K : Nat} {k nn : List UInt8} {L : List (Option Addr × Nat × List UInt8)}
theorem Env.below (h : Env w0 K k nn L W) (hb : Below W.heap.size W W') : Env w0 K k nn L W' :=
  ⟨h.1.below hb h.1.lt, h.2.1.below hb h.2.1.lt, fun p hp => ((h.2.2.1 p hp).below hb).mono hb.size, h.2.2.2.trans (hb.mono h.2.2.2.size)⟩
theorem Env.drew (h : Env w0 K k nn L W) : Env w0 K k nn L W.drew := h.below ((Below.refl _ _).drew)
theorem Env.cons (h : Env w0 K k nn L W) {A : Option Addr} {n : Nat} {l : List UInt8} (hr : Rd W W.heap.size A n l) : Env w0 K k nn ((A, n, l) :: L) W :=
  ⟨h.1, h.2.1, fun p hp => by
    rcases List.mem_cons.1 hp with rfl | hp
    · exact hr
    · exact h.2.2.1 p hp, h.2.2.2⟩
theorem Env.rd (h : Env w0 K k nn L W) {A : Option Addr} {n : Nat} {l : List UInt8} (hm : (A, n, l) ∈ L) : Rd W W.heap.size A n l := h.2.2.1 _ hm
end
theorem conv_str {w : World} {B n : Nat} {A : Option Addr} {l : List UInt8} (h : Rd w B A n l) (c : Nat) : (convert 33 9 (.slice A n c)).run Try.prog w = .ok (.string ⟨l.toArray⟩) w :=
  run_string_of_rd (P := Try.prog) 33 9 5 c Try.underlying33 Try.underlying5 Try.underlying9 h
theorem xor_rd (k nn : List UInt8) (hk : k.length = 32) (hn : nn.length = 12) (c : UInt32) (D : Option Addr) (n cap : Nat) (l : List UInt8) (hn6 : n ≤ 1000000) (w : World) (hr : Rd w w.heap.size D n l) :
    Calls Try.prog 13 #[.agg (k.map u8v).toArray, .int .u32 (c.toNat : Int), .agg (nn.map u8v).toArray, .slice D n cap] w fun e w' => ∃ G, e = .returned (.slice (some ⟨G, 0, none⟩) n n) ∧ Rd w' w'.heap.size (some ⟨G, 0, none⟩) n (xorL k c nn l) ∧ Below w.heap.size w w' := by
  refine (xor_any k nn hk hn c w.heap.size D n cap l hn6 w (Nat.le_refl _) hr).mono ?_
  rintro e w' ⟨G, he, ho, hb⟩
  exact ⟨G, he, Rd.of_own ho, hb⟩

theorem cut_any (B : Nat) (A : Option Addr) (len cap m : Nat) (l : List UInt8) (hlc : len ≤ cap) (_hcm : cap ≤ maxLen) (w : World) (hr : Rd w B A len l) :
    Calls Try.prog 12 #[.slice A len cap, .int .i64 m] w fun e w' => e = .returned (.slice A (min len m) cap) ∧ Rd w B A (min len m) (l.take m) ∧ w = w' := by
  have hrd : Rd w B A (min len m) (l.take m) := by
    have h := hr.take (m := min len m) (by omega)
    have h1 := hr.1
    by_cases hc : len ≤ m
    · rwa [show min len m = len from by omega, List.take_of_length_le (by omega), ← List.take_of_length_le (show l.length ≤ m from by omega), ← show min len m = len from by omega] at h
    · rwa [show min len m = m from by omega] at h ⊢
  have HR := Lib.hid hrd
  clear hrd hr
  unfold maxLen at _hcm
  by_cases hc : len ≤ m
  · rw [show min len m = len from by omega] at HR ⊢
    have b1 : (len : Int) ≤ (cap : Int) := by omega
    go_enter Try.func12, Try.ntmps12
    go_wp2
    go_ret
    exact ⟨rfl, HR.out, rfl⟩
  · rw [show min len m = m from by omega] at HR ⊢
    have b1 : (m : Int) ≤ (cap : Int) := by omega
    go_enter Try.func12, Try.ntmps12
    go_wp2
    go_ret
    exact ⟨rfl, HR.out, rfl⟩

end Go.Proofs.Ytagmbogjmlhbmaa
