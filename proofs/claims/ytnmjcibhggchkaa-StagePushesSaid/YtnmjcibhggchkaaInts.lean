/-
  Slices of numbers that lie in memory, of whatever kind. No function of the program is named here.
-/
import Derived.Test.YtnmjcibhggchkaaObjRows
import Derived.Test.YtnmjcibhggchkaaLow
import Derived.Test.YtnmjcibhggchkaaGsMath
namespace Go.Proofs.Ytnmjcibhggchkaa
open Go.RowKit

def intsV (k : IntKind) (l : List Int) : List (List Value) := l.map fun x => [.int k x]
def IntRd (k : IntKind) (W : World) (B : Nat) (A : Option Addr) (n : Nat) (l : List Int) : Prop := RdRow W B A 1 n (intsV k l)
theorem intsV_len (k : IntKind) (l : List Int) : (intsV k l).length = l.length := by rw [intsV, List.length_map]
theorem IntRd.len {k : IntKind} {W : World} {B n : Nat} {A : Option Addr} {l : List Int} (h : IntRd k W B A n l) : l.length = n := by
  have := h.1
  rwa [intsV_len] at this
theorem IntRd.below {k : IntKind} {w W : World} {B n : Nat} {A : Option Addr} {l : List Int} (h : IntRd k w B A n l) (hb : Below B w W) : IntRd k W B A n l := RdRow.below h hb
theorem IntRd.mono {k : IntKind} {W : World} {B C n : Nat} {A : Option Addr} {l : List Int} (h : IntRd k W B A n l) (hc : B ≤ C) : IntRd k W C A n l := RdRow.mono h hc
theorem IntRd.nil {k : IntKind} {W : World} {B : Nat} {A : Option Addr} : IntRd k W B A 0 [] := RdRow.nil
theorem IntRd.addr {k : IntKind} {W : World} {B n : Nat} {A : Option Addr} {l : List Int} (h : IntRd k W B A n l) (hn : 0 < n) : ∃ b off, A = some ⟨b, off, none⟩ := RdRow.addr h hn
theorem IntRd.at {k : IntKind} {W : World} {B n b off : Nat} {l : List Int} (h : IntRd k W B (some ⟨b, off, none⟩) n l) (i : Nat) (x : Int) (hi : l[i]? = some x) : b < B ∧ W.cell? ⟨b, off + i, none⟩ = some (.int k x) := by
  have h2 := RdRow.at h i [.int k x] (by rw [intsV, List.getElem?_map, hi]; rfl)
  refine ⟨h2.1, ?_⟩
  have h3 := h2.2 0 _ rfl
  simpa using h3
theorem intsV_take (k : IntKind) (l : List Int) (j : Nat) : (intsV k l).take j = intsV k (l.take j) := by rw [intsV, intsV, List.map_take]
theorem intsV_drop (k : IntKind) (l : List Int) (j : Nat) : (intsV k l).drop j = intsV k (l.drop j) := by rw [intsV, intsV, List.map_drop]
theorem IntRd.ahead {k : IntKind} {W : World} {B n : Nat} {A : Option Addr} {l : List Int} (h : IntRd k W B A n l) (i c : Nat) (hi : i ≤ n) : IntRd k W B (addrK A 0 c 1) i (l.take i) := by
  have h2 := RdRow.ahead h i c hi
  rwa [intsV_take] at h2
theorem intsV_flat (k : IntKind) (l : List Int) : (intsV k l).flatten = l.map fun x => .int k x := by
  induction l with
  | nil => rfl
  | cons x l ih =>
    rw [intsV, List.map_cons, List.flatten_cons, List.map_cons, ← ih]
    rfl
theorem ints_one (k : IntKind) (l : List Int) : ∀ v ∈ (intsV k l).flatten, v.oneCell' = true := by
  rw [intsV_flat]
  intro v hv
  obtain ⟨x, _, rfl⟩ := List.mem_map.1 hv
  rfl
/-- numbers, as an entry of what lies in memory -/
def intsL (k : IntKind) (A : Option Addr) (n : Nat) (l : List Int) : Low := ⟨fun W => IntRd k W W.heap.size A n l, fun _ _ hb h => (h.below hb).mono hb.size⟩
/-- x[:j] of a slice of numbers whose address is not known -/
theorem ints_h {P : Program} {t e : TypeId} {z : Value} {bs : Nat} (ht : P.underlying t = some (.slice e)) (he : (P.info? e).map (fun i => (i.zero, i.size, i.bytes)) = some (some z, 1, bs)) {n : Nat} (A : Option Addr) (c j : Nat) (h2 : j ≤ n) (h3 : n ≤ c) (w : World) : (Instr.sliceAt t (.slice A n c) none (some (.int .i64 (j : Int))) none).run P w = .ok (.slice (addrK A 0 c 1) j c) w := by
  have hel : P.elem t = e := by
    unfold Program.elem
    rw [ht]
  have hu : P.underlying t = some (.slice (P.elem t)) := by rw [hel]; exact ht
  have hsz : (sizeOf (P.elem t)).run P w = .ok 1 w := by
    obtain ⟨i0, hi, hz0, hz1, hz2⟩ := info_parts he
    rw [hel]
    simp [sizeOf, typeInfo, hi, hz1]
  rw [run_sliceAt_slice (P := P) (w := w) t _ _ _ _ hu, run_slice_h (P := P) (w := w) t A n c hu .i64 j (by omega) (by omega), hsz]
  simp only [Result.andThen, sliced, Int.toNat_natCast, Nat.sub_zero]
  rfl
theorem ints_l {P : Program} {t e : TypeId} {z : Value} {bs : Nat} (ht : P.underlying t = some (.slice e)) (he : (P.info? e).map (fun i => (i.zero, i.size, i.bytes)) = some (some z, 1, bs)) (A : Option Addr) (n c i : Nat) (h2 : i ≤ n) (w : World) : (Instr.sliceAt t (.slice A n c) (some (.int .i64 (i : Int))) none none).run P w = .ok (.slice (addrK A i c 1) (n - i) (c - i)) w := by
  have hel : P.elem t = e := by
    unfold Program.elem
    rw [ht]
  have hu : P.underlying t = some (.slice (P.elem t)) := by rw [hel]; exact ht
  have hsz : (sizeOf (P.elem t)).run P w = .ok 1 w := by
    obtain ⟨i0, hi, hz0, hz1, hz2⟩ := info_parts he
    rw [hel]
    simp [sizeOf, typeInfo, hi, hz1]
  rw [run_sliceAt_slice (P := P) (w := w) t _ _ _ _ hu, run_slice_l (P := P) (w := w) t A n c hu .i64 i (by omega) (by omega), hsz]
  simp only [Result.andThen, sliced, Int.toNat_natCast]
  rfl
end Go.Proofs.Ytnmjcibhggchkaa
