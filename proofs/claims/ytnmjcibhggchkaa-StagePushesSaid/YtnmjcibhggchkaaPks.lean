/-
  Slices of slices of bytes that lie in memory. No statement is proved here.
-/
import Derived.Test.YtnmjcibhggchkaaPart
import Derived.Test.YtnmjcibhggchkaaInts
import Derived.Test.YtnmjcibhggchkaaAddrK0
import Derived.Test.YtnmjcibhggchkaaOwnCap
namespace Go.Proofs.Ytnmjcibhggchkaa
open Go.RowKit

def pkV (p : Part) : Value := .slice p.A p.n p.c
def pksV (ps : List Part) : List (List Value) := ps.map fun p => [pkV p]
def PkOk (W : World) (B : Nat) (p : Part) : Prop := Rd W B p.A p.n p.l ∧ p.n ≤ p.c ∧ p.c ≤ maxLen
def PkRd (W : World) (B : Nat) (A : Option Addr) (n : Nat) (ps : List Part) : Prop := RdRow W B A 1 n (pksV ps) ∧ ∀ p ∈ ps, PkOk W B p
theorem pksV_len (ps : List Part) : (pksV ps).length = ps.length := by rw [pksV, List.length_map]
theorem pksV_flat (ps : List Part) : (pksV ps).flatten = ps.map pkV := by
  induction ps with
  | nil => rfl
  | cons x l ih =>
    rw [pksV, List.map_cons, List.flatten_cons, List.map_cons, ← ih]
    rfl
theorem pksV_size (ps : List Part) : ∀ o ∈ pksV ps, o.length = 1 := by
  intro o ho
  obtain ⟨p, _, rfl⟩ := List.mem_map.1 ho
  rfl
theorem pks_one (ps : List Part) : ∀ v ∈ (pksV ps).flatten, v.oneCell' = true := by
  rw [pksV_flat]
  intro v hv
  obtain ⟨x, _, rfl⟩ := List.mem_map.1 hv
  rfl
theorem PkOk.below {w W : World} {B : Nat} {p : Part} (h : PkOk w B p) (hb : Below B w W) : PkOk W B p := ⟨h.1.below hb, h.2⟩
theorem PkOk.mono {W : World} {B C : Nat} {p : Part} (h : PkOk W B p) (hc : B ≤ C) : PkOk W C p := ⟨h.1.mono hc, h.2⟩
theorem PkOk.len {W : World} {B : Nat} {p : Part} (h : PkOk W B p) : p.l.length = p.n := h.1.1
theorem PkRd.len {W : World} {B n : Nat} {A : Option Addr} {ps : List Part} (h : PkRd W B A n ps) : ps.length = n := by
  have := h.1.1
  rwa [pksV_len] at this
theorem PkRd.below {w W : World} {B n : Nat} {A : Option Addr} {ps : List Part} (h : PkRd w B A n ps) (hb : Below B w W) : PkRd W B A n ps := ⟨h.1.below hb, fun p hp => (h.2 p hp).below hb⟩
theorem PkRd.mono {W : World} {B C n : Nat} {A : Option Addr} {ps : List Part} (h : PkRd W B A n ps) (hc : B ≤ C) : PkRd W C A n ps := ⟨h.1.mono hc, fun p hp => (h.2 p hp).mono hc⟩
theorem PkRd.nil {W : World} {B : Nat} {A : Option Addr} : PkRd W B A 0 [] := ⟨RdRow.nil, by simp⟩
theorem PkRd.addr {W : World} {B n : Nat} {A : Option Addr} {ps : List Part} (h : PkRd W B A n ps) (hn : 0 < n) : ∃ b off, A = some ⟨b, off, none⟩ := RdRow.addr h.1 hn
theorem PkRd.at {W : World} {B n b off : Nat} {ps : List Part} (h : PkRd W B (some ⟨b, off, none⟩) n ps) (i : Nat) (p : Part) (hi : ps[i]? = some p) : b < B ∧ W.cell? ⟨b, off + i, none⟩ = some (.slice p.A p.n p.c) := by
  have h2 := RdRow.at h.1 i [pkV p] (by rw [pksV, List.getElem?_map, hi]; rfl)
  refine ⟨h2.1, ?_⟩
  have h3 := h2.2 0 _ rfl
  rwa [Nat.mul_one, Nat.add_zero] at h3
theorem PkRd.ok {W : World} {B n i : Nat} {A : Option Addr} {ps : List Part} {p : Part} (h : PkRd W B A n ps) (hi : ps[i]? = some p) : PkOk W B p := h.2 p (List.mem_of_getElem? hi)
theorem pksV_take (l : List Part) (j : Nat) : (pksV l).take j = pksV (l.take j) := by rw [pksV, pksV, List.map_take]
theorem pksV_drop (l : List Part) (j : Nat) : (pksV l).drop j = pksV (l.drop j) := by rw [pksV, pksV, List.map_drop]
theorem PkRd.ahead {W : World} {B n : Nat} {A : Option Addr} {ps : List Part} (h : PkRd W B A n ps) (i c : Nat) (hi : i ≤ n) : PkRd W B (addrK A 0 c 1) i (ps.take i) := by
  have h2 := RdRow.ahead h.1 i c hi
  rw [pksV_take] at h2
  exact ⟨h2, fun p hp => h.2 p (List.mem_of_mem_take hp)⟩
theorem PkRd.behind {W : World} {B n : Nat} {A : Option Addr} {ps : List Part} (h : PkRd W B A n ps) (i c : Nat) (hi : i ≤ n) (hc : n ≤ c) : PkRd W B (addrK A i c 1) (n - i) (ps.drop i) := by
  have h2 := RdRow.behind h.1 i c hi hc
  rw [pksV_drop] at h2
  exact ⟨h2, fun p hp => h.2 p (List.mem_of_mem_drop hp)⟩
theorem PkRd.of_own {W : World} {B n c : Nat} {e : TypeId} {A : Option Addr} {ps : List Part} (hn : ps.length = n) (hp : ∀ p ∈ ps, PkOk W W.heap.size p) (h : W.ownsRow B e 1 (.slice A n c) n (pksV ps).flatten) : PkRd W W.heap.size A n ps :=
  ⟨RdRow.of_own (by rw [pksV_len, hn]) (pksV_size ps) h, hp⟩
theorem PkRd.of_blk {W : World} {g n : Nat} {t : TypeId} {ps : List Part} (h : Blk W g t (ps.map pkV)) (hn : ps.length = n) (hp : ∀ p ∈ ps, PkOk W W.heap.size p) : PkRd W W.heap.size (some ⟨g, 0, none⟩) n ps :=
  ⟨blk_row (rest := []) (by rw [List.append_nil, pksV_flat]; exact h) (pksV_size ps) (by rw [pksV_len, hn]), hp⟩
/-- a list of packets, as an entry of what lies in memory -/
def pksL (A : Option Addr) (n : Nat) (ps : List Part) : Low := ⟨fun W => PkRd W W.heap.size A n ps, fun _ _ hb h => (h.below hb).mono hb.size⟩
def pkL (p : Part) : Low := ⟨fun W => PkOk W W.heap.size p, fun _ _ hb h => (h.below hb).mono hb.size⟩
/-- the bytes of packets -/
def psB (ps : List Part) : List (List UInt8) := ps.map Part.l
theorem psB_len (ps : List Part) : (psB ps).length = ps.length := by rw [psB, List.length_map]
/-- a packet's bytes stay where a cell of a block of slices is written -/
theorem PkOk.put {w : World} {B g j : Nat} {t : TypeId} {cs : List Value} {p : Part} (h : PkOk w B p) (hg : Blk w g t cs) (hcs : ∀ v ∈ cs, ∀ (k : IntKind) (x : Int), v ≠ .int k x) (u : Value) : PkOk (w.setCell ⟨g, j, none⟩ u) B p := by
  refine ⟨⟨h.1.1, fun hn => ?_⟩, h.2⟩
  obtain ⟨b, off, e, hb, hc⟩ := h.1.2 hn
  refine ⟨b, off, e, hb, fun i hi => ?_⟩
  rw [← hc i hi]
  refine World.cell?_setCell_far _ _ _ _ fun hbg => ?_
  have h0 := hc i hi
  dsimp only at hbg
  subst hbg
  rw [hg.cell] at h0
  exact hcs _ (List.mem_of_getElem? h0) _ _ rfl
theorem pkV_noint (ps : List Part) : ∀ v ∈ ps.map pkV, ∀ (k : IntKind) (x : Int), v ≠ .int k x := by
  intro v hv k x e
  obtain ⟨p, _, rfl⟩ := List.mem_map.1 hv
  cases e
/-- x[i:j:m] of a slice of slices whose address is not known -/
theorem pks_lhm (A : Option Addr) (n c i j m : Nat) (h1 : i ≤ j) (h2 : j ≤ m) (h3 : m ≤ c) (w : World) : (Instr.sliceAt 22 (.slice A n c) (some (.int .i64 (i : Int))) (some (.int .i64 (j : Int))) (some (.int .i64 (m : Int)))).run Try.prog w = .ok (.slice (addrK A i m 1) (j - i) (m - i)) w := by
  have hel : Try.prog.elem 22 = 23 := by kernel_rfl
  have hu : Try.prog.underlying 22 = some (.slice (Try.prog.elem 22)) := by kernel_rfl
  have hsz : (sizeOf (Try.prog.elem 22)).run Try.prog w = .ok 1 w := by
    have h : (Try.prog.info? 23).map (fun i => i.size) = some 1 := by kernel_rfl
    rw [hel]
    cases hi : Try.prog.info? 23 with
    | none => rw [hi] at h; cases h
    | some i0 =>
      rw [hi] at h
      simp only [Option.map_some, Option.some.injEq] at h
      simp [sizeOf, typeInfo, hi, h]
  rw [run_sliceAt_slice (P := Try.prog) (w := w) 22 _ _ _ _ hu, run_slice_lhm (P := Try.prog) (w := w) 22 A n c hu .i64 .i64 .i64 i j m (by omega) (by omega) (by omega) (by omega), hsz]
  simp only [Result.andThen, sliced, Int.toNat_natCast]
  rfl
theorem pksInfo : (Try.prog.info? 23).map (fun i => (i.zero, i.size, i.bytes)) = some (some (.slice none 0 0), 1, 24) := by kernel_rfl
theorem pks_l (A : Option Addr) (n c i : Nat) (h2 : i ≤ n) (w : World) : (Instr.sliceAt 22 (.slice A n c) (some (.int .i64 (i : Int))) none none).run Try.prog w = .ok (.slice (addrK A i c 1) (n - i) (c - i)) w := ints_l Try.underlying22 pksInfo A n c i h2 w
theorem pks_h {n : Nat} (A : Option Addr) (c j : Nat) (h2 : j ≤ n) (h3 : n ≤ c) (w : World) : (Instr.sliceAt 22 (.slice A n c) none (some (.int .i64 (j : Int))) none).run Try.prog w = .ok (.slice (addrK A 0 c 1) j c) w := ints_h Try.underlying22 pksInfo A c j h2 h3 w
end Go.Proofs.Ytnmjcibhggchkaa
