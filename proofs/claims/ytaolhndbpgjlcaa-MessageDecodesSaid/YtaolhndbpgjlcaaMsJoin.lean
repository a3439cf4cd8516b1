/-
  The reference's Join of a list of slices; its numbers of four bytes; the fields of a message as slices. No statement is proved here.
-/
import Derived.Test.YtaolhndbpgjlcaaMsC
import Derived.Test.YtaolhndbpgjlcaaLow
import Derived.Test.YtaolhndbpgjlcaaRefJoin
import Derived.Test.YtaolhndbpgjlcaaRLit
import Derived.Test.YtaolhndbpgjlcaaRRdLit
import Derived.Test.YtaolhndbpgjlcaaSliceOf
import Derived.Deep.QuietTactic
import Derived.BigQuiet
import Derived.RegionTactic
import Derived.BigRegion
import Derived.Deep.RegionWith
import Derived.Deep.DeepCutAuto
import Derived.Outline
namespace Go.Proofs.Ytaolhndbpgjlcaa
open Go.RowKit

def Part.v (p : Part) : Value := .slice p.A p.n p.c
theorem parts_rd {w : World} {g : Nat} {t : TypeId} {ps : List Part} (hb : Blk w g t (ps.map Part.v)) (hr : ∀ p ∈ ps, Rd w w.heap.size p.A p.n p.l) : PartsRd w w.heap.size (some ⟨g, 0, none⟩) ps := fun _ =>
  ⟨g, rfl, hb.lt, fun j hj => ⟨by rw [hb.cell, List.getElem?_map, List.getElem?_eq_getElem hj]; rfl, hr _ (List.getElem_mem hj)⟩⟩
theorem refJoin_rows (g : Nat) (t : TypeId) (ps : List Part) (k : Nat) (hk : ps.length = k) (hk1 : k ≤ 1000) (L : List UInt8) (hL : (ps.map Part.l).flatten = L) (M : Nat) (hM : L.length = M) (hM6 : M ≤ 1000000) (w : World) (hb : Blk w g t (ps.map Part.v)) (hr : ∀ p ∈ ps, Rd w w.heap.size p.A p.n p.l) :
    Calls Try.prog 27 #[.slice (some ⟨g, 0, none⟩) k k] w fun e w' => ∃ A' c', e = .returned (.slice A' M c') ∧ M ≤ c' ∧ c' ≤ maxLen ∧ Rd w' w'.heap.size A' M L ∧ Below w.heap.size w w' := by
  subst hk
  have hf : flat ps ps.length = L := by rw [flat, List.take_of_length_le (Nat.le_refl _), hL]
  have hJ := refJoin_any w.heap.size ps.length (some ⟨g, 0, none⟩) ps (by omega) (by rw [hf, hM]; exact hM6) w (Nat.le_refl _) (parts_rd hb hr)
  refine hJ.mono ?_
  rintro e w' ⟨A', c', he, ho, hbl⟩
  rw [hf, hM] at he ho
  obtain ⟨q1, q2, _⟩ := own_addr ho
  exact ⟨A', c', he, q1, q2, Rd.of_own ho, hbl⟩
set_option maxRecDepth 100000 in
theorem refU32_any (v : Nat) (hv : v < 4294967296) (w : World) :
    Calls Try.prog 28 #[.int .u32 (v : Int)] w fun e w' => ∃ A c, e = .returned (.slice A 4 c) ∧ Rd w' w'.heap.size A 4 (littleL v 4) ∧ Below w.heap.size w w' := by
  have HC := Lib.hid (refLittle_any v (by omega) 4 (by omega) (by omega) w)
  have h1 : IntKind.u64.wrap (v : Int) = (v : Int) := by rw [IntKind.wrap_u64]; omega
  have h2 : (v : Int) % 18446744073709551616 = (v : Int) := by omega
  go_enter Try.func28, Try.ntmps28
  go_wp2_with fail
  refine HC.out.mono ?_
  rintro e w1 ⟨A, c, rfl, ho, hb⟩
  have HO := Lib.hid (And.intro (Rd.of_own ho) hb)
  clear ho hb
  go_wp2_with fail
  go_ret
  exact ⟨A, c, rfl, HO.out.1, HO.out.2⟩
set_option maxRecDepth 100000 in
theorem refN32_any (A : Option Addr) (n c : Nat) (l : List UInt8) (h4 : 4 ≤ n) (hnc : n ≤ c) (w : World) (hr : Rd w w.heap.size A n l) :
    Calls Try.prog 39 #[.slice A n c] w fun e w' => e = .returned (.int .u32 (numL (l.take 4) : Int)) ∧ w = w' := by
  have hsl := slice_h A (by obtain ⟨b, off, e, _⟩ := hr.at_ (by omega); exact ⟨b, off, e⟩) n c 4 (by omega)
  have HSL := Lib.hid hsl
  have HC := Lib.hid (readRefLittle_any w.heap.size A 4 c (l.take 4) (by omega) w (hr.take h4))
  have hlt : numL (l.take 4) < 4294967296 := by
    have h := numL_lt (l.take 4)
    have h2 : (l.take 4).length ≤ 4 := by rw [List.length_take]; omega
    exact Nat.lt_of_lt_of_le h (Nat.pow_le_pow_right (n := 256) (by omega) h2)
  have e8 : (l.take 4).take 8 = l.take 4 := List.take_of_length_le (by rw [List.length_take]; omega)
  rw [e8] at HC
  generalize numL (l.take 4) = v at HC hlt
  have h1 : IntKind.u32.wrap (v : Int) = (v : Int) := by rw [IntKind.wrap_u32]; omega
  have h2 : (v : Int) % 4294967296 = (v : Int) := by omega
  have hsw := hsl w
  clear hsl hr e8
  rw [show ((4 : Nat) : Int) = 4 from rfl] at hsw
  go_enter Try.func39, Try.ntmps39
  go_wp2_with fail
  refine HC.out.mono ?_
  rintro e w1 ⟨rfl, rfl⟩
  clear hsw
  go_wp2_with fail
  go_ret
  exact ⟨rfl, rfl⟩
/-- a field of a message -/
theorem msg_rd {W : World} {P : Nat} {ty : TypeId} {k : Nat} {m : MsgM} (h : Blk W P ty m.cells) (hm : m.ok k) (q o n : Nat) (hq : msN k + o = q) (hn : o + n ≤ msB k) : Rd W W.heap.size (some ⟨P, q, none⟩) n ((m.bs.drop o).take n) := by
  subst hq
  have hl : ((m.bs.drop o).take n).length = n := by rw [List.length_take, List.length_drop, hm.2.1]; omega
  refine ⟨hl, fun _ => ⟨P, _, rfl, h.lt, fun j hj => ?_⟩⟩
  rw [hl] at hj
  rw [h.cell, MsgM.cells, List.getElem?_append_right (by rw [List.length_map, hm.1]; omega), List.length_map, hm.1, List.getElem?_map, List.getElem?_eq_getElem (by rw [hm.2.1]; omega)]
  simp only [Option.map_some, u8v, List.getElem_take, List.getElem_drop]
  congr 4
  congr 1
  omega
theorem msg_num {W : World} {P : Nat} {ty : TypeId} {m : MsgM} (h : Blk W P ty m.cells) (i v : Nat) (hv : m.nums[i]? = some v) : W.cell? ⟨P, i, none⟩ = some (.int .u32 (v : Int)) := by
  have hi : i < m.nums.length := (List.getElem?_eq_some_iff.1 hv).1
  rw [h.cell, MsgM.cells, List.getElem?_append_left (by rw [List.length_map]; exact hi), List.getElem?_map, hv]
  rfl
end Go.Proofs.Ytaolhndbpgjlcaa
