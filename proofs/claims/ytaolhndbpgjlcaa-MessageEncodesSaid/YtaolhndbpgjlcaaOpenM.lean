/-
  How the cells of messages are opened. No statement is proved here.
-/
import Derived.Test.YtaolhndbpgjlcaaOpenB
import Derived.Test.YtaolhndbpgjlcaaMsTr
namespace Go.Proofs.Ytaolhndbpgjlcaa
open Go.RowKit Go.ChangeShapes Go.WideShapes Go.ChangeAt

theorem seg_step (cs : List Value) (o z e : Nat) (h : o + z = e) : cs.drop o = (cs.drop o).take z ++ cs.drop e := by
  subst h
  rw [← List.drop_drop, List.take_append_drop]
section
variable {H : Type} {enc : TypeId × Value → H} {P : Program} {W : World} {fuel : Nat} {t : TypeId} {cs : List Value} {x : DataW H × List MemPlace}
theorem u64_cells (ht : P.underlying t = some (.int .u64)) (h : DataW.trod enc P W 0 (fun _ => true) true fuel t cs = some x) : ∃ n : Nat, cs = [.int .u64 (n : Int)] ∧ n < 18446744073709551616 := by
  obtain ⟨n, h1, _, hw⟩ := DataW.trod_int ht h
  have hb := bounds_u64 hw
  exact ⟨n.toNat, by rw [h1, Int.toNat_of_nonneg (by omega)], by omega⟩
theorem slice_cells {e : TypeId} (ht : P.underlying t = some (.slice e)) (he : P.underlying e = some (.int .u8)) (hc : P.cellsOf e = 1) (h : DataW.trod enc P W 0 (fun _ => true) true fuel t cs = some x) :
    ∃ A len cap l, cs = [.slice A len cap] ∧ len ≤ cap ∧ cap ≤ maxLen ∧ Rd W W.heap.size A len l := by
  rcases open_ints ht he hc h with ⟨hcs, _⟩ | ⟨x, l, c, zs, hcs, _, hl, hm, hz, _, hcell, hwz⟩
  · exact ⟨none, 0, 0, [], hcs, Nat.le_refl _, by simp, Rd.nil _ _ _⟩
  · simp only [if_true] at hz
    have hlen : ((zs.take l).map (fun z => UInt8.ofNat z.toNat)).length = l := by simp; omega
    refine ⟨some x, l, c, (zs.take l).map (fun z => UInt8.ofNat z.toNat), hcs, hl, hm, hlen, fun hp => ?_⟩
    obtain ⟨b, off, spot⟩ := x
    have h0 := hcell 0 (by omega)
    have hspot : spot = none := by simpa [Addr.add] using World.cell?_spot h0
    subst hspot
    refine ⟨b, off, rfl, by have := World.block_lt_of_cell? W _ h0; simpa [Addr.add] using this, fun j hj => ?_⟩
    have hj' : j < zs.length := by omega
    have hcj := hcell j hj'
    rw [add_plain] at hcj
    have hw := bounds_u8 (hwz zs[j] (List.getElem_mem hj'))
    rw [hcj, List.getElem_map, List.getElem_take]
    have : zs.getD j 0 = zs[j] := by simp [List.getD, hj']
    rw [this, UInt8.toNat_ofNat', Nat.mod_eq_of_lt (by omega)]
    congr 2
    omega
end
set_option maxRecDepth 100000 in
theorem open_msg1 {H : Type} {enc : TypeId × Value → H} {W : World} {r : Reach} {b0 : Nat} {v : Value} {d : DataW H} {p : List MemPlace} (hv : Value.okWide Try.prog W r b0 30 v) (h : DataW.Trod enc Try.prog W 0 (fun _ => true) true 30 v d p) : ∃ m : MsgM, v = .agg m.cells.toArray ∧ m.ok 1 := by
  simp only [Value.okWide, Try.underlying30] at hv
  obtain ⟨cs, rfl, hsz, _⟩ := hv
  obtain ⟨fuel, hf⟩ := h
  have hcl : (Value.cells (.agg cs)).toList = cs.toList := rfl
  rw [hcl] at hf
  obtain ⟨hl, hfl⟩ := field_cells Try.underlying30 hf
  have e2 : Try.prog.cellsOf 30 = 141 := by kernel_rfl
  rw [e2] at hl
  obtain ⟨n0, y0, h0⟩ := hfl 0 22 0 1 rfl (by kernel_rfl)
  obtain ⟨v0, hv0, hb0⟩ := u32_cells Try.underlying22 h0
  obtain ⟨p0, q0, g0⟩ := hfl 1 24 1 32 rfl (by kernel_rfl)
  obtain ⟨l0, hl0, ll0⟩ := bytes_cells Try.underlying24 Try.underlying5 (by kernel_rfl) (by kernel_rfl) g0
  obtain ⟨p1, q1, g1⟩ := hfl 2 25 33 48 rfl (by kernel_rfl)
  obtain ⟨l1, hl1, ll1⟩ := bytes_cells Try.underlying25 Try.underlying5 (by kernel_rfl) (by kernel_rfl) g1
  obtain ⟨p2, q2, g2⟩ := hfl 3 26 81 28 rfl (by kernel_rfl)
  obtain ⟨l2, hl2, ll2⟩ := bytes_cells Try.underlying26 Try.underlying5 (by kernel_rfl) (by kernel_rfl) g2
  obtain ⟨p3, q3, g3⟩ := hfl 4 28 109 16 rfl (by kernel_rfl)
  obtain ⟨l3, hl3, ll3⟩ := bytes_cells Try.underlying28 Try.underlying5 (by kernel_rfl) (by kernel_rfl) g3
  obtain ⟨p4, q4, g4⟩ := hfl 5 28 125 16 rfl (by kernel_rfl)
  obtain ⟨l4, hl4, ll4⟩ := bytes_cells Try.underlying28 Try.underlying5 (by kernel_rfl) (by kernel_rfl) g4
  have e3 : cs.toList = (MsgM.mk [v0] (l0 ++ (l1 ++ (l2 ++ (l3 ++ (l4)))))).cells := by
    have e0 : cs.toList = cs.toList.drop 0 := rfl
    rw [e0]
    rw [seg_step cs.toList 0 1 1 rfl]
    rw [seg_step cs.toList 1 32 33 rfl]
    rw [seg_step cs.toList 33 48 81 rfl]
    rw [seg_step cs.toList 81 28 109 rfl]
    rw [seg_step cs.toList 109 16 125 rfl]
    rw [seg_step cs.toList 125 16 141 rfl]
    rw [show cs.toList.drop 141 = [] from List.drop_of_length_le (by omega), hv0, hl0, hl1, hl2, hl3, hl4]
    simp only [MsgM.cells, List.map_append, List.map_cons, List.map_nil, List.append_nil, List.cons_append, List.nil_append, u32c]
  refine ⟨MsgM.mk [v0] (l0 ++ (l1 ++ (l2 ++ (l3 ++ (l4))))), by rw [← e3], rfl, ?_, ?_⟩
  · show (l0 ++ (l1 ++ (l2 ++ (l3 ++ (l4))))).length = 140
    simp only [List.length_append, ll0, ll1, ll2, ll3, ll4]
  · intro u hu
    simp only [List.mem_cons, List.not_mem_nil, or_false] at hu
    rcases hu with rfl
    exact hb0
set_option maxRecDepth 100000 in
theorem open_msg2 {H : Type} {enc : TypeId × Value → H} {W : World} {r : Reach} {b0 : Nat} {v : Value} {d : DataW H} {p : List MemPlace} (hv : Value.okWide Try.prog W r b0 32 v) (h : DataW.Trod enc Try.prog W 0 (fun _ => true) true 32 v d p) : ∃ m : MsgM, v = .agg m.cells.toArray ∧ m.ok 2 := by
  simp only [Value.okWide, Try.underlying32] at hv
  obtain ⟨cs, rfl, hsz, _⟩ := hv
  obtain ⟨fuel, hf⟩ := h
  have hcl : (Value.cells (.agg cs)).toList = cs.toList := rfl
  rw [hcl] at hf
  obtain ⟨hl, hfl⟩ := field_cells Try.underlying32 hf
  have e2 : Try.prog.cellsOf 32 = 82 := by kernel_rfl
  rw [e2] at hl
  obtain ⟨n0, y0, h0⟩ := hfl 0 22 0 1 rfl (by kernel_rfl)
  obtain ⟨v0, hv0, hb0⟩ := u32_cells Try.underlying22 h0
  obtain ⟨n1, y1, h1⟩ := hfl 1 22 1 1 rfl (by kernel_rfl)
  obtain ⟨v1, hv1, hb1⟩ := u32_cells Try.underlying22 h1
  obtain ⟨p0, q0, g0⟩ := hfl 2 24 2 32 rfl (by kernel_rfl)
  obtain ⟨l0, hl0, ll0⟩ := bytes_cells Try.underlying24 Try.underlying5 (by kernel_rfl) (by kernel_rfl) g0
  obtain ⟨p1, q1, g1⟩ := hfl 3 28 34 16 rfl (by kernel_rfl)
  obtain ⟨l1, hl1, ll1⟩ := bytes_cells Try.underlying28 Try.underlying5 (by kernel_rfl) (by kernel_rfl) g1
  obtain ⟨p2, q2, g2⟩ := hfl 4 28 50 16 rfl (by kernel_rfl)
  obtain ⟨l2, hl2, ll2⟩ := bytes_cells Try.underlying28 Try.underlying5 (by kernel_rfl) (by kernel_rfl) g2
  obtain ⟨p3, q3, g3⟩ := hfl 5 28 66 16 rfl (by kernel_rfl)
  obtain ⟨l3, hl3, ll3⟩ := bytes_cells Try.underlying28 Try.underlying5 (by kernel_rfl) (by kernel_rfl) g3
  have e3 : cs.toList = (MsgM.mk [v0, v1] (l0 ++ (l1 ++ (l2 ++ (l3))))).cells := by
    have e0 : cs.toList = cs.toList.drop 0 := rfl
    rw [e0]
    rw [seg_step cs.toList 0 1 1 rfl]
    rw [seg_step cs.toList 1 1 2 rfl]
    rw [seg_step cs.toList 2 32 34 rfl]
    rw [seg_step cs.toList 34 16 50 rfl]
    rw [seg_step cs.toList 50 16 66 rfl]
    rw [seg_step cs.toList 66 16 82 rfl]
    rw [show cs.toList.drop 82 = [] from List.drop_of_length_le (by omega), hv0, hv1, hl0, hl1, hl2, hl3]
    simp only [MsgM.cells, List.map_append, List.map_cons, List.map_nil, List.append_nil, List.cons_append, List.nil_append, u32c]
  refine ⟨MsgM.mk [v0, v1] (l0 ++ (l1 ++ (l2 ++ (l3)))), by rw [← e3], rfl, ?_, ?_⟩
  · show (l0 ++ (l1 ++ (l2 ++ (l3)))).length = 80
    simp only [List.length_append, ll0, ll1, ll2, ll3]
  · intro u hu
    simp only [List.mem_cons, List.not_mem_nil, or_false] at hu
    rcases hu with rfl | rfl
    · exact hb0
    · exact hb1
set_option maxRecDepth 100000 in
theorem open_msg3 {H : Type} {enc : TypeId × Value → H} {W : World} {r : Reach} {b0 : Nat} {v : Value} {d : DataW H} {p : List MemPlace} (hv : Value.okWide Try.prog W r b0 36 v) (h : DataW.Trod enc Try.prog W 0 (fun _ => true) true 36 v d p) : ∃ m : MsgM, v = .agg m.cells.toArray ∧ m.ok 3 := by
  simp only [Value.okWide, Try.underlying36] at hv
  obtain ⟨cs, rfl, hsz, _⟩ := hv
  obtain ⟨fuel, hf⟩ := h
  have hcl : (Value.cells (.agg cs)).toList = cs.toList := rfl
  rw [hcl] at hf
  obtain ⟨hl, hfl⟩ := field_cells Try.underlying36 hf
  have e2 : Try.prog.cellsOf 36 = 57 := by kernel_rfl
  rw [e2] at hl
  obtain ⟨n0, y0, h0⟩ := hfl 0 22 0 1 rfl (by kernel_rfl)
  obtain ⟨v0, hv0, hb0⟩ := u32_cells Try.underlying22 h0
  obtain ⟨p0, q0, g0⟩ := hfl 1 34 1 24 rfl (by kernel_rfl)
  obtain ⟨l0, hl0, ll0⟩ := bytes_cells Try.underlying34 Try.underlying5 (by kernel_rfl) (by kernel_rfl) g0
  obtain ⟨p1, q1, g1⟩ := hfl 2 23 25 32 rfl (by kernel_rfl)
  obtain ⟨l1, hl1, ll1⟩ := bytes_cells Try.underlying23 Try.underlying5 (by kernel_rfl) (by kernel_rfl) g1
  have e3 : cs.toList = (MsgM.mk [v0] (l0 ++ (l1))).cells := by
    have e0 : cs.toList = cs.toList.drop 0 := rfl
    rw [e0]
    rw [seg_step cs.toList 0 1 1 rfl]
    rw [seg_step cs.toList 1 24 25 rfl]
    rw [seg_step cs.toList 25 32 57 rfl]
    rw [show cs.toList.drop 57 = [] from List.drop_of_length_le (by omega), hv0, hl0, hl1]
    simp only [MsgM.cells, List.map_append, List.map_cons, List.map_nil, List.append_nil, List.cons_append, List.nil_append, u32c]
  refine ⟨MsgM.mk [v0] (l0 ++ (l1)), by rw [← e3], rfl, ?_, ?_⟩
  · show (l0 ++ (l1)).length = 56
    simp only [List.length_append, ll0, ll1]
  · intro u hu
    simp only [List.mem_cons, List.not_mem_nil, or_false] at hu
    rcases hu with rfl
    exact hb0
set_option maxRecDepth 100000 in
theorem open_tran {H : Type} {enc : TypeId × Value → H} {W : World} {r : Reach} {b0 : Nat} {v : Value} {d : DataW H} {p : List MemPlace} (hv : Value.okWide Try.prog W r b0 40 v) (h : DataW.Trod enc Try.prog W 0 (fun _ => true) true 40 v d p) :
    ∃ r q A len cap l, v = .agg (tranC r q A len cap).toArray ∧ r < 4294967296 ∧ q < 18446744073709551616 ∧ len ≤ cap ∧ cap ≤ maxLen ∧ Rd W W.heap.size A len l := by
  simp only [Value.okWide, Try.underlying40] at hv
  obtain ⟨cs, rfl, hsz, _⟩ := hv
  obtain ⟨fuel, hf⟩ := h
  have hcl : (Value.cells (.agg cs)).toList = cs.toList := rfl
  rw [hcl] at hf
  obtain ⟨hl, hfl⟩ := field_cells Try.underlying40 hf
  have e2 : Try.prog.cellsOf 40 = 3 := by kernel_rfl
  rw [e2] at hl
  obtain ⟨n0, y0, h0⟩ := hfl 0 22 0 1 rfl (by kernel_rfl)
  obtain ⟨n1, y1, h1⟩ := hfl 1 37 1 1 rfl (by kernel_rfl)
  obtain ⟨n2, y2, h2⟩ := hfl 2 38 2 1 rfl (by kernel_rfl)
  obtain ⟨v0, hv0, hb0⟩ := u32_cells Try.underlying22 h0
  obtain ⟨v1, hv1, hb1⟩ := u64_cells Try.underlying37 h1
  obtain ⟨A, len, cap, l, hv2, g1, g2, g3⟩ := slice_cells Try.underlying38 Try.underlying5 (by kernel_rfl) h2
  refine ⟨v0, v1, A, len, cap, l, ?_, hb0, hb1, g1, g2, g3⟩
  have e3 : cs.toList = tranC v0 v1 A len cap := by
    have e0 : cs.toList = cs.toList.drop 0 := rfl
    rw [e0, seg_step cs.toList 0 1 1 rfl, seg_step cs.toList 1 1 2 rfl, seg_step cs.toList 2 1 3 rfl, show cs.toList.drop 3 = [] from List.drop_of_length_le (by omega), hv0, hv1, hv2]
    rfl
  rw [← e3]
end Go.Proofs.Ytaolhndbpgjlcaa
