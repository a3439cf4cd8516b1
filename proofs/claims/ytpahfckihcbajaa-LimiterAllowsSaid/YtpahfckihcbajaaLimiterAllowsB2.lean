/-
  Words for lists of objects of one size that a slice holds: the first one for which a predicate holds, a place that is written, a predicate that is handed on. No function of the program is named here. burrow/api.Bucket in memory: its fields, equality, rows. No function of the program is named here. How an argument that is a list of buckets is opened. The mathematics of the limiter: what the functions of layer 19 return. No function of the program is named here. Slices of numbers that lie in memory, of whatever kind. No function of the program is named here. Slices that lie in blocks from a bound on: they stay where a row below the bound grows. No function of the program is named here. What is asked of the functions of package limiter, by their numbers. A quick look whether an operation is the one that is meant. The laws' sanity check. Equality of two structs under a guard, as an operation. Two objects are compared by == or !=, in a list of operations and in a drawn region. No function of the program is named here. Lists of times and of buckets that are equal: times, buckets of the laws. The builtin min of two numbers. The contracts of the reference's filled and oldest. The contract of the reference's oldest. The place of a new bucket. No function of the program is named here. The zero value of burrow/api.Bucket. No function of the program is named here. The elements of type burrow/api.Bucket: size, zero value, pieces of their slices. One cell of a row of objects of one size that is written. No function of the program is named here. The builtin copy of objects of any size into a block, the append of made objects where there is no room, and what slices.overlaps gives of two blocks. No function of the program is named here. Rows of buckets of a call's own: as a block, one of them written, one's tokens written; what takes the price of a message. The beginning of a slice of bytes whose address is not known. No function of the program is named here. A byte of an address. Pieces of a slice of bytes whose address is not known: what x[i:j] and x[i:] give, and what they read as. The contract of the reference's Less of addresses (off InRef3). An append of no elements: the slice itself. No function of the program is named here. Slices of slices of objects of k cells whose address is not known: x[:j], x[i:], x[:j:j]. No function of the program is named here. No statement is proved here.
-/
import Derived.Lib.AppendZerosOnto
import Derived.RegionTactic
import Derived.Deep.DeepCutAuto
import Derived.Lib.Overlaps
import Derived.Laws.OwnMore
import Derived.Test.YtpahfckihcbajaaLimiterAllowsB1
namespace Go.Proofs.Ytpahfckihcbajaa
open Go.RowKit

/-- what is asked of a predicate that is handed on, in every world in which what lies below B is as it was -/
def PredB (P : Program) (F : Nat) (lb : Array Value) (p : List Value → Bool) (B : Nat) (w : World) (os : List (List Value)) : Prop :=
  ∀ o ∈ os, ∀ W, Below B w W → Calls P F (#[.agg o.toArray] ++ lb) W fun e W' => e = .returned (.bool (p o)) ∧ Below W.heap.size W W'
theorem PredB.later {P : Program} {F : Nat} {lb : Array Value} {p : List Value → Bool} {B : Nat} {w w1 : World} {os : List (List Value)} (h : PredB P F lb p B w os) (hb : Below B w w1) : PredB P F lb p B w1 os :=
  fun o ho W hW => h o ho W (hb.trans hW)
theorem all_false {p : List Value → Bool} {os : List (List Value)} {n : Nat} (hl : os.length = n) (h : ∀ (q : Nat) x, q < n → os[q]? = some x → p x = false) : ∀ o ∈ os, p o = false := by
  intro o ho
  obtain ⟨i, hi, rfl⟩ := List.getElem_of_mem ho
  exact h i _ (by omega) (List.getElem?_eq_getElem hi)
theorem blk_at {w : World} {g : Nat} {t : TypeId} {k i : Nat} {cs : List (List Value)} {rest o : List Value} (h : Blk w g t (cs.flatten ++ rest)) (hk : ∀ o ∈ cs, o.length = k) (ho : cs[i]? = some o) : At w g (i * k) o := by
  intro j v hj
  rw [h.cell, List.getElem?_append_left]
  · exact flat_at hk i o ho j v hj
  · exact (List.getElem?_eq_some_iff.1 (flat_at hk i o ho j v hj)).1
theorem flat_set {k m : Nat} {cs : List (List Value)} {rest o : List Value} (hk : ∀ o ∈ cs, o.length = k) (ho : o.length = k) (hm : m < cs.length) : setL (cs.flatten ++ rest) (m * k) o = (cs.set m o).flatten ++ rest := by
  have hl := flat_length hk
  have h1 : (m + 1) * k ≤ cs.length * k := Nat.mul_le_mul_right k hm
  have h2 : m * k + k = (m + 1) * k := (Nat.succ_mul m k).symm
  rw [setL, ho, h2, List.take_append_of_le_length (by omega), List.drop_append_of_le_length (by omega), ← flat_take m hk, ← flat_drop (m + 1) hk, List.set_eq_take_append_cons_drop, if_pos hm]
  simp
theorem one_flat {cs : List (List Value)} (h : ∀ o ∈ cs, ∀ v ∈ o, v.oneCell' = true) : ∀ v ∈ cs.flatten, v.oneCell' = true := fun v hv => by
  obtain ⟨o, ho, h2⟩ := List.mem_flatten.1 hv
  exact h o ho v h2
theorem own_sliceK {w : World} {base e k n : Nat} {v : Value} {xs : List Value} (h : w.ownsRow base e k v n xs) : ∃ A c, v = .slice A n c ∧ n ≤ c ∧ c ≤ maxLen ∧ ∀ ad, A = some ad → base ≤ ad.block := by
  rcases h.2 with ⟨rfl, rfl⟩ | ⟨g, cap, cur, rfl, hb, _, hn, hm, _⟩
  · exact ⟨none, 0, rfl, Nat.le_refl _, by unfold maxLen; omega, fun _ h => by cases h⟩
  · exact ⟨_, _, rfl, hn, hm, fun ad h => by injection h with h; subst h; exact hb⟩
theorem addrK_zero_some (b off c k : Nat) : addrK (some ⟨b, off, none⟩) 0 c k = some ⟨b, off, none⟩ := by
  unfold addrK
  split
  · rfl
  · rw [Option.map_some, Go.WideShapes.add_plain, Nat.zero_mul, Nat.add_zero]
theorem addrK_some {b off i c k : Nat} (h : i < c) : addrK (some ⟨b, off, none⟩) i c k = some ⟨b, off + i * k, none⟩ := by
  unfold addrK
  rw [if_neg (by omega), Option.map_some, Go.WideShapes.add_plain]
theorem RdRow.ahead {W : World} {B k n : Nat} {A : Option Addr} {os : List (List Value)} (h : RdRow W B A k n os) (i c : Nat) (hi : i ≤ n) : RdRow W B (addrK A 0 c k) k i (os.take i) := by
  rcases Nat.eq_zero_or_pos i with h0 | h0
  · subst h0
    rw [List.take_zero]
    exact RdRow.nil
  · obtain ⟨b, off, rfl⟩ := h.addr (by omega)
    rw [addrK_zero_some]
    exact h.take i hi
/-- the builtin clear of the elements of a slice that lie in a block -/
theorem run_clear_objs {P : Program} (w : World) (t e ty : TypeId) (ht : P.underlying t = some (.slice e)) (z : Value) (hv : ∀ w, (zeroValue e).run P w = .ok z w) (h1 : ∀ v ∈ z.cells.toList, v.oneCell' = true) (g off n c : Nat) (bt : TypeId) (old : List Value) (hg : Blk w g bt old) (hfit : off + n * z.cells.size ≤ old.length) (hn : 0 < n) :
    ∃ w', (Builtin.clear_ #[t] ty #[.slice (some ⟨g, off, none⟩) n c]).run P w = .ok (.tuple #[]) w' ∧ Blk w' g bt (setL old off (Builtin.zeroCells z.cells n).toList) ∧ w.grownBy w' (some g) := by
  obtain ⟨m, rfl⟩ : ∃ m, n = m + 1 := ⟨n - 1, by omega⟩
  have hl : (Builtin.zeroCells z.cells (m + 1)).toList.length = (m + 1) * z.cells.size := by simp [Builtin.zeroCells]
  have ho : ∀ v ∈ (Builtin.zeroCells z.cells (m + 1)).toList, v.oneCell' = true := by
    intro v hv
    simp only [Builtin.zeroCells, Array.toList_map, Array.toList_range, List.mem_map, List.mem_range] at hv
    obtain ⟨i, hi, rfl⟩ := hv
    have hs : 0 < z.cells.size := by
      rcases Nat.eq_zero_or_pos z.cells.size with h | h
      · rw [h] at hi; omega
      · exact h
    refine h1 _ ?_
    have hlt := Nat.mod_lt i hs
    rw [getElem!_pos z.cells _ hlt]
    simp
  have hst := run_storeCells_at P g off bt (Builtin.zeroCells z.cells (m + 1)).toList 0 old.toArray w hg (by simpa [hl] using hfit) ho
  rw [Nat.add_zero] at hst
  refine ⟨w.setRow g (old.toArray.toList.take off ++ (Builtin.zeroCells z.cells (m + 1)).toList ++ old.toArray.toList.drop (off + (Builtin.zeroCells z.cells (m + 1)).toList.length)).toArray, ?_, ?_, ⟨rfl, rfl, rfl, by simp, fun k _ hk => setRow_other w g k _ (fun e => hk (by simp [e]))⟩⟩
  · simp only [Builtin.clear_, List.getElem?_toArray, List.getElem?_cons_zero, Sem.run_bind, run_underlying ht, Result.andThen_ok, hv]
    rw [hst]
    rfl
  · exact setRow_heap w g old.toArray _ bt _ hg
theorem wpList_clear_objs {P : Program} (w : World) {ops : Array Oper} {rest : List Oper} {o : Oper} {a : Act} {Q : Exit → Act → World → Prop} (hgd : o.guard = none) (d : Operand) (t e : TypeId)
    (ho : o.op = .call { callee := .builtin .clear, args := #[d], argTypes := #[t] }) (ht : P.underlying t = some (.slice e)) (z : Value) (hv : ∀ w, (zeroValue e).run P w = .ok z w) (h1 : ∀ v ∈ z.cells.toList, v.oneCell' = true)
    (g off n c : Nat) (hd : a.eval d = .slice (some ⟨g, off, none⟩) n c) (bt : TypeId) (old : List Value) (hg : Blk w g bt old) (hfit : off + n * z.cells.size ≤ old.length) (hn : 0 < n)
    (h : ∀ w', Blk w' g bt (setL old off (Builtin.zeroCells z.cells n).toList) → w.grownBy w' (some g) → wpList P ops Q rest (a.put o.dst (.tuple #[])) w') : wpList P ops Q (o :: rest) a w := by
  refine wpList_plain hgd fun K hK => ?_
  obtain ⟨w', hrun, h2, h3⟩ := run_clear_objs (P := P) w t e o.type ht z hv h1 g off n c bt old hg hfit hn
  unfold Oper.wp execOp
  simp only [ho, resolve, invoke, builtin, Sem.run_bind, Sem.run_pure, Result.andThen_ok, List.map_toArray, List.map_cons, List.map_nil, hd, hrun]
  exact hK _ _ (h w' h2 h3)
end Go.Proofs.Ytpahfckihcbajaa
namespace Go.Proofs.Ytpahfckihcbajaa
open Go.RowKit

theorem bk_cellsOf (t : BucketM) (h : t.ok) : (Try.prog.info? 44).map (·.size) = some t.cells.length := by
  rw [BucketM.cells_length h]; kernel_rfl
theorem bk_noguard : Try.prog.eqGuardType Try.prog.depth 44 = false := by kernel_rfl
set_option maxRecDepth 100000 in
theorem bk_lits (D : Nat) (t : BucketM) (h : t.ok) : LitsAt Try.prog (D + 4) 44 t.cells := by
  refine lits_struct Try.underlying44 t.cells ?_ (by simp) ?_
  · rw [BucketM.cells_length h]; kernel_rfl
  · intro f hf
    simp only [List.mem_cons, List.not_mem_nil, or_false] at hf
    rcases hf with rfl | rfl | rfl
    · have e : (t.cells.drop 0).take (Try.prog.cellsOf 35) = t.a.cells := by
        rw [show Try.prog.cellsOf 35 = 17 by kernel_rfl]
        exact seg_drop (bk_sizes h) (i := 0) rfl rfl (AddrM.cells_length h.1)
      exact e ▸ (addr_lits D t.a h.1)
    · have e : (t.cells.drop 17).take (Try.prog.cellsOf 2) = [.int .i64 t.tok] := by
        rw [show Try.prog.cellsOf 2 = 1 by kernel_rfl]
        exact seg_drop (bk_sizes h) (i := 1) rfl rfl (rfl)
      exact e ▸ (lits_int Try.underlying2 t.tok (i64_range h.2.1))
    · have e : (t.cells.drop 18).take (Try.prog.cellsOf 2) = [.int .i64 t.tm] := by
        rw [show Try.prog.cellsOf 2 = 1 by kernel_rfl]
        exact seg_drop (bk_sizes h) (i := 2) rfl rfl (rfl)
      exact e ▸ (lits_int Try.underlying2 t.tm (i64_range h.2.2))
theorem bk_eqd (r s : BucketM) (hr : r.ok) (hs : s.ok) (w : World) : (Op.equalIn 10000 44 (.agg r.cells.toArray) (.agg s.cells.toArray)).run Try.prog w = .ok (decide (r = s)) w :=
  eq_obj 8 4 44 (by omega) (by kernel_rfl) (by kernel_rfl) r.cells s.cells (bk_lits 0 r hr) (bk_lits 0 s hs) _ Try.underlying44 rfl (by rw [BucketM.cells_length hr]; kernel_rfl) (by rw [BucketM.cells_length hs]; kernel_rfl) _ (by rw [decide_eq_true_iff, bk_inj hr hs]) w
theorem bkInfo : ∃ i, Try.prog.info? 44 = some i ∧ i.zero = some (.agg bk0.cells.toArray) ∧ i.size = 19 ∧ i.bytes = 40 := by
  have h : (Try.prog.info? 44).map (fun i => (i.zero, i.size, i.bytes)) = some (some (.agg bk0.cells.toArray), 19, 40) := by kernel_rfl
  cases hi : Try.prog.info? 44 with
  | none => rw [hi] at h; cases h
  | some i =>
    rw [hi] at h
    simp only [Option.map_some, Option.some.injEq, Prod.mk.injEq] at h
    exact ⟨i, rfl, h.1, h.2.1, h.2.2⟩
theorem bk_a_at {w : World} {g off : Nat} {t : BucketM} (h : At w g off t.cells) (ho : t.ok) : At w g (off + 0) (t.a.cells) := seg_at h (bk_sizes ho) (i := 0) rfl rfl
theorem bk_tok_get {t : BucketM} (h : t.ok) : t.cells[17]? = some (.int .i64 t.tok) := seg_get (bk_sizes h) (i := 1) rfl rfl
theorem bk_tok_at {w : World} {g off : Nat} {t : BucketM} (h : At w g off t.cells) (ho : t.ok) : w.cell? ⟨g, off + 17, none⟩ = some (.int .i64 t.tok) := h 17 _ (bk_tok_get ho)
theorem bk_tok_set {t : BucketM} (h : t.ok) (v : Int) : t.cells.set 17 (.int .i64 v) = BucketM.cells { t with tok := v } := seg_set1 (bk_sizes h) (i := 1) rfl rfl
theorem bk_tm_get {t : BucketM} (h : t.ok) : t.cells[18]? = some (.int .i64 t.tm) := seg_get (bk_sizes h) (i := 2) rfl rfl
theorem bk_tm_at {w : World} {g off : Nat} {t : BucketM} (h : At w g off t.cells) (ho : t.ok) : w.cell? ⟨g, off + 18, none⟩ = some (.int .i64 t.tm) := h 18 _ (bk_tm_get ho)
theorem bk_tm_set {t : BucketM} (h : t.ok) (v : Int) : t.cells.set 18 (.int .i64 v) = BucketM.cells { t with tm := v } := seg_set1 (bk_sizes h) (i := 2) rfl rfl
set_option maxRecDepth 100000 in
theorem bk_built (t : BucketM) (h : t.ok) : Try.prog.built 44 [(0, .agg (t.a.cells).toArray), (1, .int .i64 t.tok), (2, .int .i64 t.tm)] = some t.cells.toArray := by
  rw [built_of 44 [17, 1, 1] bk0.parts (bk_sizes bk0_ok) #[(0, 17), (17, 1), (18, 1)] (fun parts => by kernel_rfl) (fun i hi => by
    match i, hi with
    | 0, _ => rfl
    | 1, _ => rfl
    | 2, _ => rfl
  ) _ (fun p hp => by
    simp only [List.mem_cons, List.not_mem_nil, or_false] at hp
    rcases hp with rfl | rfl | rfl
    · show some 17 = some (t.a.cells).toArray.size
      rw [List.size_toArray, show (t.a.cells).length = 17 from AddrM.cells_length h.1]
    · rfl
    · rfl)]
  simp [BucketM.cells, BucketM.parts, bk0, Value.cells, List.set_cons_succ, List.set_cons_zero]
def bksV (l : List BucketM) : List (List Value) := l.map BucketM.cells
/-- such structs that lie one after the other below B -/
def BkRd (W : World) (B : Nat) (A : Option Addr) (n : Nat) (l : List BucketM) : Prop := RdRow W B A 19 n (bksV l) ∧ ∀ s ∈ l, s.ok
theorem BkRd.len {W : World} {B n : Nat} {A : Option Addr} {l : List BucketM} (h : BkRd W B A n l) : l.length = n := by
  have := h.1.1
  simpa [bksV] using this
theorem BkRd.below {w W : World} {B n : Nat} {A : Option Addr} {l : List BucketM} (h : BkRd w B A n l) (hb : Below B w W) : BkRd W B A n l := ⟨h.1.below hb, h.2⟩
theorem BkRd.mono {W : World} {B C n : Nat} {A : Option Addr} {l : List BucketM} (h : BkRd W B A n l) (hc : B ≤ C) : BkRd W C A n l := ⟨h.1.mono hc, h.2⟩
theorem BkRd.nil {W : World} {B : Nat} {A : Option Addr} : BkRd W B A 0 [] := ⟨RdRow.nil, by simp⟩
theorem BkRd.addr {W : World} {B n : Nat} {A : Option Addr} {l : List BucketM} (h : BkRd W B A n l) (hn : 0 < n) : ∃ b off, A = some ⟨b, off, none⟩ := RdRow.addr h.1 hn
theorem BkRd.at {W : World} {B n b off : Nat} {l : List BucketM} (h : BkRd W B (some ⟨b, off, none⟩) n l) (i : Nat) (s : BucketM) (hi : l[i]? = some s) : b < B ∧ At W b (off + i * 19) s.cells :=
  h.1.at i s.cells (by rw [bksV, List.getElem?_map, hi]; rfl)
theorem BkRd.ok {W : World} {B n : Nat} {A : Option Addr} {l : List BucketM} (h : BkRd W B A n l) {i : Nat} {s : BucketM} (hi : l[i]? = some s) : s.ok := h.2 s (List.mem_of_getElem? hi)
theorem bksV_len (l : List BucketM) : (bksV l).length = l.length := by rw [bksV, List.length_map]
theorem bksV_size {l : List BucketM} (h : ∀ s ∈ l, s.ok) : ∀ o ∈ bksV l, o.length = 19 := fun o ho => by
  obtain ⟨s, hs, rfl⟩ := List.mem_map.1 ho
  exact BucketM.cells_length (h s hs)
theorem BkRd.of_own {W : World} {B n c : Nat} {e : TypeId} {A : Option Addr} {l : List BucketM} (hn : l.length = n) (hk : ∀ s ∈ l, s.ok) (h : W.ownsRow B e 19 (.slice A n c) n (bksV l).flatten) : BkRd W W.heap.size A n l :=
  ⟨RdRow.of_own (by rw [bksV_len, hn]) (bksV_size hk) h, hk⟩
theorem bksV_take (l : List BucketM) (j : Nat) : (bksV l).take j = bksV (l.take j) := by rw [bksV, bksV, List.map_take]
theorem bksV_drop (l : List BucketM) (j : Nat) : (bksV l).drop j = bksV (l.drop j) := by rw [bksV, bksV, List.map_drop]
theorem bksV_one (l : List BucketM) : ∀ u ∈ (bksV l).flatten, u.oneCell' = true := fun u hu => by
  obtain ⟨o, ho, h⟩ := List.mem_flatten.1 hu
  obtain ⟨s, _, rfl⟩ := List.mem_map.1 ho
  exact bk_one s u h
theorem bksV_append (l m : List BucketM) : (bksV l).flatten ++ (bksV m).flatten = (bksV (l ++ m)).flatten := by simp [bksV]
theorem BkRd.ahead {W : World} {B n : Nat} {A : Option Addr} {l : List BucketM} (h : BkRd W B A n l) (i c : Nat) (hi : i ≤ n) : BkRd W B (addrK A 0 c 19) i (l.take i) := by
  have h2 := RdRow.ahead h.1 i c hi
  rw [bksV_take] at h2
  exact ⟨h2, fun p hp => h.2 p (List.mem_of_mem_take hp)⟩
theorem BkRd.behind {W : World} {B n : Nat} {A : Option Addr} {l : List BucketM} (h : BkRd W B A n l) (i c : Nat) (hi : i ≤ n) (hc : n ≤ c) : BkRd W B (addrK A i c 19) (n - i) (l.drop i) := by
  have h2 := RdRow.behind h.1 i c hi hc
  rw [bksV_drop] at h2
  exact ⟨h2, fun p hp => h.2 p (List.mem_of_mem_drop hp)⟩
end Go.Proofs.Ytpahfckihcbajaa
namespace Go.Proofs.Ytpahfckihcbajaa
open Go.RowKit Go.ChangeShapes Go.WideShapes Go.ChangeAt

set_option maxRecDepth 100000 in
theorem bucket_cells_of {H : Type} {enc : TypeId × Value → H} {W : World} {fuel : Nat} {cs : List Value} {x : DataW H × List MemPlace} (h : DataW.trod enc Try.prog W 0 (fun _ => true) true fuel 44 cs = some x) : ∃ s : BucketM, cs = s.cells ∧ s.ok := by
  obtain ⟨hl, hfl⟩ := field_cells Try.underlying44 h
  obtain ⟨n0, y0, h0⟩ := hfl 0 35 0 17 rfl (by kernel_rfl)
  obtain ⟨n1, y1, h1⟩ := hfl 1 2 17 1 rfl (by kernel_rfl)
  obtain ⟨n2, y2, h2⟩ := hfl 2 2 18 1 rfl (by kernel_rfl)
  obtain ⟨a, ha, hok⟩ := addr_cells_of h0
  obtain ⟨i, hi, hi1, hi2⟩ := i64_cells Try.underlying2 h1
  obtain ⟨d, hd, hd1, hd2⟩ := i64_cells Try.underlying2 h2
  have e2 : Try.prog.cellsOf 44 = 19 := by kernel_rfl
  rw [e2] at hl
  refine ⟨⟨a, i, d⟩, ?_, hok, ⟨hi1, hi2⟩, hd1, hd2⟩
  have h3 := seg_two cs 17 2 (by omega)
  have h4 := seg_two (cs.drop 17) 1 1 (by rw [List.length_drop]; omega)
  rw [List.drop_zero] at h3 h4 ha
  rw [List.drop_drop] at h4
  have h5 : (cs.drop 17).take 2 = cs.drop 17 := List.take_of_length_le (by rw [List.length_drop]; omega)
  rw [h5, h4, hi, ha, hd] at h3
  rw [h3]
  simp [BucketM.cells, BucketM.parts]
theorem bks_of : ∀ {os : List (List Value)}, (∀ o ∈ os, ∃ s : BucketM, o = s.cells ∧ s.ok) → ∃ l : List BucketM, os = bksV l ∧ ∀ s ∈ l, s.ok
  | [], _ => ⟨[], rfl, by simp⟩
  | o :: os, h => by
    obtain ⟨r, rfl, hr⟩ := h o (List.mem_cons_self ..)
    obtain ⟨l, rfl, hl⟩ := bks_of (fun o ho => h o (List.mem_cons_of_mem _ ho))
    exact ⟨r :: l, rfl, fun q hq => by
      rcases List.mem_cons.1 hq with rfl | hq
      · exact hr
      · exact hl q hq⟩
set_option maxRecDepth 100000 in
theorem open_buckets {H : Type} {enc : TypeId × Value → H} {W : World} {r : Reach} {b0 : Nat} {v : Value} {d : DataW H} {p : List MemPlace} (hv : Value.okWide Try.prog W r b0 32 v) (h : DataW.Trod enc Try.prog W 0 (fun _ => true) true 32 v d p) :
    ∃ A len cap l, v = .slice A len cap ∧ len ≤ cap ∧ cap ≤ maxLen ∧ BkRd W W.heap.size A len l := by
  obtain ⟨A, len, cap, os, hv2, h1, h2, h3, h4⟩ := open_objs Try.underlying32 19 (by kernel_rfl) (by omega) (fun cs => ∃ s : BucketM, cs = s.cells ∧ s.ok) (fun _ _ _ h => bucket_cells_of h) hv h
  obtain ⟨l, rfl, hl⟩ := bks_of h4
  exact ⟨A, len, cap, l, hv2, h1, h2, h3, hl⟩
end Go.Proofs.Ytpahfckihcbajaa
namespace Go.Proofs.Ytpahfckihcbajaa
open Go.RowKit

/-- a bucket at a later time -/
def filledM (b : BucketM) (now : Int) : BucketM := { b with tok := if b.tm < now then min 5000 (b.tok + 20 * min (now - b.tm) 250) else b.tok, tm := now }
/-- the index of the first bucket with the least time -/
def oldestS (l : List BucketM) (best i : Nat) : Nat := match l[i]?, l[best]? with
  | some b, some c => if b.tm < c.tm then i else best
  | _, _ => best
def oldestM (l : List BucketM) : Nat := (List.range l.length).foldl (oldestS l) 0
/-- the list with room for one more -/
def roomM (l : List BucketM) : List BucketM := if 16 ≤ l.length then l.eraseIdx (oldestM l) else l
def aheadB (a : AddrM) (l : List BucketM) : Nat := (l.findIdx? fun b => lessM a b.a).getD l.length
def newM (a : AddrM) (now : Int) : BucketM := ⟨a, 5000, now⟩
/-- the list with the bucket of the address brought to the time, and its place -/
def givenM (l : List BucketM) (a : AddrM) (now : Int) : List BucketM × Nat := match l.findIdx? fun b => decide (b.a = a) with
  | some i => (l.modify i fun b => filledM b now, i)
  | none => ((roomM l).take (aheadB a (roomM l)) ++ newM a now :: (roomM l).drop (aheadB a (roomM l)), aheadB a (roomM l))
def takeB (p : List BucketM × Nat) : List BucketM × Bool := match p.1[p.2]? with
  | none => (p.1, false)
  | some b => if b.tok < 1000 then (p.1, false) else (p.1.set p.2 { b with tok := b.tok - 1000 }, true)
def allowM (l : List BucketM) (a : AddrM) (now : Int) : List BucketM × Bool := takeB (givenM l a now)
/-- tokens as the document promises them -/
def tokOk (l : List BucketM) : Prop := ∀ b ∈ l, 0 ≤ b.tok ∧ b.tok ≤ 5000
end Go.Proofs.Ytpahfckihcbajaa
namespace Go.Proofs.Ytpahfckihcbajaa
open Go.RowKit

def intsV (k : IntKind) (l : List Int) : List (List Value) := l.map fun x => [.int k x]
def IntRd (k : IntKind) (W : World) (B : Nat) (A : Option Addr) (n : Nat) (l : List Int) : Prop := RdRow W B A 1 n (intsV k l)
theorem intsV_len (k : IntKind) (l : List Int) : (intsV k l).length = l.length := by rw [intsV, List.length_map]
theorem IntRd.len {k : IntKind} {W : World} {B n : Nat} {A : Option Addr} {l : List Int} (h : IntRd k W B A n l) : l.length = n := by
  have := h.1
  rwa [intsV_len] at this
theorem IntRd.below {k : IntKind} {w W : World} {B n : Nat} {A : Option Addr} {l : List Int} (h : IntRd k w B A n l) (hb : Below B w W) : IntRd k W B A n l := RdRow.below h hb
theorem IntRd.mono {k : IntKind} {W : World} {B C n : Nat} {A : Option Addr} {l : List Int} (h : IntRd k W B A n l) (hc : B ≤ C) : IntRd k W C A n l := RdRow.mono h hc
theorem IntRd.nil {k : IntKind} {W : World} {B : Nat} {A : Option Addr} : IntRd k W B A 0 [] := RdRow.nil
theorem IntRd.addr {k : IntKind} {W : World} {B n : Nat} {A : Option Addr} {l : List Int} (h : IntRd k W B A n l) (hn : 0 < n) : ∃ b off, A = some ⟨b, off, none⟩ := RdRow.addr h hn
theorem IntRd.at {k : IntKind} {W : World} {B n b off : Nat} {l : List Int} (h : IntRd k W B (some ⟨b, off, none⟩) n l) (i : Nat) (x : Int) (hi : l[i]? = some x) : b < B ∧ W.cell? ⟨b, off + i, none⟩ = some (.int k x) := by
  have h2 := RdRow.at h i [.int k x] (by rw [intsV, List.getElem?_map, hi]; rfl)
  refine ⟨h2.1, ?_⟩
  have h3 := h2.2 0 _ rfl
  simpa using h3
theorem intsV_take (k : IntKind) (l : List Int) (j : Nat) : (intsV k l).take j = intsV k (l.take j) := by rw [intsV, intsV, List.map_take]
theorem IntRd.ahead {k : IntKind} {W : World} {B n : Nat} {A : Option Addr} {l : List Int} (h : IntRd k W B A n l) (i c : Nat) (hi : i ≤ n) : IntRd k W B (addrK A 0 c 1) i (l.take i) := by
  have h2 := RdRow.ahead h i c hi
  rwa [intsV_take] at h2
end Go.Proofs.Ytpahfckihcbajaa
namespace Go.Proofs.Ytpahfckihcbajaa
open Go.RowKit

/-- the slice, if it has an address, lies from B on -/
def Fresh (B : Nat) (A : Option Addr) : Prop := ∀ ad, A = some ad → B ≤ ad.block
theorem Fresh.nil (B : Nat) : Fresh B none := fun _ h => by cases h
theorem Fresh.mono {B C : Nat} {A : Option Addr} (h : Fresh B A) (hc : C ≤ B) : Fresh C A := fun ad ha => Nat.le_trans hc (h ad ha)
theorem Fresh.addrK {B : Nat} {A : Option Addr} (h : Fresh B A) (i c k : Nat) : Fresh B (addrK A i c k) := by
  intro ad ha
  unfold Go.Proofs.Ytpahfckihcbajaa.addrK at ha
  split at ha
  · exact h ad ha
  · cases A with
    | none => cases ha
    | some a =>
      simp only [Option.map_some, Option.some.injEq] at ha
      subst ha
      have h1 := h a rfl
      unfold Addr.add
      first
        | exact h1
        | (split <;> exact h1)
end Go.Proofs.Ytpahfckihcbajaa
namespace Go.Proofs.Ytpahfckihcbajaa
open Go.RowKit

def LmAllowC (F : Nat) : Prop := ∀ (A : Option Addr) (n c : Nat) (l : List BucketM) (a : AddrM) (now : Int) (w : World), n ≤ c → c ≤ maxLen → n ≤ 1000 → BkRd w w.heap.size A n l → tokOk l → a.ok → inI64 now →
  Calls Try.prog F #[.slice A n c, .agg a.cells.toArray, .int .i64 now] w fun e w' => ∃ A' n' c', e = .returned (.tuple #[.slice A' n' c', .bool (allowM l a now).2]) ∧ n' ≤ c' ∧ c' ≤ maxLen ∧ BkRd w' w'.heap.size A' n' (allowM l a now).1 ∧ Below w.heap.size w w'
end Go.Proofs.Ytpahfckihcbajaa
namespace Go.Proofs.Ytpahfckihcbajaa
open Go.RowKit

theorem at_op {P : Program} {w : World} {ops : Array Oper} {rest : List Oper} {o : Oper} {a : Act} {Q : Exit → Act → World → Prop} (p : Op) (_ : o.op = p) (h : wpList P ops Q (o :: rest) a w) : wpList P ops Q (o :: rest) a w := h
end Go.Proofs.Ytpahfckihcbajaa
namespace Go.Proofs.Ytpahfckihcbajaa
open Go.RowKit
def bgL (j : Nat) : List BucketM := if j = 0 then [] else [⟨addr0, 5000 - 1000 * (min j 5 : Nat), 0⟩]
theorem bg_step (j : Nat) (h : j ≤ 5) : allowM (bgL j) addr0 0 = (bgL (j + 1), decide (j < 5)) := by
  rcases (show j = 0 ∨ j = 1 ∨ j = 2 ∨ j = 3 ∨ j = 4 ∨ j = 5 by omega) with rfl | rfl | rfl | rfl | rfl | rfl <;> rfl
theorem bg_last : (allowM (bgL 6) addr0 50).2 = true := rfl
theorem bg_len (j : Nat) : (bgL j).length ≤ 1 := by
  unfold bgL
  split <;> simp
theorem bg_tok (j : Nat) : tokOk (bgL j) := by
  intro b hb
  unfold bgL at hb
  split at hb
  · simp at hb
  · rw [List.mem_singleton] at hb
    subst hb
    constructor
    · show (0 : Int) ≤ 5000 - 1000 * ((min j 5 : Nat) : Int)
      omega
    · show (5000 : Int) - 1000 * ((min j 5 : Nat) : Int) ≤ 5000
      omega
set_option maxRecDepth 100000 in
set_option maxHeartbeats 8000000 in
theorem lm_begun_any (HP : LmAllowC 17) (w : World) :
    Calls Try.prog 13 #[] w fun e w' => e = .returned (.bool true) ∧ Below w.heap.size w w' := by
  have HPA := Lib.hid HP
  obtain ⟨az, haz⟩ : ∃ z, addr0.cells.toArray = z := ⟨_, rfl⟩
  have HAZ := Lib.hid haz
  have HBT := Lib.hid (show Try.prog.built 35 [] = some az from by rw [← haz]; kernel_rfl)
  clear HP haz
  go_enter Try.func13, Try.ntmps13
  go_wp2_with fail
  go_loopw [1, 2, 3] (fun l k i wr => ∃ (j : Nat) (A : Option Addr) (n c : Nat), j ≤ 6 ∧ i = .int .i64 (j : Int) ∧ k = .int .i64 ((min j 5 : Nat) : Int) ∧ l = .slice A n c ∧ n ≤ c ∧ c ≤ maxLen ∧ BkRd wr wr.heap.size A n (bgL j) ∧ Below w.heap.size w wr) (fun _ _ i _ => 6 - (intOf i).toNat)
  case atStart => exact ⟨0, none, 0, 0, by omega, rfl, rfl, rfl, Nat.le_refl _, by unfold maxLen; omega, BkRd.nil, Below.refl _ _⟩
  case round =>
    obtain ⟨j, A, n, c, hj, rfl, rfl, rfl, hnc, hcm, hr, hb⟩ := hrel
    have hn1 : n ≤ 1000 := by have := hr.len; have := bg_len j; omega
    have HB := Lib.hid hb
    by_cases hj6 : j < 6
    · have d1 : decide ((j : Int) < 6) = true := by simp; omega
      have hcall := HPA.out A n c (bgL j) addr0 0 wr hnc hcm hn1 hr (bg_tok j) addr0_ok (by unfold inI64; omega)
      rw [HAZ.out, bg_step j (by omega)] at hcall
      have HCALL := Lib.hid hcall
      obtain ⟨m, hm⟩ : ∃ m, min j 5 = m := ⟨_, rfl⟩
      rw [hm]
      have hm1 : m ≤ 5 := by omega
      obtain ⟨y, hy⟩ : ∃ y, decide (j < 5) = y := ⟨_, rfl⟩
      simp only [hy] at HCALL
      have HM := Lib.hid (And.intro hm hy)
      clear hcall hnc hcm hn1 hr hb hm hy
      go_wp2_with ((with_reducible refine at_op (.build 35 #[]) rfl ?_); refine wpList_build_as rfl 35 [] rfl az ?_ ?_; exact HBT.out)
      refine HCALL.out.mono ?_
      rintro e w2 ⟨A2, n2, c2, rfl, h1, h2, hr2, hb2⟩
      have HR2 := Lib.hid (And.intro h1 (And.intro h2 (And.intro hr2 (HB.out.trans (hb2.mono HB.out.size)))))
      clear h1 h2 hr2 hb2 HCALL d1
      obtain ⟨j2, hj2⟩ : ∃ z, j + 1 = z := ⟨_, rfl⟩
      have e8 : (j : Int) + 1 = (j2 : Int) := by omega
      have w8' : IntKind.i64.wrap (j2 : Int) = (j2 : Int) := by rw [IntKind.wrap_i64]; omega
      have HJ := Lib.hid (show j2 ≤ 6 ∧ 6 - j2 < 6 - j ∧ j2 = j + 1 from by omega)
      rw [hj2] at HR2
      clear hj2 hj hj6
      cases y with
      | true =>
        obtain ⟨m2, hm2⟩ : ∃ z, m + 1 = z := ⟨_, rfl⟩
        have e9 : (m : Int) + 1 = (m2 : Int) := by omega
        have w9' : IntKind.i64.wrap (m2 : Int) = (m2 : Int) := by rw [IntKind.wrap_i64]; omega
        have HMM := Lib.hid (show min j2 5 = m2 from by have h1 := HM.out.1; have h2 := of_decide_eq_true HM.out.2; have h3 := HJ.out.2.2; omega)
        clear hm2 hm1
        go_wp2_with fail
        go_roundw
        case rel => exact ⟨j2, A2, n2, c2, HJ.out.1, rfl, by rw [HMM.out], rfl, HR2.out.1, HR2.out.2.1, HR2.out.2.2.1, HR2.out.2.2.2⟩
        case measure => simp [intOf]; exact HJ.out.2.1
      | false =>
        have HMM := Lib.hid (show min j2 5 = m from by have h1 := HM.out.1; have h2 := of_decide_eq_false HM.out.2; have h3 := HJ.out.2.2; omega)
        clear hm1
        go_wp2_with fail
        go_roundw
        case rel => exact ⟨j2, A2, n2, c2, HJ.out.1, rfl, by rw [HMM.out], rfl, HR2.out.1, HR2.out.2.1, HR2.out.2.2.1, HR2.out.2.2.2⟩
        case measure => simp [intOf]; exact HJ.out.2.1
    · obtain rfl : j = 6 := by omega
      have d1 : decide (((6 : Nat) : Int) < 6) = false := by decide
      have hcall := HPA.out A n c (bgL 6) addr0 50 wr hnc hcm hn1 hr (bg_tok 6) addr0_ok (by unfold inI64; omega)
      rw [HAZ.out, bg_last] at hcall
      have HCALL := Lib.hid hcall
      clear hcall hnc hcm hn1 hr hb hj hj6
      go_wp2_with ((with_reducible refine at_op (.build 35 #[]) rfl ?_); refine wpList_build_as rfl 35 [] rfl az ?_ ?_; exact HBT.out)
      refine HCALL.out.mono ?_
      rintro e w2 ⟨A2, n2, c2, rfl, _, _, _, hb2⟩
      have HF := Lib.hid (HB.out.trans (hb2.mono HB.out.size))
      clear hb2 HCALL
      go_wp2
      go_ret
      exact ⟨rfl, HF.out⟩
end Go.Proofs.Ytpahfckihcbajaa
namespace Go.Proofs.Ytpahfckihcbajaa
open Go.RowKit

theorem wpList_eql_agg {P : Program} {w : World} {ops : Array Oper} {rest : List Oper} {o : Oper} {a : Act} {Q : Exit → Act → World → Prop} (hw : Region.wanted o (yielded ops a.tmps) = true) (t r : TypeId) (i j : Tmp) (ho : o.op = .binOp .eql t (.tmp i) (.tmp j) r) (u v : Array Value) (b : Bool)
    (hx : a.eval (.tmp i) = .agg u) (hy : a.eval (.tmp j) = .agg v) (hg : P.eqGuardType P.depth t = false) (he : (Op.equalIn 10000 t (.agg u) (.agg v)).run P w = .ok b w)
    (h : wpList P ops Q rest (a.put o.dst (.bool b)) w) : wpList P ops Q (o :: rest) a w :=
  wpList_step fun K hK => by
    rw [if_pos hw]
    have he2 : (Op.equalIn Op.maxDepth t (.agg u) (.agg v)).run P w = .ok b w := he
    have hr : (execOp a.eval o).run P w = .ok (.value (.bool b)) w := by
      unfold execOp
      simp only [ho, hx, hy, eqGuard]
      simp [binOp, Op.equal, he2, hg, Result.andThen]
    unfold Oper.wp
    rw [hr]
    exact hK _ _ h
end Go.Proofs.Ytpahfckihcbajaa
namespace Go.Proofs.Ytpahfckihcbajaa
open Go.RowKit

theorem run_cmp_agg {P : Program} (ρ : Operand → Value) (o : Oper) (t r : TypeId) (i j : Tmp) (neg : Bool) (ho : o.op = .binOp (if neg then .neq else .eql) t (.tmp i) (.tmp j) r) (u v : Array Value) (b : Bool) (w : World) (hx : ρ (.tmp i) = .agg u) (hy : ρ (.tmp j) = .agg v) (hg : P.eqGuardType P.depth t = false) (he : (Op.equalIn 10000 t (.agg u) (.agg v)).run P w = .ok b w) :
    (execOp ρ o).run P w = .ok (.value (.bool (if neg then !b else b))) w := by
  have he2 : (Op.equalIn Op.maxDepth t (.agg u) (.agg v)).run P w = .ok b w := he
  unfold execOp
  cases neg
  · rw [if_neg (by decide)] at ho
    simp only [ho, hx, hy, eqGuard]
    simp [binOp, Op.equal, he2, hg, Result.andThen]
  · rw [if_pos rfl] at ho
    simp only [ho, hx, hy, eqGuard]
    simp [binOp, Op.equal, he2, hg, Result.andThen]
theorem yields_cmp_agg {P : Program} {ops : Array Oper} {S : World → Prop} {o : Oper} {a : Act} (neg : Bool) (hw : Region.wanted o (yielded ops a.tmps) = true) (t r : TypeId) (i j : Tmp) (ho : o.op = .binOp (if neg then .neq else .eql) t (.tmp i) (.tmp j) r) (u v : Array Value) (b : Bool)
    (hx : a.eval (.tmp i) = .agg u) (hy : a.eval (.tmp j) = .agg v) (hg : P.eqGuardType P.depth t = false) (he : ∀ w, (Op.equalIn 10000 t (.agg u) (.agg v)).run P w = .ok b w) : YieldsIf P ops S o (.bool (if neg then !b else b)) a :=
  .inl ⟨hw, fun w _ => run_cmp_agg a.eval o t r i j neg ho u v b w hx hy hg (he w)⟩
end Go.Proofs.Ytpahfckihcbajaa
namespace Go.Proofs.Ytpahfckihcbajaa
open Go.RowKit
set_option maxRecDepth 100000 in
set_option maxHeartbeats 8000000 in
theorem lm_buckets_any (A A' : Option Addr) (n c c' : Nat) (l : List BucketM) (hn : n ≤ 1000) (w : World) (ha : BkRd w w.heap.size A n l) (hb : BkRd w w.heap.size A' n l) :
    Calls Try.prog 19 #[.slice A n c, .slice A' n c'] w fun e w' => e = .returned (.bool true) ∧ Below w.heap.size w w' := by
  have HA := Lib.hid ha
  have HB := Lib.hid hb
  have HLN := Lib.hid ha.len
  clear ha hb
  have sn : ((n : Int) != (n : Int)) = false := by simp
  go_enter Try.func19, Try.ntmps19
  go_wp2_with fail
  clear sn
  go_loopw [13] (fun i wr => ∃ j : Nat, j ≤ n ∧ i = .int .i64 (j : Int) ∧ Below w.heap.size w wr) (fun i _ => n - (intOf i).toNat)
  case atStart => exact ⟨0, Nat.zero_le _, rfl, Below.refl _ _⟩
  case round =>
    obtain ⟨j, hj, rfl, hW⟩ := hrel
    have HW := Lib.hid hW
    clear hW
    by_cases hjn : j < n
    · have d1 : decide ((j : Int) < (n : Int)) = true := by simp; omega
      obtain ⟨b, off, rfl⟩ := HA.out.addr (by omega)
      obtain ⟨b', off', rfl⟩ := HB.out.addr (by omega)
      obtain ⟨r, hr⟩ : ∃ r, l[j]? = some r := ⟨l[j]'(by rw [HLN.out]; exact hjn), List.getElem?_eq_getElem _⟩
      have HOK := Lib.hid (HA.out.ok hr)
      have HLA := Lib.hid (show ∀ W, Below w.heap.size w W → At W b (off + j * 19) r.cells from fun W hW => (HA.out.at j r hr).2.mono hW (HA.out.at j r hr).1)
      have HLB := Lib.hid (show ∀ W, Below w.heap.size w W → At W b' (off' + j * 19) r.cells from fun W hW => (HB.out.at j r hr).2.mono hW (HB.out.at j r hr).1)
      have heq : ∀ w' : World, (Op.equalIn 10000 44 (.agg r.cells.toArray) (.agg r.cells.toArray)).run Try.prog w' = .ok true w' := fun w' => by simpa using bk_eqd r r HOK.out HOK.out w'
      obtain ⟨ck, hck⟩ : ∃ c, r.cells.toArray = c := ⟨_, rfl⟩
      rw [hck] at heq
      have HEQ := Lib.hid heq
      have HCK := Lib.hid hck
      clear hck hr heq
      go_upto_region 6 with fail
      clear d1
      refine wp_region_held_drew (S := fun W' => Below w.heap.size w W') (by kernel_rfl) (HW.out.drew) (fun hHeld => ?_)
      refine take_first (v := ?_) 0 rfl (by kernel_rfl) (by kernel_rfl) (by kernel_rfl) (fun _ _ _ h => h) (Or.inl ⟨by rfl, ?_⟩) (by assumption) ?_
      rotate_left
      · (intro w hSw; (try dsimp only at hSw); go_simp; try with_reducible rfl)
      (try simp only [Act.put, List.setIfInBounds_toArray, List.set_cons_zero, List.set_cons_succ])
      refine take_first (v := ?_) 1 rfl (by kernel_rfl) (by kernel_rfl) (by kernel_rfl) (fun _ _ _ h => h) (Or.inl ⟨by rfl, ?_⟩) (by assumption) ?_
      rotate_left
      · (intro w hSw; (try dsimp only at hSw); go_simp; try with_reducible rfl)
      (try simp only [Act.put, List.setIfInBounds_toArray, List.set_cons_zero, List.set_cons_succ])
      refine take_first (v := ?_) 2 rfl (by kernel_rfl) (by kernel_rfl) (by kernel_rfl) (fun _ _ _ h => h) (Or.inl ⟨by rfl, ?_⟩) (by assumption) ?_
      rotate_left
      · (intro w hSw; (try dsimp only at hSw); go_simp; try with_reducible rfl)
      (try simp only [Act.put, List.setIfInBounds_toArray, List.set_cons_zero, List.set_cons_succ])
      refine take_first (v := .agg ck) 3 rfl (by kernel_rfl) (by kernel_rfl) (by kernel_rfl) (fun _ _ _ h => h) (by rw [← HCK.out]; exact yields_load_obj (by rfl) 44 (.tmp 18) rfl b _ rfl _ (fun W hW => HLA.out W hW) _ Try.underlying44 rfl (bk_cellsOf r HOK.out)) (by assumption) ?_
      (try simp only [Act.put, List.setIfInBounds_toArray, List.set_cons_zero, List.set_cons_succ])
      refine take_first (v := ?_) 4 rfl (by kernel_rfl) (by kernel_rfl) (by kernel_rfl) (fun _ _ _ h => h) (Or.inl ⟨by rfl, ?_⟩) (by assumption) ?_
      rotate_left
      · (intro w hSw; (try dsimp only at hSw); go_simp; try with_reducible rfl)
      (try simp only [Act.put, List.setIfInBounds_toArray, List.set_cons_zero, List.set_cons_succ])
      refine take_first (v := ?_) 5 rfl (by kernel_rfl) (by kernel_rfl) (by kernel_rfl) (fun _ _ _ h => h) (Or.inl ⟨by rfl, ?_⟩) (by assumption) ?_
      rotate_left
      · (intro w hSw; (try dsimp only at hSw); go_simp; try with_reducible rfl)
      (try simp only [Act.put, List.setIfInBounds_toArray, List.set_cons_zero, List.set_cons_succ])
      refine take_first (v := ?_) 6 rfl (by kernel_rfl) (by kernel_rfl) (by kernel_rfl) (fun _ _ _ h => h) (Or.inl ⟨by rfl, ?_⟩) (by assumption) ?_
      rotate_left
      · (intro w hSw; (try dsimp only at hSw); go_simp; try with_reducible rfl)
      (try simp only [Act.put, List.setIfInBounds_toArray, List.set_cons_zero, List.set_cons_succ])
      refine take_first (v := .agg ck) 7 rfl (by kernel_rfl) (by kernel_rfl) (by kernel_rfl) (fun _ _ _ h => h) (by rw [← HCK.out]; exact yields_load_obj (by rfl) 44 (.tmp 22) rfl b' _ rfl _ (fun W hW => HLB.out W hW) _ Try.underlying44 rfl (bk_cellsOf r HOK.out)) (by assumption) ?_
      (try simp only [Act.put, List.setIfInBounds_toArray, List.set_cons_zero, List.set_cons_succ])
      refine take_first (v := .bool false) 8 rfl (by kernel_rfl) (by kernel_rfl) (by kernel_rfl) (fun _ _ _ h => h) (yields_cmp_agg true (by rfl) 44 44 19 23 rfl ck ck true rfl rfl bk_noguard (fun w' => HEQ.out w')) (by assumption) ?_
      (try simp only [Act.put, List.setIfInBounds_toArray, List.set_cons_zero, List.set_cons_succ])
      refine wpAnyH_done (by kernel_rfl) ?_ _
      go_wp2
      go_roundw
      case rel => exact ⟨j + 1, by omega, by go_num, by assumption⟩
      case measure => simp [intOf]; omega
    · obtain rfl : j = n := by omega
      have d1 : decide ((j : Int) < (j : Int)) = false := by simp
      have HF := Lib.hid HW.out
      go_wp2
      go_ret
      exact ⟨rfl, HF.out⟩
end Go.Proofs.Ytpahfckihcbajaa
namespace Go.Proofs.Ytpahfckihcbajaa
open Go.RowKit

theorem wpList_min_k {P : Program} {w : World} {ops : Array Oper} {rest : List Oper} {o : Oper} {a : Act} {Q : Exit → Act → World → Prop} (hgd : o.guard = none) (x y : Operand) (ts : Array TypeId) (ho : o.op = .call { callee := .builtin .min, args := #[x, y], argTypes := ts })
    (k : IntKind) (u v m : Int) (hx : a.eval x = .int k u) (hy : a.eval y = .int k v) (hm : min u v = m) (h : wpList P ops Q rest (a.put o.dst (.int k m)) w) : wpList P ops Q (o :: rest) a w :=
  wpList_plain hgd fun K hK => by
    have hr : (Builtin.min_ ts o.type #[.int k u, .int k v]).run P w = .ok (.int k m) w := by
      subst hm
      by_cases huv : u ≤ v
      · rw [Int.min_eq_left huv]
        simp [Builtin.min_, Builtin.min2]
        try omega
      · rw [Int.min_eq_right (by omega)]
        simp [Builtin.min_, Builtin.min2]
        try omega
    unfold Oper.wp execOp
    simp only [ho, resolve, invoke, builtin, Sem.run_bind, Sem.run_pure, Result.andThen_ok, List.map_toArray, List.map_cons, List.map_nil, hx, hy, hr]
    exact hK _ _ h
end Go.Proofs.Ytpahfckihcbajaa
namespace Go.Proofs.Ytpahfckihcbajaa
open Go.RowKit
theorem filled_ok {b : BucketM} (h : b.ok) {now : Int} (hn : inI64 now) (h0 : 0 ≤ b.tok) (h5 : b.tok ≤ 5000) : (filledM b now).ok ∧ 0 ≤ (filledM b now).tok ∧ (filledM b now).tok ≤ 5000 := by
  have ht : 0 ≤ (filledM b now).tok ∧ (filledM b now).tok ≤ 5000 := by
    unfold filledM
    by_cases hl : b.tm < now
    · simp only [if_pos hl]
      omega
    · simp only [if_neg hl]
      omega
  exact ⟨⟨h.1, ⟨by have := ht.1; omega, by have := ht.2; omega⟩, hn⟩, ht⟩
set_option maxRecDepth 100000 in
set_option maxHeartbeats 8000000 in
theorem filled_any (b : BucketM) (now : Int) (hb : b.ok) (hn : inI64 now) (h0 : 0 ≤ b.tok) (h5 : b.tok ≤ 5000) (w : World) :
    Calls Try.prog 36 #[.agg b.cells.toArray, .int .i64 now] w fun e w' => e = .returned (.agg (filledM b now).cells.toArray) ∧ Below w.heap.size w w' := by
  have HO := Lib.hid hb
  obtain ⟨cb, hcb⟩ : ∃ z, b.cells.toArray = z := ⟨_, rfl⟩
  rw [hcb]
  have HCB := Lib.hid hcb
  obtain ⟨zs, hzs⟩ : ∃ z, (#[.bool false, .int .u8 0, .int .u8 0, .int .u8 0, .int .u8 0, .int .u8 0, .int .u8 0, .int .u8 0, .int .u8 0, .int .u8 0, .int .u8 0, .int .u8 0, .int .u8 0, .int .u8 0, .int .u8 0, .int .u8 0, .int .u8 0, .int .i64 0, .int .i64 0] : Array Value).toList = z := ⟨_, rfl⟩
  have HZL := Lib.hid (show zs.length = 19 from by rw [← hzs]; rfl)
  have HM := Lib.hid (show Mem w [blkE (w.heap.size + 1) 44 zs, blkE w.heap.size 44 b.cells] ((w.alloc (.cells cb 44)).alloc (.cells #[.bool false, .int .u8 0, .int .u8 0, .int .u8 0, .int .u8 0, .int .u8 0, .int .u8 0, .int .u8 0, .int .u8 0, .int .u8 0, .int .u8 0, .int .u8 0, .int .u8 0, .int .u8 0, .int .u8 0, .int .u8 0, .int .u8 0, .int .i64 0, .int .i64 0] 44)) from ((Mem.nil w).alloc rfl 44 cb _ hcb.symm).alloc (by simp) 44 _ zs (by rw [← hzs]))
  have hfo := (filled_ok hb hn h0 h5).1
  obtain ⟨r, hr⟩ : ∃ r, filledM b now = r := ⟨_, rfl⟩
  rw [hr] at hfo ⊢
  have HFO := Lib.hid hfo
  have HRR := Lib.hid hr
  clear hb hcb hzs hfo hr
  go_enter Try.func36, Try.ntmps36
  go_upto_region 1 with fail
  generalize (w.alloc (.cells cb 44)).alloc (.cells #[.bool false, .int .u8 0, .int .u8 0, .int .u8 0, .int .u8 0, .int .u8 0, .int .u8 0, .int .u8 0, .int .u8 0, .int .u8 0, .int .u8 0, .int .u8 0, .int .u8 0, .int .u8 0, .int .u8 0, .int .u8 0, .int .u8 0, .int .i64 0, .int .i64 0] 44) = w1 at HM ⊢
  have ftm := bk_tm_at (HM.out.blk 1 rfl).all HO.out
  have ftk := bk_tok_at (HM.out.blk 1 rfl).all HO.out
  obtain ⟨t, ht⟩ : ∃ t, b.tm = t := ⟨_, rfl⟩
  obtain ⟨k, hk⟩ : ∃ k, b.tok = k := ⟨_, rfl⟩
  rw [ht] at ftm
  rw [hk] at ftk h0 h5
  have HTT := Lib.hid (show inI64 t from by rw [← ht]; exact HO.out.2.2)
  have HRT := Lib.hid (show r = { b with tok := if t < now then min 5000 (k + 20 * min (now - t) 250) else k, tm := now } from by rw [← HRR.out, filledM, ht, hk])
  obtain ⟨k2, hk2⟩ : ∃ z, (if t < now then min 5000 (k + 20 * min (now - t) 250) else k) = z := ⟨_, rfl⟩
  rw [hk2] at HRT
  have zz := (HM.out.blk 1 rfl).frozen 17
  by_cases hl : t < now
  · have d1 : decide (t < now) = true := decide_eq_true hl
    obtain ⟨un, hun⟩ : ∃ z, IntKind.u64.wrap now = z := ⟨_, rfl⟩
    obtain ⟨ut, hut⟩ : ∃ z, IntKind.u64.wrap t = z := ⟨_, rfl⟩
    have h1 := hun
    have h2 := hut
    rw [IntKind.wrap_u64] at h1 h2
    obtain ⟨d, hd⟩ : ∃ z, now - t = z := ⟨_, rfl⟩
    rw [if_pos hl, hd] at hk2
    have e3 : IntKind.u64.wrap (un - ut) = d := by rw [IntKind.wrap_u64]; have := HTT.out.1; have := hn.2; omega
    obtain ⟨e, he⟩ : ∃ z, min d 250 = z := ⟨_, rfl⟩
    rw [he] at hk2
    have HE := Lib.hid he
    have hee : 0 ≤ e ∧ e ≤ 250 := by omega
    have w1' : IntKind.i64.wrap e = e := by rw [IntKind.wrap_i64]; omega
    obtain ⟨f, hf⟩ : ∃ z, 20 * e = z := ⟨_, rfl⟩
    rw [hf] at hk2
    have w2' : IntKind.i64.wrap f = f := by rw [IntKind.wrap_i64]; omega
    obtain ⟨s, hs⟩ : ∃ z, k + f = z := ⟨_, rfl⟩
    rw [hs] at hk2
    have w3' : IntKind.i64.wrap s = s := by rw [IntKind.wrap_i64]; omega
    have HK2 := Lib.hid hk2
    clear h1 h2 hl hd he hee hn hk2
    go_upto_region 4 with (first | (refine wpList_min_k rfl (.tmp 18) (.const (.int .u64 250)) _ rfl .u64 d 250 e rfl rfl HE.out ?_) | (refine wpList_min_k rfl (.const (.int .i64 5000)) (.tmp 22) _ rfl .i64 5000 s k2 rfl rfl HK2.out ?_))
    have hm0 := HM.out.setCell 1 rfl 17 (.int .i64 k2)
    rw [bk_tok_set HO.out] at hm0
    generalize w1.setCell ⟨w.heap.size, 17, none⟩ (.int .i64 k2) = w2 at hm0 ⊢
    replace HM := Lib.hid hm0
    clear hm0 ftm ftk zz hk ht d1 hun hut e3 w1' hf w2' hs w3'
    have hko : BucketM.ok { b with tok := k2 } := by
      have h := HFO.out
      rw [HRT.out] at h
      exact ⟨HO.out.1, h.2.1, HO.out.2.2⟩
    have HKO := Lib.hid hko
    clear hko
    have ftm := bk_tm_at (HM.out.blk 1 rfl).all HKO.out
    have zz := (HM.out.blk 1 rfl).frozen 18
    go_upto_region 5 with fail
    have hm := HM.out.setCell 1 rfl 18 (.int .i64 now)
    rw [bk_tm_set HKO.out] at hm
    rw [show ({ ({ b with tok := k2 } : BucketM) with tm := now } : BucketM) = r from HRT.out.symm] at hm
    clear ftm zz
    have hm9 := hm
    generalize w2.setCell ⟨w.heap.size, 18, none⟩ (.int .i64 now) = w8 at hm9 ⊢
    obtain ⟨rc, hrc⟩ : ∃ z, r.cells.toArray = z := ⟨_, rfl⟩
    have HRC := Lib.hid hrc
    clear hrc hm
    have HF := Lib.hid hm9
    clear hm9
    go_wp2_with (first | ((with_reducible refine at_op (.load 44 (.tmp 2)) rfl ?_); refine wpList_load_obj rfl 44 (.tmp 2) rfl w.heap.size 0 rfl _ (HF.out.blk 1 rfl).all _ Try.underlying44 rfl (bk_cellsOf r HFO.out) ?_; rw [HRC.out]) | ((with_reducible refine at_op (.store 44 (.tmp 4) (.tmp 27)) rfl ?_); refine wpList_store_obj rfl 44 (.tmp 4) (.tmp 27) rfl (w.heap.size + 1) 0 r.cells rfl (by show Value.agg rc = _; rw [HRC.out]) 44 zs (HF.out.blk 0 rfl) (bk_cellsOf r HFO.out) (by rw [BucketM.cells_length HFO.out, HZL.out]; decide) (bk_one r) ?_; intro w9 hb9 hg9))
    rw [setL_all zs _ (by rw [BucketM.cells_length HFO.out, HZL.out])] at hb9
    exact bodyPost_ret (results_obj rfl _ _ (w.heap.size + 1) 44 r.cells _ rfl hb9 Try.underlying44 rfl (bk_cellsOf r HFO.out)) rfl ⟨rfl, (HF.out.put 0 rfl _ hg9 hb9).bel⟩
  · have d1 : decide (t < now) = false := decide_eq_false hl
    rw [if_neg hl] at hk2
    have HB := Lib.hid (show ({ b with tok := k2 } : BucketM) = b from by rw [← hk2, ← hk])
    clear hl hn
    go_upto_region 4 with fail
    replace HM := Lib.hid (show Mem w [blkE (w.heap.size + 1) 44 zs, blkE w.heap.size 44 (BucketM.cells { b with tok := k2 })] w1 from by rw [HB.out]; exact HM.out)
    clear ftm ftk zz hk ht d1 hk2
    have hko : BucketM.ok { b with tok := k2 } := by
      have h := HFO.out
      rw [HRT.out] at h
      exact ⟨HO.out.1, h.2.1, HO.out.2.2⟩
    have HKO := Lib.hid hko
    clear hko
    have ftm := bk_tm_at (HM.out.blk 1 rfl).all HKO.out
    have zz := (HM.out.blk 1 rfl).frozen 18
    go_upto_region 5 with fail
    have hm := HM.out.setCell 1 rfl 18 (.int .i64 now)
    rw [bk_tm_set HKO.out] at hm
    rw [show ({ ({ b with tok := k2 } : BucketM) with tm := now } : BucketM) = r from HRT.out.symm] at hm
    clear ftm zz
    have hm9 := hm
    generalize w1.setCell ⟨w.heap.size, 18, none⟩ (.int .i64 now) = w8 at hm9 ⊢
    obtain ⟨rc, hrc⟩ : ∃ z, r.cells.toArray = z := ⟨_, rfl⟩
    have HRC := Lib.hid hrc
    clear hrc hm
    have HF := Lib.hid hm9
    clear hm9
    go_wp2_with (first | ((with_reducible refine at_op (.load 44 (.tmp 2)) rfl ?_); refine wpList_load_obj rfl 44 (.tmp 2) rfl w.heap.size 0 rfl _ (HF.out.blk 1 rfl).all _ Try.underlying44 rfl (bk_cellsOf r HFO.out) ?_; rw [HRC.out]) | ((with_reducible refine at_op (.store 44 (.tmp 4) (.tmp 27)) rfl ?_); refine wpList_store_obj rfl 44 (.tmp 4) (.tmp 27) rfl (w.heap.size + 1) 0 r.cells rfl (by show Value.agg rc = _; rw [HRC.out]) 44 zs (HF.out.blk 0 rfl) (bk_cellsOf r HFO.out) (by rw [BucketM.cells_length HFO.out, HZL.out]; decide) (bk_one r) ?_; intro w9 hb9 hg9))
    rw [setL_all zs _ (by rw [BucketM.cells_length HFO.out, HZL.out])] at hb9
    exact bodyPost_ret (results_obj rfl _ _ (w.heap.size + 1) 44 r.cells _ rfl hb9 Try.underlying44 rfl (bk_cellsOf r HFO.out)) rfl ⟨rfl, (HF.out.put 0 rfl _ hg9 hb9).bel⟩
end Go.Proofs.Ytpahfckihcbajaa
namespace Go.Proofs.Ytpahfckihcbajaa
open Go.RowKit
theorem old_step (l : List BucketM) (j : Nat) : (List.range (j + 1)).foldl (oldestS l) 0 = oldestS l ((List.range j).foldl (oldestS l) 0) j := by rw [List.range_succ, List.foldl_append]; rfl
theorem oldestS_or (l : List BucketM) (b i : Nat) : oldestS l b i = i ∨ oldestS l b i = b := by
  unfold oldestS
  split
  · split
    · exact .inl rfl
    · exact .inr rfl
  · exact .inr rfl
theorem old_lt (l : List BucketM) {n : Nat} (hn : 0 < n) : ∀ j, j ≤ n → (List.range j).foldl (oldestS l) 0 < n
  | 0, _ => hn
  | j + 1, h => by
    have ih := old_lt l hn j (by omega)
    rw [old_step]
    rcases oldestS_or l ((List.range j).foldl (oldestS l) 0) j with e | e
    · rw [e]; omega
    · rw [e]; exact ih
set_option maxRecDepth 100000 in
set_option maxHeartbeats 8000000 in
theorem oldest_any (A : Option Addr) (n c : Nat) (l : List BucketM) (hn : n ≤ 1000) (w : World) (hr : BkRd w w.heap.size A n l) :
    Calls Try.prog 34 #[.slice A n c] w fun e w' => e = .returned (.int .i64 (oldestM l : Int)) ∧ Below w.heap.size w w' := by
  have HR := Lib.hid hr
  have HLN := Lib.hid hr.len
  clear hr
  go_enter Try.func34, Try.ntmps34
  go_wp2_with fail
  go_loopw [3, 8] (fun b i wr => ∃ j : Nat, j ≤ n ∧ i = .int .i64 (j : Int) ∧ b = .int .i64 (((List.range j).foldl (oldestS l) 0 : Nat) : Int) ∧ Below w.heap.size w wr) (fun _ i _ => n - (intOf i).toNat)
  case atStart => exact ⟨0, Nat.zero_le _, rfl, rfl, Below.refl _ _⟩
  case round =>
    obtain ⟨j, hj, rfl, rfl, hb⟩ := hrel
    have HB := Lib.hid hb
    clear hb
    by_cases hjn : j < n
    · have d1 : decide ((j : Int) < (n : Int)) = true := by simp; omega
      obtain ⟨b, off, rfl⟩ := HR.out.addr (by omega)
      obtain ⟨r, hr⟩ : ∃ r, l[j]? = some r := ⟨l[j]'(by rw [HLN.out]; exact hjn), List.getElem?_eq_getElem _⟩
      have hol := old_lt l (n := n) (by omega) j hj
      have hst := old_step l j
      obtain ⟨o, ho⟩ : ∃ o, (List.range j).foldl (oldestS l) 0 = o := ⟨_, rfl⟩
      rw [ho] at hol hst ⊢
      obtain ⟨q, hq⟩ : ∃ q, l[o]? = some q := ⟨l[o]'(by rw [HLN.out]; exact hol), List.getElem?_eq_getElem _⟩
      rw [oldestS, hr, hq] at hst
      have HOK := Lib.hid (HR.out.ok hr)
      have HQK := Lib.hid (HR.out.ok hq)
      have HAT := Lib.hid ((HR.out.at j r hr).2.mono HB.out (HR.out.at j r hr).1)
      have HQT := Lib.hid (show At wr b (off + o * 19) q.cells ∧ b < wr.heap.size from ⟨(HR.out.at o q hq).2.mono HB.out (HR.out.at o q hq).1, Nat.lt_of_lt_of_le (HR.out.at o q hq).1 HB.out.size⟩)
      have HST := Lib.hid hst
      obtain ⟨rc, hrc⟩ : ∃ z, r.cells.toArray = z := ⟨_, rfl⟩
      have HRC := Lib.hid hrc
      obtain ⟨zs, hzs⟩ : ∃ z, (#[.bool false, .int .u8 0, .int .u8 0, .int .u8 0, .int .u8 0, .int .u8 0, .int .u8 0, .int .u8 0, .int .u8 0, .int .u8 0, .int .u8 0, .int .u8 0, .int .u8 0, .int .u8 0, .int .u8 0, .int .u8 0, .int .u8 0, .int .i64 0, .int .i64 0] : Array Value).toList = z := ⟨_, rfl⟩
      have HZL := Lib.hid (show zs.length = 19 from by rw [← hzs]; rfl)
      have HZB := Lib.hid (show Blk (wr.alloc (.cells #[.bool false, .int .u8 0, .int .u8 0, .int .u8 0, .int .u8 0, .int .u8 0, .int .u8 0, .int .u8 0, .int .u8 0, .int .u8 0, .int .u8 0, .int .u8 0, .int .u8 0, .int .u8 0, .int .u8 0, .int .u8 0, .int .u8 0, .int .i64 0, .int .i64 0] 44)) wr.heap.size 44 zs from by rw [← hzs]; exact Blk.new wr 44 _)
      clear hrc hzs hr hq hst ho
      go_upto_region 5 with (first | ((with_reducible refine at_op (.load 44 (.tmp 11)) rfl ?_); refine wpList_load_obj rfl 44 (.tmp 11) rfl b _ rfl _ (HAT.out) _ Try.underlying44 rfl (bk_cellsOf r HOK.out) ?_; rw [HRC.out]) | ((with_reducible refine at_op (.store 44 (.tmp 5) (.tmp 12)) rfl ?_); refine wpList_store_obj rfl 44 (.tmp 5) (.tmp 12) rfl wr.heap.size 0 r.cells rfl (by show Value.agg rc = _; rw [HRC.out]) 44 zs HZB.out (bk_cellsOf r HOK.out) (by rw [BucketM.cells_length HOK.out, HZL.out]; decide) (bk_one r) ?_; intro w2 hb9 hg9))
      rw [setL_all zs _ (by rw [BucketM.cells_length HOK.out, HZL.out])] at hb9
      have hbl : Below wr.heap.size wr w2 := ((Below.refl _ _).alloc (Nat.le_refl _) _).grown hg9 (by simp) (by intro k hk; injection hk with hk; omega)
      have HF1 := Lib.hid (show ∀ W, Below w2.heap.size w2 W → W.cell? ⟨wr.heap.size, 18, none⟩ = some (.int .i64 r.tm) from fun W hW => by have h := bk_tm_at ((hb9.below hW hb9.lt).all) HOK.out; rwa [Nat.zero_add] at h)
      have HF2 := Lib.hid (show ∀ W, Below w2.heap.size w2 W → W.cell? ⟨b, off + o * 19 + 18, none⟩ = some (.int .i64 q.tm) from fun W hW => bk_tm_at ((HQT.out.1.mono hbl HQT.out.2).mono hW (Nat.lt_of_lt_of_le HQT.out.2 hbl.size)) HQK.out)
      have HB2 := Lib.hid (HB.out.trans (hbl.mono HB.out.size))
      obtain ⟨y, hy⟩ : ∃ y, decide (r.tm < q.tm) = y := ⟨_, rfl⟩
      have HY := Lib.hid hy
      have HOL := Lib.hid hol
      have o1 : (0 : Int) ≤ (o : Int) := by omega
      have o2 : (o : Int) < (n : Int) := by omega
      clear hb9 hg9 hbl HZB HAT HQT HRC d1
      refine wp_region_held_drew (S := fun W' => Below w2.heap.size w2 W') (by kernel_rfl) ((Below.refl _ _).drew) (fun hHeld => ?_)
      refine take_first (v := ?_) 0 rfl (by kernel_rfl) (by kernel_rfl) (by kernel_rfl) (fun _ _ _ h => h) (Or.inl ⟨by rfl, ?_⟩) (by assumption) ?_
      rotate_left
      · (intro w hSw; (try dsimp only at hSw); go_simp; try with_reducible rfl)
      (try simp only [Act.put, List.setIfInBounds_toArray, List.set_cons_zero, List.set_cons_succ])
      refine take_first (v := ?_) 1 rfl (by kernel_rfl) (by kernel_rfl) (by kernel_rfl) (fun _ _ _ h => h) (Or.inl ⟨by rfl, ?_⟩) (by assumption) ?_
      rotate_left
      · (intro w hSw; (try dsimp only at hSw); (have fx := HF1.out w hSw; go_simp; try with_reducible rfl))
      (try simp only [Act.put, List.setIfInBounds_toArray, List.set_cons_zero, List.set_cons_succ])
      refine take_first (v := ?_) 2 rfl (by kernel_rfl) (by kernel_rfl) (by kernel_rfl) (fun _ _ _ h => h) (Or.inl ⟨by rfl, ?_⟩) (by assumption) ?_
      rotate_left
      · (intro w hSw; (try dsimp only at hSw); go_simp; try with_reducible rfl)
      (try simp only [Act.put, List.setIfInBounds_toArray, List.set_cons_zero, List.set_cons_succ])
      refine take_first (v := ?_) 3 rfl (by kernel_rfl) (by kernel_rfl) (by kernel_rfl) (fun _ _ _ h => h) (Or.inl ⟨by rfl, ?_⟩) (by assumption) ?_
      rotate_left
      · (intro w hSw; (try dsimp only at hSw); go_simp; try with_reducible rfl)
      (try simp only [Act.put, List.setIfInBounds_toArray, List.set_cons_zero, List.set_cons_succ])
      refine take_first (v := ?_) 4 rfl (by kernel_rfl) (by kernel_rfl) (by kernel_rfl) (fun _ _ _ h => h) (Or.inl ⟨by rfl, ?_⟩) (by assumption) ?_
      rotate_left
      · (intro w hSw; (try dsimp only at hSw); go_simp; try with_reducible rfl)
      (try simp only [Act.put, List.setIfInBounds_toArray, List.set_cons_zero, List.set_cons_succ])
      refine take_first (v := ?_) 5 rfl (by kernel_rfl) (by kernel_rfl) (by kernel_rfl) (fun _ _ _ h => h) (Or.inl ⟨by rfl, ?_⟩) (by assumption) ?_
      rotate_left
      · (intro w hSw; (try dsimp only at hSw); go_simp; try with_reducible rfl)
      (try simp only [Act.put, List.setIfInBounds_toArray, List.set_cons_zero, List.set_cons_succ])
      refine take_first (v := ?_) 6 rfl (by kernel_rfl) (by kernel_rfl) (by kernel_rfl) (fun _ _ _ h => h) (Or.inl ⟨by rfl, ?_⟩) (by assumption) ?_
      rotate_left
      · (intro w hSw; (try dsimp only at hSw); (have fx := HF2.out w hSw; go_simp; try with_reducible rfl))
      (try simp only [Act.put, List.setIfInBounds_toArray, List.set_cons_zero, List.set_cons_succ])
      refine take_first (v := ?_) 7 rfl (by kernel_rfl) (by kernel_rfl) (by kernel_rfl) (fun _ _ _ h => h) (Or.inl ⟨by rfl, ?_⟩) (by assumption) ?_
      rotate_left
      · (intro w hSw; (try dsimp only at hSw); go_simp; try with_reducible rfl)
      (try simp only [Act.put, List.setIfInBounds_toArray, List.set_cons_zero, List.set_cons_succ])
      refine wpAnyH_done (by kernel_rfl) ?_ _
      have HB3 := Lib.hid (HB2.out.drew)
      obtain ⟨j2, hj2⟩ : ∃ z, j + 1 = z := ⟨_, rfl⟩
      have e8 : (j : Int) + 1 = (j2 : Int) := by omega
      have w8' : IntKind.i64.wrap (j2 : Int) = (j2 : Int) := by rw [IntKind.wrap_i64]; omega
      have HJ2 := Lib.hid (show j2 ≤ n ∧ n - j2 < n - j from by omega)
      rw [hj2] at HST
      clear hj2 hj hjn hol
      cases y with
      | true =>
        have HE := Lib.hid (show (List.range j2).foldl (oldestS l) 0 = j from by rw [HST.out]; exact if_pos (of_decide_eq_true HY.out))
        clear hy o1 o2
        go_wp2_with fail
        go_roundw
        case rel => exact ⟨j2, HJ2.out.1, rfl, by rw [HE.out], HB3.out⟩
        case measure => simp [intOf]; exact HJ2.out.2
      | false =>
        have HE := Lib.hid (show (List.range j2).foldl (oldestS l) 0 = o from by rw [HST.out]; exact if_neg (of_decide_eq_false HY.out))
        clear hy o1 o2
        go_wp2_with fail
        go_roundw
        case rel => exact ⟨j2, HJ2.out.1, rfl, by rw [HE.out], HB3.out⟩
        case measure => simp [intOf]; exact HJ2.out.2
    · obtain rfl : j = n := by omega
      have d1 : decide ((j : Int) < (j : Int)) = false := by simp
      have HE := Lib.hid (show oldestM l = (List.range j).foldl (oldestS l) 0 from by rw [oldestM, HLN.out])
      go_wp2
      go_ret
      exact ⟨by rw [HE.out]; rfl, HB.out⟩
end Go.Proofs.Ytpahfckihcbajaa
namespace Go.Proofs.Ytpahfckihcbajaa
open Go.RowKit

theorem ahead_step {R : List BucketM} {a : AddrM} {j : Nat} {r : BucketM} (h : R[j]? = some r) (hj : j ≤ aheadB a R) : (lessM a r.a = true → aheadB a R = j) ∧ (lessM a r.a = false → j + 1 ≤ aheadB a R) := by
  have hjl := (List.getElem?_eq_some_iff.1 h).1
  have hr : R[j] = r := (List.getElem?_eq_some_iff.1 h).2
  unfold aheadB at hj ⊢
  cases hf : R.findIdx? fun b => lessM a b.a with
  | none =>
    rw [List.findIdx?_eq_none_iff] at hf
    have := hf r (List.mem_of_getElem? h)
    exact ⟨fun hl => (by rw [hl] at this; cases this), fun _ => hjl⟩
  | some i =>
    rw [hf] at hj
    have hj : j ≤ i := hj
    obtain ⟨hi, hp, hn⟩ := List.findIdx?_eq_some_iff_getElem.1 hf
    refine ⟨fun hl => ?_, fun hl => ?_⟩
    · show i = j
      rcases Nat.lt_or_ge j i with hlt | hge
      · have := hn j hlt
        rw [hr, hl] at this
        simp at this
      · omega
    · show j + 1 ≤ i
      rcases Nat.lt_or_ge j i with hlt | hge
      · exact hlt
      · have e : i = j := by omega
        subst e
        rw [hr, hl] at hp
        cases hp
theorem ahead_le (a : AddrM) (R : List BucketM) : aheadB a R ≤ R.length := by
  unfold aheadB
  cases hf : R.findIdx? fun b => lessM a b.a with
  | none => exact Nat.le_refl _
  | some i =>
    obtain ⟨hi, _⟩ := List.findIdx?_eq_some_iff_getElem.1 hf
    exact Nat.le_of_lt hi
end Go.Proofs.Ytpahfckihcbajaa
namespace Go.Proofs.Ytpahfckihcbajaa
open Go.RowKit

def bucketZ : List Value := bk0.cells
theorem bucketZ_length : bucketZ.length = 19 := by decide
theorem bucketInfo : ∃ i, Try.prog.info? 44 = some i ∧ i.zero = some (.agg bucketZ.toArray) ∧ i.size = 19 ∧ i.bytes = 40 := bkInfo
end Go.Proofs.Ytpahfckihcbajaa
namespace Go.Proofs.Ytpahfckihcbajaa
open Go.RowKit

theorem bk_size (o : List Value) (h : o.length = 19) : (Try.prog.info? 44).map (·.size) = some o.length := by
  rw [h]; kernel_rfl
theorem bk_under : Try.prog.underlying 32 = some (.slice (Try.prog.elem 32)) := by kernel_rfl
theorem bk_elem : Try.prog.elem 32 = 44 := by kernel_rfl
theorem bk_sizeOf (w : World) : (sizeOf (Try.prog.elem 32)).run Try.prog w = .ok 19 w := by
  obtain ⟨i0, hi, _, hs, _⟩ := bucketInfo
  rw [bk_elem]
  simp [sizeOf, typeInfo, hi, hs]
theorem bk_zero (w : World) : (zeroValue 44).run Try.prog w = .ok (.agg bucketZ.toArray) w := by
  obtain ⟨i0, hi, hz, _, _⟩ := bucketInfo
  simp [zeroValue, typeInfo, hi, hz]
set_option maxRecDepth 100000 in
theorem bk_l (A : Option Addr) (n c i : Nat) (h2 : i ≤ n) (w : World) : (Instr.sliceAt 32 (.slice A n c) (some (.int .i64 (i : Int))) none none).run Try.prog w = .ok (.slice (addrK A i c 19) (n - i) (c - i)) w := by
  rw [run_sliceAt_slice (P := Try.prog) (w := w) 32 _ _ _ _ bk_under, run_slice_l (P := Try.prog) (w := w) 32 A n c bk_under .i64 i (by omega) (by omega), bk_sizeOf]
  simp only [Result.andThen, sliced, Int.toNat_natCast]
  rfl
set_option maxRecDepth 100000 in
theorem bk_h {n : Nat} (A : Option Addr) (c j : Nat) (h2 : j ≤ n) (h3 : n ≤ c) (w : World) : (Instr.sliceAt 32 (.slice A n c) none (some (.int .i64 (j : Int))) none).run Try.prog w = .ok (.slice (addrK A 0 c 19) j c) w := by
  rw [run_sliceAt_slice (P := Try.prog) (w := w) 32 _ _ _ _ bk_under, run_slice_h (P := Try.prog) (w := w) 32 A n c bk_under .i64 j (by omega) (by omega), bk_sizeOf]
  simp only [Result.andThen, sliced, Int.toNat_natCast, Nat.sub_zero]
  rfl
end Go.Proofs.Ytpahfckihcbajaa
namespace Go.Proofs.Ytpahfckihcbajaa
open Go.RowKit

theorem flat_cell {k : Nat} {rest : List Value} : ∀ {cs : List (List Value)}, (∀ o ∈ cs, o.length = k) → ∀ (j : Nat) (o : List Value), cs[j]? = some o → ∀ (i : Nat) (v : Value), i < k → (cs.flatten ++ rest).set (j * k + i) v = (cs.set j (o.set i v)).flatten ++ rest
  | [], _, j, o, hj, _, _, _ => by simp at hj
  | a :: r, h, 0, o, hj, i, v, hi => by
    simp only [List.getElem?_cons_zero, Option.some.injEq] at hj
    subst hj
    have ha := h a (List.mem_cons_self ..)
    rw [Nat.zero_mul, Nat.zero_add, List.set_cons_zero, List.flatten_cons, List.flatten_cons, List.append_assoc, List.append_assoc, List.set_append_left _ _ (by omega)]
  | a :: r, h, j + 1, o, hj, i, v, hi => by
    have ha := h a (List.mem_cons_self ..)
    have ih := flat_cell (rest := rest) (fun x hx => h x (List.mem_cons_of_mem _ hx)) j o (by simpa using hj) i v hi
    rw [List.set_cons_succ, List.flatten_cons, List.flatten_cons, List.append_assoc, List.append_assoc, ← ih, Nat.succ_mul, List.set_append_right _ _ (by omega), ha]
    congr 2
    omega
end Go.Proofs.Ytpahfckihcbajaa
namespace Go.Proofs.Ytpahfckihcbajaa
open Go.RowKit

theorem run_copy_objs {P : Program} (w : World) (dT sT ty elem : TypeId) (k g off dLen dCap : Nat) (a : Addr) (sLen sCap : Nat) (cur : List Value) (t : TypeId) (cs : List Value)
    (hu : P.underlying dT = some (.slice elem)) (hs : (P.info? elem).map (·.size) = some k) (hg : Blk w g t cur) (hn : cs.length = Nat.min sLen dLen * k)
    (hsrc : ∀ j v, cs[j]? = some v → w.cell? (a.add j) = some v) (hfit : off + cs.length ≤ cur.length) (h1 : ∀ v ∈ cs, v.oneCell' = true) :
    ∃ w', (Builtin.copy_ #[dT, sT] ty #[.slice (some ⟨g, off, none⟩) dLen dCap, .slice (some a) sLen sCap]).run P w = .ok (goInt (Nat.min sLen dLen)) w' ∧ Blk w' g t (setL cur off cs) ∧ w.grownBy w' (some g) := by
  have hl := run_loadCells_list (P := P) w a cs hsrc
  have hst := run_storeCells_at P g off t cs 0 cur.toArray w hg (by simpa using hfit) h1
  rw [Nat.add_zero] at hst
  refine ⟨w.setRow g (cur.toArray.toList.take off ++ cs ++ cur.toArray.toList.drop (off + cs.length)).toArray, ?_, ?_, ⟨rfl, rfl, rfl, by simp, fun q _ hq => setRow_other w g q _ (fun e => hq (by simp [e]))⟩⟩
  · cases hq : P.info? elem with
    | none => simp [hq] at hs
    | some i =>
      have hi : i.size = k := by simpa [hq] using hs
      simp [Builtin.copy_, run_underlying hu, Builtin.lenOf, Builtin.firstCells, sizeOf, typeInfo, hq, hi, ← hn, hl, hst]
  · exact setRow_heap w g cur.toArray _ t _ hg
theorem wpList_copy_objs {P : Program} (w : World) {ops : Array Oper} {rest : List Oper} {o : Oper} {a : Act} {Q : Exit → Act → World → Prop} (hgd : o.guard = none) (d s : Operand) (dT sT : TypeId)
    (ho : o.op = .call { callee := .builtin .copy, args := #[d, s], argTypes := #[dT, sT] }) (elem : TypeId) (hu : P.underlying dT = some (.slice elem)) (k : Nat) (hsz : (P.info? elem).map (·.size) = some k)
    (g off dLen dCap : Nat) (ad : Addr) (sLen sCap : Nat) (hd : a.eval d = .slice (some ⟨g, off, none⟩) dLen dCap) (hs : a.eval s = .slice (some ad) sLen sCap)
    (cur : List Value) (t : TypeId) (hg : Blk w g t cur) (cs : List Value) (hn : cs.length = Nat.min sLen dLen * k)
    (hsrc : ∀ j v, cs[j]? = some v → w.cell? (ad.add j) = some v) (hfit : off + cs.length ≤ cur.length) (h1 : ∀ v ∈ cs, v.oneCell' = true)
    (h : ∀ w', Blk w' g t (setL cur off cs) → w.grownBy w' (some g) → wpList P ops Q rest (a.put o.dst (goInt (Nat.min sLen dLen))) w') : wpList P ops Q (o :: rest) a w := by
  refine wpList_plain hgd fun K hK => ?_
  obtain ⟨w', hrun, h2, h3⟩ := run_copy_objs (P := P) w dT sT o.type elem k g off dLen dCap ad sLen sCap cur t cs hu hsz hg hn hsrc hfit h1
  unfold Oper.wp execOp
  simp only [ho, resolve, invoke, builtin, Sem.run_bind, Sem.run_pure, Result.andThen_ok, List.map_toArray, List.map_cons, List.map_nil, hs, hd, hrun]
  exact hK _ _ (h w' h2 h3)
theorem step_copy_objs {P : Program} (w : World) {ops : Array Oper} {o : Oper} {a : Act} {K : Act → World → Prop} {Q : Exit → Act → World → Prop} {E : Prop} (hgd : o.guard = none) (d s : Operand) (dT sT : TypeId)
    (ho : o.op = .call { callee := .builtin .copy, args := #[d, s], argTypes := #[dT, sT] }) (elem : TypeId) (hu : P.underlying dT = some (.slice elem)) (k : Nat) (hsz : (P.info? elem).map (·.size) = some k)
    (g off dLen dCap : Nat) (ad : Addr) (sLen sCap : Nat) (hd : a.eval d = .slice (some ⟨g, off, none⟩) dLen dCap) (hs : a.eval s = .slice (some ad) sLen sCap)
    (cur : List Value) (t : TypeId) (hg : Blk w g t cur) (cs : List Value) (hn : cs.length = Nat.min sLen dLen * k)
    (hsrc : ∀ j v, cs[j]? = some v → w.cell? (ad.add j) = some v) (hfit : off + cs.length ≤ cur.length) (h1 : ∀ v ∈ cs, v.oneCell' = true)
    (h : ∀ w', Blk w' g t (setL cur off cs) → w.grownBy w' (some g) → K (a.put o.dst (goInt (Nat.min sLen dLen))) w') :
    if Region.wanted o (yielded ops a.tmps) = true then Oper.wp P o a w K Q else E := by
  have hw : Region.wanted o (yielded ops a.tmps) = true := by simp [Region.wanted, hgd]
  rw [if_pos hw]
  obtain ⟨w', hrun, h2, h3⟩ := run_copy_objs (P := P) w dT sT o.type elem k g off dLen dCap ad sLen sCap cur t cs hu hsz hg hn hsrc hfit h1
  unfold Oper.wp execOp
  simp only [ho, resolve, invoke, builtin, Sem.run_bind, Sem.run_pure, Result.andThen_ok, List.map_toArray, List.map_cons, List.map_nil, hs, hd, hrun]
  exact h w' h2 h3
/-- the beginning of a row of objects and made ones behind it, where there is no room: a new row -/
theorem run_append_made {P : Program} (w : World) (t tn ty e : TypeId) (i : TypeInfo) (z : Value) (kq kn : IntKind) (size bytes : Nat) (ht : P.underlying t = some (.slice e)) (htn : P.underlying tn = some (.int kn)) (hi : P.info? e = some i) (hz : i.zero = some z) (hsize : i.size = size) (hby : i.bytes = bytes) (hzs : z.cells.size = size) (hsz : 0 < size)
    (B : Nat) (ad : Addr) (n c : Nat) (os : List (List Value)) (hr : RdRow w B (some ad) size n os) (k : Nat) (h0 : 0 < k) (hg : c < n + k) (h63 : n + k ≤ maxLen) (hbytes : (n + k) * bytes ≤ 140737488355328) :
    ∃ w' cap cur, (Builtin.append_ #[t, tn] ty #[.slice (some ad) n c, .int kq (k : Int)]).run P w = .ok (.slice (some ⟨w.heap.size, 0, none⟩) (n + k) cap) w' ∧ Blk w' w.heap.size e cur ∧ cur.length = cap * size ∧ cur.take (n * size) = os.flatten ∧ n + k ≤ cap ∧ cap ≤ maxLen ∧ Below w.heap.size w w' := by
  have holds : ∀ j u, os.flatten[j]? = some u → w.drew.cell? (ad.add j) = some u := hr.src
  have hold := run_firstCells_some (P := P) w.drew i.size n ad n c os.flatten (by rw [hsize]; exact hr.len) holds
  have h1 : k * bytes ≤ (n + k) * bytes := Nat.mul_le_mul_right bytes (by omega)
  have hr2 := Lib.run_append_grow_zeros (P := P) w t tn ty e i z kq kn ht htn hi hz (some ad) n c os.flatten hold k h0 (by omega) hg (by unfold maxLen at h63; omega) (by rw [hby]; omega) (growslice_fits (by omega) (by rw [hby]; exact hbytes))
  have hge := grownCap_ge w (n + k) c e
  have hcm := grownCap_le_maxLen w (n + k) c e h63
  obtain ⟨cap, hcap⟩ : ∃ z, grownCap w (n + k) c e = z := ⟨_, rfl⟩
  rw [hcap] at hr2 hge hcm
  refine ⟨_, cap, (os.flatten.toArray ++ Builtin.zeroCells z.cells k ++ Builtin.zeroCells z.cells (cap - (n + k))).toList, hr2, ?_, ?_, ?_, hge, hcm, (Below.refl _ _).drew.alloc (Nat.le_refl _) _⟩
  · unfold Blk
    rw [Array.toArray_toList]
    exact heap_alloc_new w.drew _
  · rw [Array.length_toList, Array.size_append, Array.size_append, List.size_toArray, size_zeroCells, size_zeroCells, hzs, hr.len, ← Nat.add_mul, ← Nat.add_mul]
    congr 1
    omega
  · rw [Array.toList_append, Array.toList_append, List.append_assoc, List.take_left' (by rw [hr.len])]
theorem Blk.shape {w : World} {g : Nat} {t : TypeId} {cs : List Value} (h : Blk w g t cs) : w.shape? g = some (t, cs.length) := by
  unfold Blk at h
  simp [World.shape?, h]
theorem run_overlaps_blks {P : Program} {w : World} {g h : Nat} {t u : TypeId} {cs ds : List Value} (hg : Blk w g t cs) (hh : Blk w h u ds) (hne : g ≠ h) (hd : ds.length ≠ 0) (tS tR e : TypeId) (ht : P.underlying tS = some (.slice e)) (size : Nat) (hz : ∀ w, (Go.sizeOf e).run P w = .ok size w) (o p la ca lb cb : Nat) :
    (Extern.SlicesOverlaps.overlaps #[tS, tS] #[tR] #[.slice (some ⟨g, o, none⟩) la ca, .slice (some ⟨h, p, none⟩) lb cb]).run P w = .ok (.bool false) w :=
  Lib.run_overlaps_apart w tS tR e ht size hz ⟨g, o, none⟩ ⟨h, p, none⟩ la ca lb cb hne t u cs.length ds.length hg.shape hh.shape hd (hg.frozen o) (hg.frozen cs.length)
/-- what an insertion leaves: first the later ones are moved, then the new one is written -/
theorem ins_shift {cur T D o : List Value} {i k : Nat} (hT : T.length = i * k) (hc : cur.take (i * k) = T) (ho : o.length = k) (hl : i * k + k + D.length ≤ cur.length) : (setL (setL cur ((i + 1) * k) D) (i * k) o).take (i * k + k + D.length) = T ++ o ++ D ∧ (setL (setL cur ((i + 1) * k) D) (i * k) o).length = cur.length := by
  have h1 : (i + 1) * k = i * k + k := Nat.succ_mul i k
  have h2 : (setL cur ((i + 1) * k) D).take (i * k) = T := by
    rw [setL, List.append_assoc, List.take_append_of_le_length (by rw [List.length_take]; omega), List.take_take, Nat.min_eq_left (by omega), hc]
  have h3 : (setL cur ((i + 1) * k) D).drop (i * k + k) = D ++ cur.drop ((i + 1) * k + D.length) := by
    rw [setL, List.append_assoc, List.drop_left' (by rw [List.length_take]; omega)]
  constructor
  · rw [setL, ho, h2, h3, List.append_assoc, ← List.append_assoc o, ← List.append_assoc T, ← List.append_assoc T, List.take_left' (by simp [hT, ho]; omega)]
  · rw [setL, ho, h2, h3]
    simp only [List.length_append, List.length_drop, hT, ho]
    omega
/-- the same in a new row: first the new one is written, then the later ones behind it -/
theorem ins_new {cur T D o : List Value} {i k : Nat} (hT : T.length = i * k) (hc : cur.take (i * k) = T) (ho : o.length = k) (hl : i * k + k + D.length ≤ cur.length) : (setL (setL cur (i * k) o) ((i + 1) * k) D).take (i * k + k + D.length) = T ++ o ++ D ∧ (setL (setL cur (i * k) o) ((i + 1) * k) D).length = cur.length := by
  have h1 : (i + 1) * k = i * k + k := Nat.succ_mul i k
  have h2 : (setL cur (i * k) o).take ((i + 1) * k) = T ++ o := by
    rw [setL, hc, List.take_left' (by simp [hT, ho, h1])]
  have h3 : (setL cur (i * k) o).length = cur.length := by
    simp only [setL, hc, List.length_append, List.length_drop, hT, ho]
    omega
  constructor
  · rw [setL, h2, List.take_left' (by simp [hT, ho]; omega)]
  · rw [setL, h2]
    simp only [List.length_append, List.length_drop, h3, hT, ho]
    omega
theorem own_of_blk {w : World} {base k m c g : Nat} {e : TypeId} {cs xs : List Value} (hb : Blk w g e cs) (hbase : base ≤ g) (hm : m ≤ c) (hc : c ≤ maxLen) (hl : cs.length = c * k) (ht : cs.take (m * k) = xs) : w.ownsRow base e k (.slice (some ⟨g, 0, none⟩) m c) m xs := by
  have h1 := Nat.mul_le_mul_right k hm
  refine ⟨by rw [← ht, List.length_take]; omega, .inr ⟨g, c, cs.toArray, rfl, hbase, hb, hm, hc, by simpa using hl, by simpa using ht⟩⟩
end Go.Proofs.Ytpahfckihcbajaa
namespace Go.Proofs.Ytpahfckihcbajaa
open Go.RowKit

theorem bkOwn_blk {w : World} {base n c : Nat} {A : Option Addr} {l : List BucketM} (h : w.ownsRow base 44 19 (.slice A n c) n (bksV l).flatten) (hn : 0 < n) : ∃ g rest, A = some ⟨g, 0, none⟩ ∧ base ≤ g ∧ Blk w g 44 ((bksV l).flatten ++ rest) ∧ n * 19 + rest.length = c * 19 ∧ n ≤ c ∧ c ≤ maxLen := by
  rcases h.2 with ⟨_, h0⟩ | ⟨g, cap, cur, hv, hbg, hg, hnc, hcm, hs, hcr⟩
  · omega
  injection hv with hA _ hcc
  subst hA hcc
  refine ⟨g, cur.toList.drop (n * 19), rfl, hbg, ?_, ?_, hnc, hcm⟩
  · unfold Blk
    rw [← hcr, List.take_append_drop, Array.toArray_toList]
    exact hg
  · rw [List.length_drop, Array.length_toList, hs]
    have := Nat.mul_le_mul_right 19 hnc
    omega
theorem bkBlk_own {w : World} {base n c g : Nat} {l : List BucketM} {rest : List Value} (h : Blk w g 44 ((bksV l).flatten ++ rest)) (hl : l.length = n) (hok : ∀ s ∈ l, s.ok) (hb : base ≤ g) (hr : n * 19 + rest.length = c * 19) (hnc : n ≤ c) (hc : c ≤ maxLen) : w.ownsRow base 44 19 (.slice (some ⟨g, 0, none⟩) n c) n (bksV l).flatten := by
  have hfl : (bksV l).flatten.length = n * 19 := by rw [flat_length (bksV_size hok), bksV_len, hl]
  exact own_of_blk h hb hnc hc (by rw [List.length_append, hfl, hr]) (List.take_left' hfl)
theorem bk_row_at {w : World} {g : Nat} {l : List BucketM} {rest : List Value} (h : Blk w g 44 ((bksV l).flatten ++ rest)) (hok : ∀ s ∈ l, s.ok) {p : Nat} {b : BucketM} (hb : l[p]? = some b) : At w g (p * 19) b.cells :=
  blk_at h (bksV_size hok) (by rw [bksV, List.getElem?_map, hb]; rfl)
theorem bk_row_set {l : List BucketM} {rest : List Value} (hok : ∀ s ∈ l, s.ok) {p : Nat} (hp : p < l.length) {b : BucketM} (hb : b.ok) : setL ((bksV l).flatten ++ rest) (p * 19) b.cells = (bksV (l.set p b)).flatten ++ rest := by
  rw [flat_set (bksV_size hok) (BucketM.cells_length hb) (by rw [bksV_len]; exact hp), bksV, bksV, List.map_set]
theorem bk_row_tok {l : List BucketM} {rest : List Value} (hok : ∀ s ∈ l, s.ok) {p : Nat} {b : BucketM} (hb : l[p]? = some b) (v : Int) : ((bksV l).flatten ++ rest).set (p * 19 + 17) (.int .i64 v) = (bksV (l.set p { b with tok := v })).flatten ++ rest := by
  rw [flat_cell (bksV_size hok) p b.cells (by rw [bksV, List.getElem?_map, hb]; rfl) 17 _ (by omega), bk_tok_set (hok b (List.mem_of_getElem? hb)), bksV, bksV, List.map_set]
theorem bks_set_ok {l : List BucketM} (hok : ∀ s ∈ l, s.ok) {p : Nat} {b : BucketM} (hb : b.ok) : ∀ s ∈ l.set p b, s.ok := fun s hs => by
  rcases List.mem_or_eq_of_mem_set hs with h | rfl
  · exact hok s h
  · exact hb
theorem modify_set {l : List BucketM} {p : Nat} {b : BucketM} (h : l[p]? = some b) (f : BucketM → BucketM) : l.modify p f = l.set p (f b) := by
  obtain ⟨hp, rfl⟩ := List.getElem?_eq_some_iff.1 h
  apply List.ext_getElem?
  intro i
  rw [List.getElem?_modify, List.getElem?_set]
  by_cases e : p = i
  · subst e
    simp [hp]
  · simp [e]
theorem given_len {l G : List BucketM} {a : AddrM} {now : Int} {p : Nat} (h : givenM l a now = (G, p)) : G.length ≤ l.length + 1 := by
  unfold givenM at h
  split at h
  · injection h with h _
    rw [← h, List.length_modify]
    omega
  · injection h with h _
    rw [← h, List.length_append, List.length_cons, List.length_take, List.length_drop]
    have : (roomM l).length ≤ l.length := by
      unfold roomM
      split
      · rw [List.length_eraseIdx]
        split <;> omega
      · exact Nat.le_refl _
    omega
theorem bkOwn_weaken {w : World} {base base' k n : Nat} {e : TypeId} {v : Value} {xs : List Value} (h : w.ownsRow base' e k v n xs) (hb : base ≤ base') : w.ownsRow base e k v n xs :=
  ⟨h.1, by
    rcases h.2 with h1 | ⟨g, cap, cur, hv, hbg, hr⟩
    · exact .inl h1
    · exact .inr ⟨g, cap, cur, hv, Nat.le_trans hb hbg, hr⟩⟩
theorem takeB_low {G : List BucketM} {p : Nat} {b : BucketM} (h : G[p]? = some b) (hl : b.tok < 1000) : takeB (G, p) = (G, false) := by
  unfold takeB
  rw [h]
  exact if_pos hl
theorem takeB_high {G : List BucketM} {p : Nat} {b : BucketM} (h : G[p]? = some b) (hl : ¬ b.tok < 1000) : takeB (G, p) = (G.set p { b with tok := b.tok - 1000 }, true) := by
  unfold takeB
  rw [h]
  exact if_neg hl
end Go.Proofs.Ytpahfckihcbajaa
namespace Go.Proofs.Ytpahfckihcbajaa
open Go.RowKit

end Go.Proofs.Ytpahfckihcbajaa
namespace Go.Proofs.Ytpahfckihcbajaa
open Go.RowKit

theorem AddrM.ip_cell (a : AddrM) (h : a.ok) (j : Nat) (hj : j < 16) : a.cells[1 + j]? = some (.int .u8 ((a.ip.getD j 0).toNat : Int)) := by
  have hl : j < a.ip.length := by rw [h]; exact hj
  rw [AddrM.cells, Nat.add_comm, List.getElem?_cons_succ, List.getElem?_map, List.getElem?_eq_getElem hl, List.getD_eq_getElem?_getD, List.getElem?_eq_getElem hl]
  rfl
theorem AddrM.six_cell (a : AddrM) : a.cells[0]? = some (.bool a.six) := rfl
end Go.Proofs.Ytpahfckihcbajaa
namespace Go.Proofs.Ytpahfckihcbajaa
open Go.RowKit

/-- the address behind i elements, as the model keeps it -/
def addrOf (A : Option Addr) (i c : Nat) : Option Addr := if c = i then A else A.map (·.add (i * 1))
theorem Rd.behind {W : World} {B n : Nat} {A : Option Addr} {l : List UInt8} (h : Rd W B A n l) (i c : Nat) (hi : i ≤ n) (hc : n ≤ c) : Rd W B (addrOf A i c) (n - i) (l.drop i) := by
  unfold addrOf
  by_cases e : c = i
  · have e0 : n - i = 0 := by omega
    rw [if_pos e, e0, List.drop_of_length_le (by have := h.1; omega)]
    exact Rd.nil _ _ _
  · rw [if_neg e]
    rcases Nat.eq_zero_or_pos (n - i) with h0 | h0
    · rw [h0, List.drop_of_length_le (by have := h.1; omega)]
      exact Rd.nil _ _ _
    · obtain ⟨b, off, rfl, _, _⟩ := h.2 (by omega)
      rw [Option.map_some, Go.WideShapes.add_plain, Nat.mul_one]
      exact h.drop i b off rfl hi
end Go.Proofs.Ytpahfckihcbajaa
namespace Go.Proofs.Ytpahfckihcbajaa
open Go.RowKit

theorem AddrM.rd {w : World} {g : Nat} {t : TypeId} {a : AddrM} (h : Blk w g t a.cells) (ho : a.ok) : Rd w (g + 1) (some ⟨g, 1, none⟩) 16 a.ip :=
  ⟨ho, fun _ => ⟨g, 1, rfl, Nat.lt_succ_self _, fun j hj => by
    rw [h.cell (1 + j), AddrM.ip_cell a ho j (by rw [ho] at hj; exact hj), List.getD_eq_getElem?_getD, List.getElem?_eq_getElem hj]
    rfl⟩⟩
set_option maxRecDepth 100000 in
set_option maxHeartbeats 2000000 in
theorem refLess_any (a b : AddrM) (ha : a.ok) (hb : b.ok) (w : World) :
    Calls Try.prog 35 #[.agg a.cells.toArray, .agg b.cells.toArray] w fun e w' => e = .returned (.bool (lessM a b)) ∧ Below w.heap.size w w' := by
  obtain ⟨ca, hca⟩ : ∃ x, a.cells.toArray = x := ⟨_, rfl⟩
  obtain ⟨cb, hcb⟩ : ∃ x, b.cells.toArray = x := ⟨_, rfl⟩
  rw [hca, hcb]
  have HM := Lib.hid (show Mem w [blkE (w.heap.size + 1) 35 b.cells, blkE w.heap.size 35 a.cells] ((w.alloc (.cells ca 35)).alloc (.cells cb 35)) from ((Mem.nil w).alloc rfl 35 ca a.cells hca.symm).alloc (by simp) 35 cb b.cells hcb.symm)
  have HOA := Lib.hid ha
  have HOB := Lib.hid hb
  clear hca hcb ha hb
  go_enter Try.func35, Try.ntmps35
  go_upto_region 1 with fail
  generalize ((w.alloc (.cells ca 35)).alloc (.cells cb 35)) = w1 at HM ⊢
  have f1 := ((HM.out.blk 1 rfl).cell 0).trans (AddrM.six_cell a)
  have f2 := ((HM.out.blk 0 rfl).cell 0).trans (AddrM.six_cell b)
  by_cases h6 : a.six = b.six
  · have HE := Lib.hid (show lessM a b = Op.bytesLess a.ip b.ip by rw [lessM, if_pos h6])
    rw [h6] at f1
    have hne : (b.six != b.six) = false := by simp
    clear h6
    generalize b.six = sx at f1 f2 hne
    go_upto_region 3 with fail
    clear f1 f2 hne
    generalize w.heap.size = GA at HM ⊢
    refine wp_region_held_drew (S := fun W' => Mem w [blkE (GA + 1) 35 b.cells, blkE GA 35 a.cells] W') (by kernel_rfl) ((HM.out).drew) (fun hHeld => ?_)
    replace HM := Lib.hid HM.out.drew
    generalize w1.drew = wd1 at HM hHeld ⊢
    refine take_first (v := ?_) 0 rfl (by kernel_rfl) (by kernel_rfl) (by kernel_rfl) (fun _ _ _ h => h) (Or.inl ⟨by rfl, ?_⟩) (by assumption) ?_
    rotate_left
    · (intro w hSw; (try dsimp only at hSw); go_simp; try with_reducible rfl)
    (try simp only [Act.put, List.setIfInBounds_toArray, List.set_cons_zero, List.set_cons_succ])
    refine take_first (v := ?_) 1 rfl (by kernel_rfl) (by kernel_rfl) (by kernel_rfl) (fun _ _ _ h => h) (Or.inl ⟨by rfl, ?_⟩) (by assumption) ?_
    rotate_left
    · (intro w hSw; (try dsimp only at hSw); go_simp; try with_reducible rfl)
    (try simp only [Act.put, List.setIfInBounds_toArray, List.set_cons_zero, List.set_cons_succ])
    refine take_first (v := ?_) 2 rfl (by kernel_rfl) (by kernel_rfl) (by kernel_rfl) (fun _ _ _ h => h) (Or.inl ⟨by rfl, ?_⟩) (by assumption) ?_
    rotate_left
    · (intro w hSw; (try dsimp only at hSw); have cv : (convert 23 9 (.slice (some ⟨GA, 1, none⟩) 16 16)).run Try.prog w = .ok (.string ⟨a.ip.toArray⟩) w := run_string_of_rd (P := Try.prog) 23 9 5 16 Try.underlying23 Try.underlying5 Try.underlying9 (AddrM.rd (Mem.blk hSw 1 rfl) HOA.out); go_simp; try with_reducible rfl)
    (try simp only [Act.put, List.setIfInBounds_toArray, List.set_cons_zero, List.set_cons_succ])
    refine take_first (v := ?_) 3 rfl (by kernel_rfl) (by kernel_rfl) (by kernel_rfl) (fun _ _ _ h => h) (Or.inl ⟨by rfl, ?_⟩) (by assumption) ?_
    rotate_left
    · (intro w hSw; (try dsimp only at hSw); go_simp; try with_reducible rfl)
    (try simp only [Act.put, List.setIfInBounds_toArray, List.set_cons_zero, List.set_cons_succ])
    refine take_first (v := ?_) 4 rfl (by kernel_rfl) (by kernel_rfl) (by kernel_rfl) (fun _ _ _ h => h) (Or.inl ⟨by rfl, ?_⟩) (by assumption) ?_
    rotate_left
    · (intro w hSw; (try dsimp only at hSw); go_simp; try with_reducible rfl)
    (try simp only [Act.put, List.setIfInBounds_toArray, List.set_cons_zero, List.set_cons_succ])
    refine take_first (v := ?_) 5 rfl (by kernel_rfl) (by kernel_rfl) (by kernel_rfl) (fun _ _ _ h => h) (Or.inl ⟨by rfl, ?_⟩) (by assumption) ?_
    rotate_left
    · (intro w hSw; (try dsimp only at hSw); have cv : (convert 23 9 (.slice (some ⟨(GA + 1), 1, none⟩) 16 16)).run Try.prog w = .ok (.string ⟨b.ip.toArray⟩) w := run_string_of_rd (P := Try.prog) 23 9 5 16 Try.underlying23 Try.underlying5 Try.underlying9 (AddrM.rd (Mem.blk hSw 0 rfl) HOB.out); go_simp; try with_reducible rfl)
    (try simp only [Act.put, List.setIfInBounds_toArray, List.set_cons_zero, List.set_cons_succ])
    refine take_first (v := ?_) 6 rfl (by kernel_rfl) (by kernel_rfl) (by kernel_rfl) (fun _ _ _ h => h) (Or.inl ⟨by rfl, ?_⟩) (by assumption) ?_
    rotate_left
    · (intro w hSw; (try dsimp only at hSw); go_simp; try with_reducible rfl)
    (try simp only [Act.put, List.setIfInBounds_toArray, List.set_cons_zero, List.set_cons_succ])
    refine take_first (v := ?_) 7 rfl (by kernel_rfl) (by kernel_rfl) (by kernel_rfl) (fun _ _ _ h => h) (Or.inl ⟨by rfl, ?_⟩) (by assumption) ?_
    rotate_left
    · (intro w hSw; (try dsimp only at hSw); go_simp; try with_reducible rfl)
    (try simp only [Act.put, List.setIfInBounds_toArray, List.set_cons_zero, List.set_cons_succ])
    refine wpAnyH_done (by kernel_rfl) ?_ _
    have HB := Lib.hid HM.out.bel
    clear HM hHeld
    go_wp2
    go_ret
    exact ⟨by have h := HE.out; simp at h ⊢; exact h.symm, HB.out⟩
  · have HR := Lib.hid (show lessM a b = !a.six by rw [lessM, if_neg h6])
    generalize a.six = s1 at f1 h6 HR
    generalize b.six = s2 at f2 h6
    have hc : (s1 = true ∧ s2 = false) ∨ (s1 = false ∧ s2 = true) := by revert h6; cases s1 <;> cases s2 <;> simp
    clear h6
    rcases hc with ⟨rfl, rfl⟩ | ⟨rfl, rfl⟩
    · go_wp2
      go_ret
      exact ⟨by rw [HR.out]; rfl, HM.out.bel⟩
    · go_wp2
      go_ret
      exact ⟨by rw [HR.out]; rfl, HM.out.bel⟩
end Go.Proofs.Ytpahfckihcbajaa
namespace Go.Proofs.Ytpahfckihcbajaa
open Go.RowKit

theorem run_append_nothing {P : Program} (w : World) (t ty e : TypeId) (i : TypeInfo) (ht : P.underlying t = some (.slice e)) (hi : P.info? e = some i) (A : Option Addr) (n c : Nat) (hnc : n ≤ c) (hA : A = none → n = 0 ∧ c = 0) (A' : Option Addr) (c' : Nat) :
    (Builtin.append_ #[t, t] ty #[.slice A n c, .slice A' 0 c']).run P w = .ok (.slice A n c) w := by
  cases A with
  | none =>
    obtain ⟨rfl, rfl⟩ := hA rfl
    cases A' with
    | none => simp [Builtin.append_, run_underlying ht, sizeOf, typeInfo, hi, Builtin.lenOf, Builtin.firstCells]
    | some ad => simp [Builtin.append_, run_underlying ht, sizeOf, typeInfo, hi, Builtin.lenOf, Builtin.firstCells, loadCells, loadCellsFrom]
  | some a =>
    cases A' with
    | none => simp [Builtin.append_, run_underlying ht, sizeOf, typeInfo, hi, Builtin.lenOf, Builtin.firstCells, hnc, storeCells]
    | some ad => simp [Builtin.append_, run_underlying ht, sizeOf, typeInfo, hi, Builtin.lenOf, Builtin.firstCells, hnc, loadCells, loadCellsFrom, storeCells]
theorem step_append_nothing {P : Program} (w : World) {ops : Array Oper} {o : Oper} {act : Act} {K : Act → World → Prop} {Q : Exit → Act → World → Prop} {E : Prop} (hgd : o.guard = none) (s x : Operand) (t : TypeId)
    (ho : o.op = .call { callee := .builtin .append, args := #[s, x], argTypes := #[t, t] }) (e : TypeId) (i : TypeInfo) (ht : P.underlying t = some (.slice e)) (hi : P.info? e = some i)
    (A : Option Addr) (n c : Nat) (hs : act.eval s = .slice A n c) (hnc : n ≤ c) (hA : A = none → n = 0 ∧ c = 0) (A' : Option Addr) (c' : Nat) (hx : act.eval x = .slice A' 0 c')
    (h : K (act.put o.dst (.slice A n c)) w) : if Region.wanted o (yielded ops act.tmps) = true then Oper.wp P o act w K Q else E := by
  rw [if_pos (by simp [Region.wanted, hgd])]
  unfold Oper.wp execOp
  simp only [ho, resolve, invoke, builtin, Sem.run_bind, Sem.run_pure, Result.andThen_ok, List.map_toArray, List.map_cons, List.map_nil, hs, hx, run_append_nothing (P := P) w t o.type e i ht hi A n c hnc hA A' c']
  exact h
end Go.Proofs.Ytpahfckihcbajaa
namespace Go.Proofs.Ytpahfckihcbajaa
open Go.RowKit

section
variable {P : Program} {t e : TypeId} {k : Nat}
theorem objs_size (ht : P.underlying t = some (.slice e)) (hk : (P.info? e).map (·.size) = some k) (w : World) : P.underlying t = some (.slice (P.elem t)) ∧ (sizeOf (P.elem t)).run P w = .ok k w := by
  have hel : P.elem t = e := by
    unfold Program.elem
    rw [ht]
  refine ⟨by rw [hel]; exact ht, ?_⟩
  rw [hel]
  cases hi : P.info? e with
  | none => rw [hi] at hk; cases hk
  | some i =>
    rw [hi] at hk
    simp only [Option.map_some, Option.some.injEq] at hk
    simp [sizeOf, typeInfo, hi, hk]
theorem objs_hm (ht : P.underlying t = some (.slice e)) (hk : (P.info? e).map (·.size) = some k) (A : Option Addr) (n c j : Nat) (h3 : j ≤ c) (w : World) : (Instr.sliceAt t (.slice A n c) none (some (.int .i64 (j : Int))) (some (.int .i64 (j : Int)))).run P w = .ok (.slice (addrK A 0 j k) j j) w := by
  obtain ⟨hu, hs⟩ := objs_size ht hk w
  rw [run_sliceAt_slice (P := P) (w := w) t _ _ _ _ hu, run_slice_hm (P := P) (w := w) t A n c hu .i64 .i64 j j (by omega) (by omega) (by omega), hs]
  simp only [Result.andThen, sliced, Int.toNat_natCast, Nat.sub_zero]
  rfl
theorem objs_h (ht : P.underlying t = some (.slice e)) (hk : (P.info? e).map (·.size) = some k) {n : Nat} (A : Option Addr) (c j : Nat) (h2 : j ≤ n) (h3 : n ≤ c) (w : World) : (Instr.sliceAt t (.slice A n c) none (some (.int .i64 (j : Int))) none).run P w = .ok (.slice (addrK A 0 c k) j c) w := by
  obtain ⟨hu, hs⟩ := objs_size ht hk w
  rw [run_sliceAt_slice (P := P) (w := w) t _ _ _ _ hu, run_slice_h (P := P) (w := w) t A n c hu .i64 j (by omega) (by omega), hs]
  simp only [Result.andThen, sliced, Int.toNat_natCast, Nat.sub_zero]
  rfl
theorem objs_l (ht : P.underlying t = some (.slice e)) (hk : (P.info? e).map (·.size) = some k) (A : Option Addr) (n c i : Nat) (h2 : i ≤ n) (w : World) : (Instr.sliceAt t (.slice A n c) (some (.int .i64 (i : Int))) none none).run P w = .ok (.slice (addrK A i c k) (n - i) (c - i)) w := by
  obtain ⟨hu, hs⟩ := objs_size ht hk w
  rw [run_sliceAt_slice (P := P) (w := w) t _ _ _ _ hu, run_slice_l (P := P) (w := w) t A n c hu .i64 i (by omega) (by omega), hs]
  simp only [Result.andThen, sliced, Int.toNat_natCast]
  rfl
end
end Go.Proofs.Ytpahfckihcbajaa
