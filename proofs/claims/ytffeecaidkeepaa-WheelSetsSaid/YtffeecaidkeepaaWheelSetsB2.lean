/-
  Words for lists of objects of one size that a slice holds: the first one for which a predicate holds, a place that is written, a predicate that is handed on. No function of the program is named here. The contracts of the reference's Cancel and CancelPeer. The contract of the reference's LessTimer. The elements of type burrow/api.Timer: size, zero value, pieces of their slices. The beginning of a row that a slice holds. The contract of the reference's Set. The mathematics of timers in order: what Set, Cancel and Due give of one another. No function of the program is named here. What a walk keeps of the memory that it has made, where the call changes one block of its caller's. The contracts of the choices that the statements are made of: Left, Next. Pieces of a slice of bytes whose address is not known: what x[i:j] and x[i:] give, and what they read as. A row that was made is a block; bytes that were read stay. The choices that the statements are made of: New. The choices that the statements are made of, at a world. Rows of objects, where one block is written. Building an array of arrays, stated over a list of its parts. No statement is proved here.
-/
import Derived.Lib.AppendZerosOnto
import Derived.RegionTactic
import Derived.Deep.DeepCutAuto
import Derived.Outline
import Derived.Test.YtffeecaidkeepaaWheelSetsB1
namespace Go.Proofs.Ytffeecaidkeepaa
open Go.RowKit

/-- what is asked of a predicate that is handed on, in every world in which what lies below B is as it was -/
def PredB (P : Program) (F : Nat) (lb : Array Value) (p : List Value → Bool) (B : Nat) (w : World) (os : List (List Value)) : Prop :=
  ∀ o ∈ os, ∀ W, Below B w W → Calls P F (#[.agg o.toArray] ++ lb) W fun e W' => e = .returned (.bool (p o)) ∧ Below W.heap.size W W'
theorem PredB.later {P : Program} {F : Nat} {lb : Array Value} {p : List Value → Bool} {B : Nat} {w w1 : World} {os : List (List Value)} (h : PredB P F lb p B w os) (hb : Below B w w1) : PredB P F lb p B w1 os :=
  fun o ho W hW => h o ho W (hb.trans hW)
def idxM (p : List Value → Bool) (os : List (List Value)) : Int := match os.findIdx? p with
  | none => -1
  | some i => (i : Int)
theorem idxM_none {p : List Value → Bool} {os : List (List Value)} (h : ∀ o ∈ os, p o = false) : idxM p os = -1 := by
  have e : os.findIdx? p = none := List.findIdx?_eq_none_iff.2 h
  unfold idxM
  rw [e]
theorem idxM_some {p : List Value → Bool} {os : List (List Value)} {j : Nat} {o : List Value} (ho : os[j]? = some o) (hp : p o = true) (hn : ∀ (q : Nat) x, q < j → os[q]? = some x → p x = false) : idxM p os = (j : Int) := by
  obtain ⟨hi, rfl⟩ := List.getElem?_eq_some_iff.1 ho
  have e : os.findIdx? p = some j := by
    rw [List.findIdx?_eq_some_iff_getElem]
    exact ⟨hi, hp, fun q hq => by simpa using hn q _ hq (List.getElem?_eq_getElem (by omega))⟩
  unfold idxM
  rw [e]
theorem all_false {p : List Value → Bool} {os : List (List Value)} {n : Nat} (hl : os.length = n) (h : ∀ (q : Nat) x, q < n → os[q]? = some x → p x = false) : ∀ o ∈ os, p o = false := by
  intro o ho
  obtain ⟨i, hi, rfl⟩ := List.getElem_of_mem ho
  exact h i _ (by omega) (List.getElem?_eq_getElem hi)
theorem idxM_cases (p : List Value → Bool) (os : List (List Value)) : (∀ o ∈ os, p o = false) ∨ ∃ j o, os[j]? = some o ∧ p o = true ∧ ∀ (q : Nat) x, q < j → os[q]? = some x → p x = false := by
  cases h : os.findIdx? p with
  | none => exact .inl (List.findIdx?_eq_none_iff.1 h)
  | some j =>
    obtain ⟨hi, hp, hn⟩ := List.findIdx?_eq_some_iff_getElem.1 h
    exact .inr ⟨j, os[j], List.getElem?_eq_getElem hi, hp, fun q x hq hx => by
      obtain ⟨hqi, rfl⟩ := List.getElem?_eq_some_iff.1 hx
      simpa using hn q hq⟩
theorem blk_at {w : World} {g : Nat} {t : TypeId} {k i : Nat} {cs : List (List Value)} {rest o : List Value} (h : Blk w g t (cs.flatten ++ rest)) (hk : ∀ o ∈ cs, o.length = k) (ho : cs[i]? = some o) : At w g (i * k) o := by
  intro j v hj
  rw [h.cell, List.getElem?_append_left]
  · exact flat_at hk i o ho j v hj
  · exact (List.getElem?_eq_some_iff.1 (flat_at hk i o ho j v hj)).1
theorem flat_set {k m : Nat} {cs : List (List Value)} {rest o : List Value} (hk : ∀ o ∈ cs, o.length = k) (ho : o.length = k) (hm : m < cs.length) : setL (cs.flatten ++ rest) (m * k) o = (cs.set m o).flatten ++ rest := by
  have hl := flat_length hk
  have h1 : (m + 1) * k ≤ cs.length * k := Nat.mul_le_mul_right k hm
  have h2 : m * k + k = (m + 1) * k := (Nat.succ_mul m k).symm
  rw [setL, ho, h2, List.take_append_of_le_length (by omega), List.drop_append_of_le_length (by omega), ← flat_take m hk, ← flat_drop (m + 1) hk, List.set_eq_take_append_cons_drop, if_pos hm]
  simp
theorem set_mem {k m : Nat} {cs : List (List Value)} {o : List Value} (hk : ∀ o ∈ cs, o.length = k) (ho : o.length = k) : ∀ x ∈ cs.set m o, x.length = k := by
  intro x hx
  rcases List.mem_or_eq_of_mem_set hx with h | rfl
  · exact hk x h
  · exact ho
theorem one_flat {cs : List (List Value)} (h : ∀ o ∈ cs, ∀ v ∈ o, v.oneCell' = true) : ∀ v ∈ cs.flatten, v.oneCell' = true := fun v hv => by
  obtain ⟨o, ho, h2⟩ := List.mem_flatten.1 hv
  exact h o ho v h2
theorem own_sliceK {w : World} {base e k n : Nat} {v : Value} {xs : List Value} (h : w.ownsRow base e k v n xs) : ∃ A c, v = .slice A n c ∧ n ≤ c ∧ c ≤ maxLen ∧ ∀ ad, A = some ad → base ≤ ad.block := by
  rcases h.2 with ⟨rfl, rfl⟩ | ⟨g, cap, cur, rfl, hb, _, hn, hm, _⟩
  · exact ⟨none, 0, rfl, Nat.le_refl _, by unfold maxLen; omega, fun _ h => by cases h⟩
  · exact ⟨_, _, rfl, hn, hm, fun ad h => by injection h with h; subst h; exact hb⟩
theorem addrK_zero_some (b off c k : Nat) : addrK (some ⟨b, off, none⟩) 0 c k = some ⟨b, off, none⟩ := by
  unfold addrK
  split
  · rfl
  · rw [Option.map_some, Go.WideShapes.add_plain, Nat.zero_mul, Nat.add_zero]
theorem addrK_some {b off i c k : Nat} (h : i < c) : addrK (some ⟨b, off, none⟩) i c k = some ⟨b, off + i * k, none⟩ := by
  unfold addrK
  rw [if_neg (by omega), Option.map_some, Go.WideShapes.add_plain]
theorem RdRow.ahead {W : World} {B k n : Nat} {A : Option Addr} {os : List (List Value)} (h : RdRow W B A k n os) (i c : Nat) (hi : i ≤ n) : RdRow W B (addrK A 0 c k) k i (os.take i) := by
  rcases Nat.eq_zero_or_pos i with h0 | h0
  · subst h0
    rw [List.take_zero]
    exact RdRow.nil
  · obtain ⟨b, off, rfl⟩ := h.addr (by omega)
    rw [addrK_zero_some]
    exact h.take i hi
/-- the builtin clear of the elements of a slice that lie in a block -/
theorem run_clear_objs {P : Program} (w : World) (t e ty : TypeId) (ht : P.underlying t = some (.slice e)) (z : Value) (hv : ∀ w, (zeroValue e).run P w = .ok z w) (h1 : ∀ v ∈ z.cells.toList, v.oneCell' = true) (g off n c : Nat) (bt : TypeId) (old : List Value) (hg : Blk w g bt old) (hfit : off + n * z.cells.size ≤ old.length) (hn : 0 < n) :
    ∃ w', (Builtin.clear_ #[t] ty #[.slice (some ⟨g, off, none⟩) n c]).run P w = .ok (.tuple #[]) w' ∧ Blk w' g bt (setL old off (Builtin.zeroCells z.cells n).toList) ∧ w.grownBy w' (some g) := by
  obtain ⟨m, rfl⟩ : ∃ m, n = m + 1 := ⟨n - 1, by omega⟩
  have hl : (Builtin.zeroCells z.cells (m + 1)).toList.length = (m + 1) * z.cells.size := by simp [Builtin.zeroCells]
  have ho : ∀ v ∈ (Builtin.zeroCells z.cells (m + 1)).toList, v.oneCell' = true := by
    intro v hv
    simp only [Builtin.zeroCells, Array.toList_map, Array.toList_range, List.mem_map, List.mem_range] at hv
    obtain ⟨i, hi, rfl⟩ := hv
    have hs : 0 < z.cells.size := by
      rcases Nat.eq_zero_or_pos z.cells.size with h | h
      · rw [h] at hi; omega
      · exact h
    refine h1 _ ?_
    have hlt := Nat.mod_lt i hs
    rw [getElem!_pos z.cells _ hlt]
    simp
  have hst := run_storeCells_at P g off bt (Builtin.zeroCells z.cells (m + 1)).toList 0 old.toArray w hg (by simpa [hl] using hfit) ho
  rw [Nat.add_zero] at hst
  refine ⟨w.setRow g (old.toArray.toList.take off ++ (Builtin.zeroCells z.cells (m + 1)).toList ++ old.toArray.toList.drop (off + (Builtin.zeroCells z.cells (m + 1)).toList.length)).toArray, ?_, ?_, ⟨rfl, rfl, rfl, by simp, fun k _ hk => setRow_other w g k _ (fun e => hk (by simp [e]))⟩⟩
  · simp only [Builtin.clear_, List.getElem?_toArray, List.getElem?_cons_zero, Sem.run_bind, run_underlying ht, Result.andThen_ok, hv]
    rw [hst]
    rfl
  · exact setRow_heap w g old.toArray _ bt _ hg
theorem wpList_clear_objs {P : Program} (w : World) {ops : Array Oper} {rest : List Oper} {o : Oper} {a : Act} {Q : Exit → Act → World → Prop} (hgd : o.guard = none) (d : Operand) (t e : TypeId)
    (ho : o.op = .call { callee := .builtin .clear, args := #[d], argTypes := #[t] }) (ht : P.underlying t = some (.slice e)) (z : Value) (hv : ∀ w, (zeroValue e).run P w = .ok z w) (h1 : ∀ v ∈ z.cells.toList, v.oneCell' = true)
    (g off n c : Nat) (hd : a.eval d = .slice (some ⟨g, off, none⟩) n c) (bt : TypeId) (old : List Value) (hg : Blk w g bt old) (hfit : off + n * z.cells.size ≤ old.length) (hn : 0 < n)
    (h : ∀ w', Blk w' g bt (setL old off (Builtin.zeroCells z.cells n).toList) → w.grownBy w' (some g) → wpList P ops Q rest (a.put o.dst (.tuple #[])) w') : wpList P ops Q (o :: rest) a w := by
  refine wpList_plain hgd fun K hK => ?_
  obtain ⟨w', hrun, h2, h3⟩ := run_clear_objs (P := P) w t e o.type ht z hv h1 g off n c bt old hg hfit hn
  unfold Oper.wp execOp
  simp only [ho, resolve, invoke, builtin, Sem.run_bind, Sem.run_pure, Result.andThen_ok, List.map_toArray, List.map_cons, List.map_nil, hd, hrun]
  exact hK _ _ (h w' h2 h3)
end Go.Proofs.Ytffeecaidkeepaa
namespace Go.Proofs.Ytffeecaidkeepaa
open Go.RowKit

set_option maxRecDepth 100000 in
set_option maxHeartbeats 8000000 in
theorem refCancelT_any : WhCancelC 12 := by
  intro A n c l k d w hk hd harg
  have hn := harg.1
  have HA := Lib.hid harg.2.2.2
  have HK := Lib.hid hk
  obtain ⟨ik, hik, hiz, his, hib⟩ := timerInfo
  have HKI := Lib.hid (And.intro hik (And.intro hiz (And.intro his hib)))
  clear hik hiz his hib
  obtain ⟨kk, hkk⟩ : ∃ z, (k.map u8v).toArray = z := ⟨_, rfl⟩
  rw [hkk]
  have HKK := Lib.hid hkk
  have HB1 := Lib.hid (show Blk (w.alloc (.cells kk 25)) w.heap.size 25 (k.map u8v) ∧ Below w.heap.size w (w.alloc (.cells kk 25)) from ⟨by rw [← hkk]; exact Blk.new w 25 _, (Below.refl _ _).alloc (Nat.le_refl _) _⟩)
  clear harg hk hkk
  go_enter Try.func12, Try.ntmps12
  go_upto_region 1 with fail
  generalize w.alloc (.cells kk 25) = w1 at HB1 ⊢
  go_wp2_with fail
  go_loopw [12, 7] (fun v vo wr => ∃ j m : Nat, j ≤ n ∧ v = .int .i64 (j : Int) ∧ m = (cancelT (l.take j) k d).length ∧ wr.ownsRow w1.heap.size 27 34 vo m (tmsV (cancelT (l.take j) k d)).flatten ∧ Below w1.heap.size w1 wr) (fun v _ _ => n - (intOf v).toNat)
  case atStart => exact ⟨0, 0, by omega, rfl, rfl, World.ownsRow_nil _ _ _ _, Below.refl _ _⟩
  case round =>
    obtain ⟨j, m, hj, rfl, hm, hown, hbl⟩ := hrel
    have HO := Lib.hid (And.intro hown hbl)
    have HBL := Lib.hid (show Below w.heap.size w wr from HB1.out.2.trans (hbl.mono HB1.out.2.size))
    have HMM := Lib.hid hm
    clear hown hbl hm
    by_cases hjn : j < n
    · have d1 : decide ((j : Int) < (n : Int)) = true := by simp; omega
      have HLE := Lib.hid (show m ≤ n from by rw [HMM.out]; exact Nat.le_trans (cancelT_le _ _ _) (by rw [List.length_take]; omega))
      obtain ⟨b, off, rfl⟩ := HA.out.1.addr (by omega)
      obtain ⟨s, hs⟩ : ∃ s, l[j]? = some s := ⟨l[j]'(by rw [HA.out.len]; exact hjn), List.getElem?_eq_getElem _⟩
      have HOK := Lib.hid (HA.out.ok hs)
      have hat := HA.out.at j s hs
      have HLA := Lib.hid (hat.2.mono HBL.out hat.1)
      have HJS := Lib.hid hs
      obtain ⟨sc, hsc⟩ : ∃ z, s.cells.toArray = z := ⟨_, rfl⟩
      have HSC := Lib.hid hsc
      obtain ⟨sk, hsk⟩ : ∃ z, (s.peer.map u8v).toArray = z := ⟨_, rfl⟩
      have HSK := Lib.hid hsk
      clear hat hs hsc hsk
      have HZ := Lib.hid (Blk.new wr 27 timerZ)
      go_upto_region 5 with (first | (refine wpList_load_obj rfl 27 (.tmp 14) rfl b _ rfl s.cells HLA.out _ Try.underlying27 rfl (timer_cellsOf s HOK.out) ?_; rw [HSC.out]) | (refine wpList_store_obj rfl 27 (.tmp 9) (.tmp 15) rfl wr.heap.size 0 s.cells rfl (by show Value.agg sc = _; rw [HSC.out]) 27 timerZ HZ.out (timer_cellsOf s HOK.out) (by rw [TimerM.cells_length HOK.out, timerZ_length]; omega) (timer_one s) ?_; intro w4 hb4 hg4))
      rw [setL_all timerZ s.cells (by rw [TimerM.cells_length HOK.out, timerZ_length])] at hb4
      have HSN := Lib.hid (take_snoc HJS.out)
      have HBF := Lib.hid (below_fresh hg4)
      have HP := Lib.hid hb4
      have HO4 := Lib.hid (show w4.ownsRow w1.heap.size 27 34 u7 m (tmsV (cancelT (l.take j) k d)).flatten ∧ Below w1.heap.size w1 w4 from ⟨own_below HO.out.1 HBF.out, HO.out.2.trans (HBF.out.mono HO.out.2.size)⟩)
      have heq := key_eq s.peer k HOK.out.2.1 HK.out
      rw [HSK.out, HKK.out] at heq
      have HEQ := Lib.hid heq
      clear hb4 hg4 HO HBF HZ d1 HLA HBL heq
      generalize wr.heap.size = P1 at HP ⊢
      have fk := kind_at HP.out.all HOK.out
      obtain ⟨y1, hy1⟩ : ∃ y, decide (s.peer = k) = y := ⟨_, rfl⟩
      obtain ⟨y2, hy2⟩ : ∃ y, decide (s.kind = d) = y := ⟨_, rfl⟩
      rw [hy1] at HEQ
      have HRE := Lib.hid (show cancelT (l.take (j + 1)) k d = cancelT (l.take j) k d ++ (if (y1 && y2) = true then [] else [s]) from by rw [HSN.out, cancelT_snoc, forT, hy1, hy2])
      have hkn : (s.kind != d) = !y2 := by rw [← hy2]; by_cases h : s.kind = d <;> simp [h]
      obtain ⟨kd, hkd⟩ : ∃ z, s.kind = z := ⟨_, rfl⟩
      rw [hkd] at fk hkn
      clear hy1 hy2 hkd
      cases y1 with
      | false =>
        go_wp2_with (first | (refine wpList_load_obj rfl 25 (.tmp 16) rfl P1 1 rfl (s.peer.map u8v) (peer_at HP.out.all) _ Try.underlying25 rfl (key_cellsOf _ HOK.out.2.1) ?_; rw [HSK.out]) | (refine wpList_load_obj rfl 25 (.tmp 4) rfl w.heap.size 0 rfl (k.map u8v) ((HB1.out.1.below HO4.out.2 HB1.out.1.lt).all) _ Try.underlying25 rfl (key_cellsOf _ HK.out) ?_; rw [HKK.out]) | (refine wpList_neq_agg (by rfl) 25 25 17 18 rfl sk kk false rfl rfl key_noguard (HEQ.out _) ?_) | (refine wpList_load_obj rfl 27 (.tmp 9) rfl P1 0 rfl s.cells HP.out.all _ Try.underlying27 rfl (timer_cellsOf s HOK.out) ?_; rw [HSC.out]) | (refine wpList_buildOne rfl 23 27 (.tmp 27) rfl sc rfl 34 Try.underlying23 ik HKI.out.1 HKI.out.2.2.1 _ HKI.out.2.1 (by omega) (by omega) (by rw [← HSC.out, List.size_toArray, TimerM.cells_length HOK.out]) ?_) | (refine wpList_append_own_at _ rfl (.tmp 26) (.tmp 28) 23 rfl w1.heap.size 27 ik _ 34 48 Try.underlying23 HKI.out.1 HKI.out.2.1 HKI.out.2.2.1 HKI.out.2.2.2 (by rfl) (by omega) u7 m _ rfl (HO4.out.1.alloc (.cells sc 27)) ⟨w4.heap.size, 0, none⟩ 1 1 s.cells rfl (by rw [TimerM.cells_length HOK.out]) (fun q v hv => by rw [Go.WideShapes.add_plain, Nat.zero_add, ← HSC.out, (Blk.new w4 27 s.cells).cell]; exact hv) (timer_one s) (by unfold maxLen; have := HLE.out; omega) (by have := HLE.out; omega) (HO4.out.2.alloc HO4.out.2.size (.cells sc 27)).size ?_; intro v6 w6 ho6 hg6 _ _))
        go_roundw
        case rel => exact ⟨j + 1, m + 1, by omega, by go_num, by rw [HRE.out, List.length_append, ← HMM.out]; rfl, by rw [HRE.out]; show w6.ownsRow _ _ _ _ _ (tmsV (_ ++ [s])).flatten; rw [tmsV_snoc]; exact ho6, (HO4.out.2.alloc HO4.out.2.size (.cells sc 27)).grown hg6 (HO4.out.2.alloc HO4.out.2.size (.cells sc 27)).size (own_from HO4.out.1)⟩
        case measure => simp [intOf]; omega
      | true =>
        cases y2 with
        | false =>
          go_wp2_with (first | (refine wpList_load_obj rfl 25 (.tmp 16) rfl P1 1 rfl (s.peer.map u8v) (peer_at HP.out.all) _ Try.underlying25 rfl (key_cellsOf _ HOK.out.2.1) ?_; rw [HSK.out]) | (refine wpList_load_obj rfl 25 (.tmp 4) rfl w.heap.size 0 rfl (k.map u8v) ((HB1.out.1.below HO4.out.2 HB1.out.1.lt).all) _ Try.underlying25 rfl (key_cellsOf _ HK.out) ?_; rw [HKK.out]) | (refine wpList_neq_agg (by rfl) 25 25 17 18 rfl sk kk true rfl rfl key_noguard (HEQ.out _) ?_) | (refine wpList_load_obj rfl 27 (.tmp 9) rfl P1 0 rfl s.cells HP.out.all _ Try.underlying27 rfl (timer_cellsOf s HOK.out) ?_; rw [HSC.out]) | (refine wpList_buildOne rfl 23 27 (.tmp 27) rfl sc rfl 34 Try.underlying23 ik HKI.out.1 HKI.out.2.2.1 _ HKI.out.2.1 (by omega) (by omega) (by rw [← HSC.out, List.size_toArray, TimerM.cells_length HOK.out]) ?_) | (refine wpList_append_own_at _ rfl (.tmp 26) (.tmp 28) 23 rfl w1.heap.size 27 ik _ 34 48 Try.underlying23 HKI.out.1 HKI.out.2.1 HKI.out.2.2.1 HKI.out.2.2.2 (by rfl) (by omega) u7 m _ rfl (HO4.out.1.alloc (.cells sc 27)) ⟨w4.heap.size, 0, none⟩ 1 1 s.cells rfl (by rw [TimerM.cells_length HOK.out]) (fun q v hv => by rw [Go.WideShapes.add_plain, Nat.zero_add, ← HSC.out, (Blk.new w4 27 s.cells).cell]; exact hv) (timer_one s) (by unfold maxLen; have := HLE.out; omega) (by have := HLE.out; omega) (HO4.out.2.alloc HO4.out.2.size (.cells sc 27)).size ?_; intro v6 w6 ho6 hg6 _ _))
          go_roundw
          case rel => exact ⟨j + 1, m + 1, by omega, by go_num, by rw [HRE.out, List.length_append, ← HMM.out]; rfl, by rw [HRE.out]; show w6.ownsRow _ _ _ _ _ (tmsV (_ ++ [s])).flatten; rw [tmsV_snoc]; exact ho6, (HO4.out.2.alloc HO4.out.2.size (.cells sc 27)).grown hg6 (HO4.out.2.alloc HO4.out.2.size (.cells sc 27)).size (own_from HO4.out.1)⟩
          case measure => simp [intOf]; omega
        | true =>
          go_wp2_with (first | (refine wpList_load_obj rfl 25 (.tmp 16) rfl P1 1 rfl (s.peer.map u8v) (peer_at HP.out.all) _ Try.underlying25 rfl (key_cellsOf _ HOK.out.2.1) ?_; rw [HSK.out]) | (refine wpList_load_obj rfl 25 (.tmp 4) rfl w.heap.size 0 rfl (k.map u8v) ((HB1.out.1.below HO4.out.2 HB1.out.1.lt).all) _ Try.underlying25 rfl (key_cellsOf _ HK.out) ?_; rw [HKK.out]) | (refine wpList_neq_agg (by rfl) 25 25 17 18 rfl sk kk true rfl rfl key_noguard (HEQ.out _) ?_))
          go_roundw
          case rel => exact ⟨j + 1, m, by omega, by go_num, by rw [HRE.out]; simpa using HMM.out, by rw [HRE.out]; simpa using HO4.out.1, HO4.out.2⟩
          case measure => simp [intOf]; omega
    · obtain rfl : n = j := by omega
      obtain ⟨A9, c9, rfl, hfr9⟩ : ∃ A c, u7 = .slice A m c ∧ ∀ ad, A = some ad → w1.heap.size ≤ ad.block := by
        obtain ⟨A, c, h, _, _, h3⟩ := own_sliceK HO.out.1
        exact ⟨A, c, h, h3⟩
      have HFR := Lib.hid (fun ad (h : A9 = some ad) => Nat.le_trans HB1.out.2.size (hfr9 ad h))
      have d1 : decide ((n : Int) < (n : Int)) = false := by simp
      have htk : l.take n = l := List.take_of_length_le (by rw [HA.out.len]; exact Nat.le_refl _)
      rw [htk] at HO HMM
      have HF := Lib.hid HO.out
      have HX := Lib.hid HMM.out
      clear HO HMM htk HBL hfr9
      go_wp2
      go_ret
      have hx := HX.out
      subst hx
      exact ⟨_, rfl, A9, c9, rfl, (own_cap HF.out.1).1, (own_cap HF.out.1).2, (TmRd.of_own rfl (cancelT_ok HA.out.2 k d) HF.out.1), HFR.out, HB1.out.2.trans (HF.out.2.mono HB1.out.2.size)⟩
end Go.Proofs.Ytffeecaidkeepaa
namespace Go.Proofs.Ytffeecaidkeepaa
open Go.RowKit

theorem timer_rd {w : World} {g : Nat} {t : TypeId} {a : TimerM} (h : Blk w g t a.cells) (ho : a.ok) : Rd w w.heap.size (some ⟨g, 1, none⟩) 32 a.peer := by
  refine ⟨ho.2.1, fun _ => ⟨g, 1, rfl, h.lt, fun j hj => ?_⟩⟩
  have := peer_at h.all j (u8v a.peer[j]) (by rw [List.getElem?_map, List.getElem?_eq_getElem hj]; rfl)
  simpa [u8v] using this
set_option maxRecDepth 100000 in
set_option maxHeartbeats 8000000 in
theorem refLessT_any : WhLessC 22 := by
  intro a b w ha hb
  obtain ⟨ca, hca⟩ : ∃ x, a.cells.toArray = x := ⟨_, rfl⟩
  obtain ⟨cb, hcb⟩ : ∃ x, b.cells.toArray = x := ⟨_, rfl⟩
  obtain ⟨ka, hka⟩ : ∃ z, (a.peer.map u8v).toArray = z := ⟨_, rfl⟩
  obtain ⟨kb, hkb⟩ : ∃ z, (b.peer.map u8v).toArray = z := ⟨_, rfl⟩
  have heq := key_eq a.peer b.peer ha.2.1 hb.2.1
  rw [hka, hkb] at heq
  rw [hca, hcb]
  have HM := Lib.hid (show Mem w [blkE (w.heap.size + 1) 27 b.cells, blkE w.heap.size 27 a.cells] ((w.alloc (.cells ca 27)).alloc (.cells cb 27)) from ((Mem.nil w).alloc rfl 27 ca a.cells hca.symm).alloc (by simp) 27 cb b.cells hcb.symm)
  have HOA := Lib.hid ha
  have HOB := Lib.hid hb
  have HKA := Lib.hid hka
  have HKB := Lib.hid hkb
  have HEQ := Lib.hid heq
  have HDE := Lib.hid (show lessT a b = if a.tm = b.tm then (if a.peer = b.peer then decide (a.kind < b.kind) else Op.bytesLess a.peer b.peer) else decide (a.tm < b.tm) from rfl)
  clear hca hcb ha hb hka hkb heq
  go_enter Try.func22, Try.ntmps22
  go_upto_region 1 with fail
  generalize ((w.alloc (.cells ca 27)).alloc (.cells cb 27)) = w1 at HM ⊢
  have f1 := tm_at (HM.out.blk 1 rfl).all
  have f2 := tm_at (HM.out.blk 0 rfl).all
  by_cases h6 : a.tm = b.tm
  · replace HDE := Lib.hid (HDE.out.trans (if_pos h6))
    rw [h6] at f1
    have hne : (b.tm != b.tm) = false := by simp
    clear h6
    generalize b.tm = tx at f1 f2 hne
    by_cases h7 : a.peer = b.peer
    · replace HDE := Lib.hid (HDE.out.trans (if_pos h7))
      rw [decide_eq_true h7] at HEQ
      clear h7
      have f3 := kind_at (HM.out.blk 1 rfl).all HOA.out
      have f4 := kind_at (HM.out.blk 0 rfl).all HOB.out
      obtain ⟨kx, hkx⟩ : ∃ z, a.kind = z := ⟨_, rfl⟩
      obtain ⟨ky, hky⟩ : ∃ z, b.kind = z := ⟨_, rfl⟩
      rw [hkx] at f3
      rw [hky] at f4
      rw [hkx, hky] at HDE
      clear hkx hky
      go_wp2_with (first | (refine wpList_load_obj rfl 25 (.tmp 15) rfl w.heap.size 1 rfl (a.peer.map u8v) (peer_at (HM.out.blk 1 rfl).all) _ Try.underlying25 rfl (key_cellsOf _ HOA.out.2.1) ?_; rw [HKA.out]) | (refine wpList_load_obj rfl 25 (.tmp 17) rfl (w.heap.size + 1) 1 rfl (b.peer.map u8v) (peer_at (HM.out.blk 0 rfl).all) _ Try.underlying25 rfl (key_cellsOf _ HOB.out.2.1) ?_; rw [HKB.out]) | (refine wpList_neq_agg (by rfl) 25 25 16 18 rfl ka kb true rfl rfl key_noguard (HEQ.out _) ?_))
      go_ret
      exact ⟨by rw [HDE.out]; rfl, HM.out.bel⟩
    · replace HDE := Lib.hid (HDE.out.trans (if_neg h7))
      rw [decide_eq_false h7] at HEQ
      have HE := Lib.hid HDE.out
      clear h7 HDE
      go_upto_region 4 with (first | (refine wpList_load_obj rfl 25 (.tmp 15) rfl w.heap.size 1 rfl (a.peer.map u8v) (peer_at (HM.out.blk 1 rfl).all) _ Try.underlying25 rfl (key_cellsOf _ HOA.out.2.1) ?_; rw [HKA.out]) | (refine wpList_load_obj rfl 25 (.tmp 17) rfl (w.heap.size + 1) 1 rfl (b.peer.map u8v) (peer_at (HM.out.blk 0 rfl).all) _ Try.underlying25 rfl (key_cellsOf _ HOB.out.2.1) ?_; rw [HKB.out]) | (refine wpList_neq_agg (by rfl) 25 25 16 18 rfl ka kb false rfl rfl key_noguard (HEQ.out _) ?_))
      clear f1 f2 hne
      generalize w.heap.size = GA at HM ⊢
      refine wp_region_held_drew (S := fun W' => Mem w [blkE (GA + 1) 27 b.cells, blkE GA 27 a.cells] W') (by kernel_rfl) ((HM.out).drew) (fun hHeld => ?_)
      replace HM := Lib.hid HM.out.drew
      generalize w1.drew = wd1 at HM hHeld ⊢
      refine take_first (v := ?_) 0 rfl (by kernel_rfl) (by kernel_rfl) (by kernel_rfl) (fun _ _ _ h => h) (Or.inl ⟨by rfl, ?_⟩) (by assumption) ?_
      rotate_left
      · (intro w hSw; (try dsimp only at hSw); go_simp; try with_reducible rfl)
      (try simp only [Act.put, List.setIfInBounds_toArray, List.set_cons_zero, List.set_cons_succ])
      refine take_first (v := ?_) 1 rfl (by kernel_rfl) (by kernel_rfl) (by kernel_rfl) (fun _ _ _ h => h) (Or.inl ⟨by rfl, ?_⟩) (by assumption) ?_
      rotate_left
      · (intro w hSw; (try dsimp only at hSw); go_simp; try with_reducible rfl)
      (try simp only [Act.put, List.setIfInBounds_toArray, List.set_cons_zero, List.set_cons_succ])
      refine take_first (v := ?_) 2 rfl (by kernel_rfl) (by kernel_rfl) (by kernel_rfl) (fun _ _ _ h => h) (Or.inl ⟨by rfl, ?_⟩) (by assumption) ?_
      rotate_left
      · (intro w hSw; (try dsimp only at hSw); have cv : (convert 22 9 (.slice (some ⟨GA, 1, none⟩) 32 32)).run Try.prog w = .ok (.string ⟨a.peer.toArray⟩) w := run_string_of_rd (P := Try.prog) 22 9 5 32 Try.underlying22 Try.underlying5 Try.underlying9 (timer_rd (Mem.blk hSw 1 rfl) HOA.out); go_simp; try with_reducible rfl)
      (try simp only [Act.put, List.setIfInBounds_toArray, List.set_cons_zero, List.set_cons_succ])
      refine take_first (v := ?_) 3 rfl (by kernel_rfl) (by kernel_rfl) (by kernel_rfl) (fun _ _ _ h => h) (Or.inl ⟨by rfl, ?_⟩) (by assumption) ?_
      rotate_left
      · (intro w hSw; (try dsimp only at hSw); go_simp; try with_reducible rfl)
      (try simp only [Act.put, List.setIfInBounds_toArray, List.set_cons_zero, List.set_cons_succ])
      refine take_first (v := ?_) 4 rfl (by kernel_rfl) (by kernel_rfl) (by kernel_rfl) (fun _ _ _ h => h) (Or.inl ⟨by rfl, ?_⟩) (by assumption) ?_
      rotate_left
      · (intro w hSw; (try dsimp only at hSw); go_simp; try with_reducible rfl)
      (try simp only [Act.put, List.setIfInBounds_toArray, List.set_cons_zero, List.set_cons_succ])
      refine take_first (v := ?_) 5 rfl (by kernel_rfl) (by kernel_rfl) (by kernel_rfl) (fun _ _ _ h => h) (Or.inl ⟨by rfl, ?_⟩) (by assumption) ?_
      rotate_left
      · (intro w hSw; (try dsimp only at hSw); have cv : (convert 22 9 (.slice (some ⟨(GA + 1), 1, none⟩) 32 32)).run Try.prog w = .ok (.string ⟨b.peer.toArray⟩) w := run_string_of_rd (P := Try.prog) 22 9 5 32 Try.underlying22 Try.underlying5 Try.underlying9 (timer_rd (Mem.blk hSw 0 rfl) HOB.out); go_simp; try with_reducible rfl)
      (try simp only [Act.put, List.setIfInBounds_toArray, List.set_cons_zero, List.set_cons_succ])
      refine take_first (v := ?_) 6 rfl (by kernel_rfl) (by kernel_rfl) (by kernel_rfl) (fun _ _ _ h => h) (Or.inl ⟨by rfl, ?_⟩) (by assumption) ?_
      rotate_left
      · (intro w hSw; (try dsimp only at hSw); go_simp; try with_reducible rfl)
      (try simp only [Act.put, List.setIfInBounds_toArray, List.set_cons_zero, List.set_cons_succ])
      refine take_first (v := ?_) 7 rfl (by kernel_rfl) (by kernel_rfl) (by kernel_rfl) (fun _ _ _ h => h) (Or.inl ⟨by rfl, ?_⟩) (by assumption) ?_
      rotate_left
      · (intro w hSw; (try dsimp only at hSw); go_simp; try with_reducible rfl)
      (try simp only [Act.put, List.setIfInBounds_toArray, List.set_cons_zero, List.set_cons_succ])
      refine wpAnyH_done (by kernel_rfl) ?_ _
      have HB := Lib.hid HM.out.bel
      clear HM hHeld
      go_wp2
      go_ret
      exact ⟨by have h := HE.out; simp at h ⊢; exact h.symm, HB.out⟩
  · replace HDE := Lib.hid (HDE.out.trans (if_neg h6))
    have hne : (a.tm != b.tm) = true := by rw [bne_iff_ne]; exact h6
    clear h6
    generalize a.tm = tx at f1 hne HDE
    generalize b.tm = ty at f2 hne HDE
    go_wp2
    go_ret
    exact ⟨by rw [HDE.out]; rfl, HM.out.bel⟩
end Go.Proofs.Ytffeecaidkeepaa
namespace Go.Proofs.Ytffeecaidkeepaa
open Go.RowKit

theorem tm_size (o : List Value) (h : o.length = 34) : (Try.prog.info? 27).map (·.size) = some o.length := by
  rw [h]; kernel_rfl
theorem tm_under : Try.prog.underlying 23 = some (.slice (Try.prog.elem 23)) := by kernel_rfl
theorem tm_elem : Try.prog.elem 23 = 27 := by kernel_rfl
theorem tm_sizeOf (w : World) : (sizeOf (Try.prog.elem 23)).run Try.prog w = .ok 34 w := by
  obtain ⟨i0, hi, _, hs, _⟩ := timerInfo
  rw [tm_elem]
  simp [sizeOf, typeInfo, hi, hs]
theorem tm_zero (w : World) : (zeroValue 27).run Try.prog w = .ok (.agg timerZ.toArray) w := by
  obtain ⟨i0, hi, hz, _, _⟩ := timerInfo
  simp [zeroValue, typeInfo, hi, hz]
set_option maxRecDepth 100000 in
theorem tm_l (A : Option Addr) (n c i : Nat) (h2 : i ≤ n) (w : World) : (Instr.sliceAt 23 (.slice A n c) (some (.int .i64 (i : Int))) none none).run Try.prog w = .ok (.slice (addrK A i c 34) (n - i) (c - i)) w := by
  rw [run_sliceAt_slice (P := Try.prog) (w := w) 23 _ _ _ _ tm_under, run_slice_l (P := Try.prog) (w := w) 23 A n c tm_under .i64 i (by omega) (by omega), tm_sizeOf]
  simp only [Result.andThen, sliced, Int.toNat_natCast]
  rfl
set_option maxRecDepth 100000 in
theorem tm_h {n : Nat} (A : Option Addr) (c j : Nat) (h2 : j ≤ n) (h3 : n ≤ c) (w : World) : (Instr.sliceAt 23 (.slice A n c) none (some (.int .i64 (j : Int))) none).run Try.prog w = .ok (.slice (addrK A 0 c 34) j c) w := by
  rw [run_sliceAt_slice (P := Try.prog) (w := w) 23 _ _ _ _ tm_under, run_slice_h (P := Try.prog) (w := w) 23 A n c tm_under .i64 j (by omega) (by omega), tm_sizeOf]
  simp only [Result.andThen, sliced, Int.toNat_natCast, Nat.sub_zero]
  rfl
end Go.Proofs.Ytffeecaidkeepaa
namespace Go.Proofs.Ytffeecaidkeepaa
open Go.RowKit

theorem addrK_zero {W : World} {B k n : Nat} {A : Option Addr} {os : List (List Value)} (h : RdRow W B A k n os) (j : Nat) (hj : j ≤ n) : RdRow W B (addrK A 0 j k) k j (os.take j) := by
  rcases Nat.eq_zero_or_pos j with h0 | h0
  · subst h0
    rw [List.take_zero]
    exact RdRow.nil
  · obtain ⟨b, off, rfl⟩ := h.addr (by omega)
    unfold addrK
    rw [if_neg (by omega), Option.map_some, Go.WideShapes.add_plain, Nat.zero_mul, Nat.add_zero]
    exact h.take j hj
end Go.Proofs.Ytffeecaidkeepaa
namespace Go.Proofs.Ytffeecaidkeepaa
open Go.RowKit

set_option maxRecDepth 100000 in
theorem tm_hm (A : Option Addr) (n c j : Nat) (h3 : j ≤ c) (w : World) : (Instr.sliceAt 23 (.slice A n c) none (some (.int .i64 (j : Int))) (some (.int .i64 (j : Int)))).run Try.prog w = .ok (.slice (addrK A 0 j 34) j j) w := by
  rw [run_sliceAt_slice (P := Try.prog) (w := w) 23 _ _ _ _ tm_under, run_slice_hm (P := Try.prog) (w := w) 23 A n c tm_under .i64 .i64 j j (by omega) (by omega) (by omega), tm_sizeOf]
  simp only [Result.andThen, sliced, Int.toNat_natCast, Nat.sub_zero]
  rfl
theorem whOut_of {w w' : World} {base m : Nat} {v : Value} {l : List TimerM} (hbs : w.heap.size ≤ base) (hm : m = l.length) (hok : ∀ s ∈ l, s.ok) (h : w'.ownsRow base 27 34 v m (tmsV l).flatten) (hb : Below w.heap.size w w') : WhOut w w' v l := by
  subst hm
  obtain ⟨A, c, rfl, h1, h2, h3⟩ := own_sliceK h
  exact ⟨A, c, rfl, h1, h2, TmRd.of_own rfl hok h, fun ad ha => Nat.le_trans hbs (h3 ad ha), hb⟩
set_option maxRecDepth 100000 in
set_option maxHeartbeats 16000000 in
theorem refSetT_any : WhSetC 10 := by
  intro A n c l t w ht harg
  have hn := harg.1
  have HOT := Lib.hid ht
  have HOKS := Lib.hid harg.2.2.2.2
  have HLN := Lib.hid harg.2.2.2.len
  obtain ⟨ik, hik, hiz, his, hib⟩ := timerInfo
  have HKI := Lib.hid (And.intro hik (And.intro hiz (And.intro his hib)))
  clear hik hiz his hib
  obtain ⟨tc, htc⟩ : ∃ z, t.cells.toArray = z := ⟨_, rfl⟩
  rw [htc]
  have HTC := Lib.hid htc
  have HM := Lib.hid (show Mem w [blkE w.heap.size 27 t.cells] (w.alloc (.cells tc 27)) from (Mem.nil w).alloc rfl 27 tc t.cells htc.symm)
  obtain ⟨kk, hkk⟩ : ∃ z, (t.peer.map u8v).toArray = z := ⟨_, rfl⟩
  have HKK := Lib.hid hkk
  have HARG := Lib.hid harg
  clear harg ht htc hkk
  go_enter Try.func10, Try.ntmps10
  go_upto_region 1 with fail
  generalize w.alloc (.cells tc 27) = w1 at HM ⊢
  have fk := kind_at (HM.out.blk 0 rfl).all HOT.out
  have hca := refCancelT_any A n c l t.peer t.kind w1 HOT.out.2.1 HOT.out.2.2 ⟨hn, HARG.out.2.1, HARG.out.2.2.1, (HARG.out.2.2.2.below HM.out.bel).mono HM.out.bel.size⟩
  rw [HKK.out] at hca
  have HCA := Lib.hid hca
  clear hca
  go_wp2_with (refine wpList_load_obj rfl 25 (.tmp 8) rfl w.heap.size 1 rfl (t.peer.map u8v) (peer_at (HM.out.blk 0 rfl).all) _ Try.underlying25 rfl (key_cellsOf _ HOT.out.2.1) ?_; rw [HKK.out])
  refine HCA.out.mono ?_
  rintro e w3 ⟨v5, rfl, A9, c9, rfl, hmc, hcm9, hrd, hfr, hb⟩
  obtain ⟨rest, hrest⟩ : ∃ z, cancelT l t.peer t.kind = z := ⟨_, rfl⟩
  have hml : rest.length ≤ 100 := by rw [← hrest]; exact Nat.le_trans (cancelT_le _ _ _) (by rw [HLN.out]; exact hn)
  rw [hrest] at hrd hmc ⊢
  obtain ⟨m, hm⟩ : ∃ z, rest.length = z := ⟨_, rfl⟩
  rw [hm] at hrd hml hmc ⊢
  have hmc9 := hmc
  have HX3 := Lib.hid (show TmRd w3 w3.heap.size A9 m rest ∧ Blk w3 w.heap.size 27 t.cells from ⟨hrd, (HM.out.below hb).blk 0 rfl⟩)
  have HX0 := Lib.hid (show Below w.heap.size w w3 from HM.out.bel.trans (hb.mono HM.out.bel.size))
  have HREST := Lib.hid hrest
  have HA9 := Lib.hid (show (m = 0 ∧ A9 = none) ∨ A9 ≠ none from by
    cases A9 with
    | none =>
      left
      refine ⟨?_, rfl⟩
      rcases Nat.eq_zero_or_pos m with h | h
      · exact h
      · obtain ⟨_, _, e⟩ := hrd.1.addr h
        cases e
    | some ad => exact .inr (by simp))
  have HW0 := Lib.hid (Below.refl w3.heap.size w3)
  clear hb hrd hrest hfr HCA HM fk hm
  go_wp2_with fail
  go_loopw [6] (fun v wr => ∃ j : Nat, j ≤ m ∧ v = .int .i64 (j : Int) ∧ (∀ (q : Nat) x, q < j → rest[q]? = some x → lessT t x = false) ∧ Below w3.heap.size w3 wr) (fun v _ => m - (intOf v).toNat)
  case atStart => exact ⟨0, Nat.zero_le _, rfl, fun q _ h => absurd h (Nat.not_lt_zero _), HW0.out⟩
  case round =>
    clear HW0
    obtain ⟨j, hjm, rfl, hno, hW⟩ := hrel
    have HW := Lib.hid hW
    have HNO := Lib.hid hno
    have hjc : j ≤ c9 := by omega
    clear hW hno
    by_cases hjn : j < m
    · have d1 : decide ((j : Int) < (m : Int)) = true := by simp; omega
      obtain ⟨g, off, rfl⟩ := HX3.out.1.1.addr (by omega)
      obtain ⟨o, ho⟩ : ∃ s, rest[j]? = some s := ⟨rest[j]'(by rw [HX3.out.1.len]; exact hjn), List.getElem?_eq_getElem _⟩
      have HOO := Lib.hid (HX3.out.1.ok ho)
      have hat := HX3.out.1.at j o ho
      have HLA := Lib.hid (show ∀ W, Below w3.heap.size w3 W → At W g (off + j * 34) o.cells from fun W hW => hat.2.mono hW hat.1)
      have HJO := Lib.hid ho
      obtain ⟨oc, hoc⟩ : ∃ z, o.cells.toArray = z := ⟨_, rfl⟩
      have hlc := refLessT_any t o
      rw [HTC.out, hoc] at hlc
      have HOC := Lib.hid hoc
      obtain ⟨y, hy⟩ : ∃ y, lessT t o = y := ⟨_, rfl⟩
      rw [hy] at hlc
      have HLC := Lib.hid hlc
      have HY := Lib.hid hy
      clear hat ho hoc hlc hy
      cases y with
      | false =>
        go_upto_region 3 with fail
        refine wp_region_held_drew (S := fun W' => Below w3.heap.size w3 W') (by kernel_rfl) (HW.out.drew) (fun hHeld => ?_)
        refine take_first (v := ?_) 0 rfl (by kernel_rfl) (by kernel_rfl) (by kernel_rfl) (fun _ _ _ h => h) (Or.inl ⟨by rfl, ?_⟩) (by assumption) ?_
        rotate_left
        · (intro w hSw; (try dsimp only at hSw); go_simp; try with_reducible rfl)
        (try simp only [Act.put, List.setIfInBounds_toArray, List.set_cons_zero, List.set_cons_succ])
        refine take_first (v := ?_) 1 rfl (by kernel_rfl) (by kernel_rfl) (by kernel_rfl) (fun _ _ _ h => h) (Or.inl ⟨by rfl, ?_⟩) (by assumption) ?_
        rotate_left
        · (intro w hSw; (try dsimp only at hSw); go_simp; try with_reducible rfl)
        (try simp only [Act.put, List.setIfInBounds_toArray, List.set_cons_zero, List.set_cons_succ])
        refine take_first (v := ?_) 2 rfl (by kernel_rfl) (by kernel_rfl) (by kernel_rfl) (fun _ _ _ h => h) (Or.inl ⟨by rfl, ?_⟩) (by assumption) ?_
        rotate_left
        · (intro w hSw; (try dsimp only at hSw); go_simp; try with_reducible rfl)
        (try simp only [Act.put, List.setIfInBounds_toArray, List.set_cons_zero, List.set_cons_succ])
        refine take_first (v := ?_) 3 rfl (by kernel_rfl) (by kernel_rfl) (by kernel_rfl) (fun _ _ _ h => h) (Or.inl ⟨by rfl, ?_⟩) (by assumption) ?_
        rotate_left
        · (intro w hSw; (try dsimp only at hSw); go_simp; try with_reducible rfl)
        (try simp only [Act.put, List.setIfInBounds_toArray, List.set_cons_zero, List.set_cons_succ])
        refine take_first (v := ?_) 4 rfl (by kernel_rfl) (by kernel_rfl) (by kernel_rfl) (fun _ _ _ h => h) (Or.inl ⟨by rfl, ?_⟩) (by assumption) ?_
        rotate_left
        · (intro w hSw; (try dsimp only at hSw); go_simp; try with_reducible rfl)
        (try simp only [Act.put, List.setIfInBounds_toArray, List.set_cons_zero, List.set_cons_succ])
        refine take_first (v := .agg tc) 5 rfl (by kernel_rfl) (by kernel_rfl) (by kernel_rfl) (fun _ _ _ h => h) (by rw [← HTC.out]; exact yields_load_obj (by rfl) 27 (.tmp 3) rfl w.heap.size 0 rfl t.cells (fun W hW => (HX3.out.2.all.mono hW HX3.out.2.lt)) _ Try.underlying27 rfl (timer_cellsOf t HOT.out)) (by assumption) ?_
        (try simp only [Act.put, List.setIfInBounds_toArray, List.set_cons_zero, List.set_cons_succ])
        refine take_first (v := ?_) 6 rfl (by kernel_rfl) (by kernel_rfl) (by kernel_rfl) (fun _ _ _ h => h) (Or.inl ⟨by rfl, ?_⟩) (by assumption) ?_
        rotate_left
        · (intro w hSw; (try dsimp only at hSw); go_simp; try with_reducible rfl)
        (try simp only [Act.put, List.setIfInBounds_toArray, List.set_cons_zero, List.set_cons_succ])
        refine take_first (v := ?_) 7 rfl (by kernel_rfl) (by kernel_rfl) (by kernel_rfl) (fun _ _ _ h => h) (Or.inl ⟨by rfl, ?_⟩) (by assumption) ?_
        rotate_left
        · (intro w hSw; (try dsimp only at hSw); go_simp; try with_reducible rfl)
        (try simp only [Act.put, List.setIfInBounds_toArray, List.set_cons_zero, List.set_cons_succ])
        refine take_first (v := ?_) 8 rfl (by kernel_rfl) (by kernel_rfl) (by kernel_rfl) (fun _ _ _ h => h) (Or.inl ⟨by rfl, ?_⟩) (by assumption) ?_
        rotate_left
        · (intro w hSw; (try dsimp only at hSw); go_simp; try with_reducible rfl)
        (try simp only [Act.put, List.setIfInBounds_toArray, List.set_cons_zero, List.set_cons_succ])
        refine take_first (v := .agg oc) 9 rfl (by kernel_rfl) (by kernel_rfl) (by kernel_rfl) (fun _ _ _ h => h) (by rw [← HOC.out]; exact yields_load_obj (by rfl) 27 (.tmp 21) rfl g _ rfl o.cells (fun W hW => HLA.out W hW) _ Try.underlying27 rfl (timer_cellsOf o HOO.out)) (by assumption) ?_
        (try simp only [Act.put, List.setIfInBounds_toArray, List.set_cons_zero, List.set_cons_succ])
        refine step_one 10 rfl (by kernel_rfl) (fun K hK => ?_)
        go_simp
        refine (HLC.out _ HOT.out HOO.out).mono ?_
        rintro e wy ⟨rfl, hb⟩
        have hb2 := hHeld.trans (hb.mono hHeld.size)
        clear hb hHeld
        go_wp2_with fail
        refine hK.out _ _ hb2 (fun hHeld => ?_)
        clear hK K hb2
        (try simp only [Act.put, List.setIfInBounds_toArray, List.set_cons_zero, List.set_cons_succ])
        refine take_first (v := ?_) 11 rfl (by kernel_rfl) (by kernel_rfl) (by kernel_rfl) (fun _ _ _ h => h) (Or.inl ⟨by rfl, ?_⟩) (by assumption) ?_
        rotate_left
        · (intro w hSw; (try dsimp only at hSw); go_simp; try with_reducible rfl)
        (try simp only [Act.put, List.setIfInBounds_toArray, List.set_cons_zero, List.set_cons_succ])
        refine take_first (v := ?_) 12 rfl (by kernel_rfl) (by kernel_rfl) (by kernel_rfl) (fun _ _ _ h => h) (Or.inl ⟨by rfl, ?_⟩) (by assumption) ?_
        rotate_left
        · (intro w hSw; (try dsimp only at hSw); go_simp; try with_reducible rfl)
        (try simp only [Act.put, List.setIfInBounds_toArray, List.set_cons_zero, List.set_cons_succ])
        refine wpAnyH_done (by kernel_rfl) ?_ _
        have HWB := Lib.hid hHeld
        clear hHeld
        go_wp2_with fail
        go_roundw
        case rel => exact ⟨j + 1, by omega, by go_num, fun q x hq hx => by
          rcases Nat.lt_or_ge q j with h | h
          · exact HNO.out q x h hx
          · obtain rfl : q = j := by omega
            have e := HJO.out.symm.trans hx
            injection e with e
            rw [← e]
            exact HY.out, HWB.out⟩
        case measure => simp [intOf]; omega
      | true =>
        have HJP := Lib.hid (placeT_some HJO.out HY.out HNO.out)
        go_upto_region 3 with fail
        refine wp_region_held_drew (S := fun W' => Below w3.heap.size w3 W') (by kernel_rfl) (HW.out.drew) (fun hHeld => ?_)
        refine take_first (v := ?_) 0 rfl (by kernel_rfl) (by kernel_rfl) (by kernel_rfl) (fun _ _ _ h => h) (Or.inl ⟨by rfl, ?_⟩) (by assumption) ?_
        rotate_left
        · (intro w hSw; (try dsimp only at hSw); go_simp; try with_reducible rfl)
        (try simp only [Act.put, List.setIfInBounds_toArray, List.set_cons_zero, List.set_cons_succ])
        refine take_first (v := ?_) 1 rfl (by kernel_rfl) (by kernel_rfl) (by kernel_rfl) (fun _ _ _ h => h) (Or.inl ⟨by rfl, ?_⟩) (by assumption) ?_
        rotate_left
        · (intro w hSw; (try dsimp only at hSw); go_simp; try with_reducible rfl)
        (try simp only [Act.put, List.setIfInBounds_toArray, List.set_cons_zero, List.set_cons_succ])
        refine take_first (v := ?_) 2 rfl (by kernel_rfl) (by kernel_rfl) (by kernel_rfl) (fun _ _ _ h => h) (Or.inl ⟨by rfl, ?_⟩) (by assumption) ?_
        rotate_left
        · (intro w hSw; (try dsimp only at hSw); go_simp; try with_reducible rfl)
        (try simp only [Act.put, List.setIfInBounds_toArray, List.set_cons_zero, List.set_cons_succ])
        refine take_first (v := ?_) 3 rfl (by kernel_rfl) (by kernel_rfl) (by kernel_rfl) (fun _ _ _ h => h) (Or.inl ⟨by rfl, ?_⟩) (by assumption) ?_
        rotate_left
        · (intro w hSw; (try dsimp only at hSw); go_simp; try with_reducible rfl)
        (try simp only [Act.put, List.setIfInBounds_toArray, List.set_cons_zero, List.set_cons_succ])
        refine take_first (v := ?_) 4 rfl (by kernel_rfl) (by kernel_rfl) (by kernel_rfl) (fun _ _ _ h => h) (Or.inl ⟨by rfl, ?_⟩) (by assumption) ?_
        rotate_left
        · (intro w hSw; (try dsimp only at hSw); go_simp; try with_reducible rfl)
        (try simp only [Act.put, List.setIfInBounds_toArray, List.set_cons_zero, List.set_cons_succ])
        refine take_first (v := .agg tc) 5 rfl (by kernel_rfl) (by kernel_rfl) (by kernel_rfl) (fun _ _ _ h => h) (by rw [← HTC.out]; exact yields_load_obj (by rfl) 27 (.tmp 3) rfl w.heap.size 0 rfl t.cells (fun W hW => (HX3.out.2.all.mono hW HX3.out.2.lt)) _ Try.underlying27 rfl (timer_cellsOf t HOT.out)) (by assumption) ?_
        (try simp only [Act.put, List.setIfInBounds_toArray, List.set_cons_zero, List.set_cons_succ])
        refine take_first (v := ?_) 6 rfl (by kernel_rfl) (by kernel_rfl) (by kernel_rfl) (fun _ _ _ h => h) (Or.inl ⟨by rfl, ?_⟩) (by assumption) ?_
        rotate_left
        · (intro w hSw; (try dsimp only at hSw); go_simp; try with_reducible rfl)
        (try simp only [Act.put, List.setIfInBounds_toArray, List.set_cons_zero, List.set_cons_succ])
        refine take_first (v := ?_) 7 rfl (by kernel_rfl) (by kernel_rfl) (by kernel_rfl) (fun _ _ _ h => h) (Or.inl ⟨by rfl, ?_⟩) (by assumption) ?_
        rotate_left
        · (intro w hSw; (try dsimp only at hSw); go_simp; try with_reducible rfl)
        (try simp only [Act.put, List.setIfInBounds_toArray, List.set_cons_zero, List.set_cons_succ])
        refine take_first (v := ?_) 8 rfl (by kernel_rfl) (by kernel_rfl) (by kernel_rfl) (fun _ _ _ h => h) (Or.inl ⟨by rfl, ?_⟩) (by assumption) ?_
        rotate_left
        · (intro w hSw; (try dsimp only at hSw); go_simp; try with_reducible rfl)
        (try simp only [Act.put, List.setIfInBounds_toArray, List.set_cons_zero, List.set_cons_succ])
        refine take_first (v := .agg oc) 9 rfl (by kernel_rfl) (by kernel_rfl) (by kernel_rfl) (fun _ _ _ h => h) (by rw [← HOC.out]; exact yields_load_obj (by rfl) 27 (.tmp 21) rfl g _ rfl o.cells (fun W hW => HLA.out W hW) _ Try.underlying27 rfl (timer_cellsOf o HOO.out)) (by assumption) ?_
        (try simp only [Act.put, List.setIfInBounds_toArray, List.set_cons_zero, List.set_cons_succ])
        refine step_one 10 rfl (by kernel_rfl) (fun K hK => ?_)
        go_simp
        refine (HLC.out _ HOT.out HOO.out).mono ?_
        rintro e wy ⟨rfl, hb⟩
        have hb2 := hHeld.trans (hb.mono hHeld.size)
        clear hb hHeld
        go_wp2_with fail
        refine hK.out _ _ hb2 (fun hHeld => ?_)
        clear hK K hb2
        (try simp only [Act.put, List.setIfInBounds_toArray, List.set_cons_zero, List.set_cons_succ])
        refine take_first (v := ?_) 11 rfl (by kernel_rfl) (by kernel_rfl) (by kernel_rfl) (fun _ _ _ h => h) (Or.inl ⟨by rfl, ?_⟩) (by assumption) ?_
        rotate_left
        · (intro w hSw; (try dsimp only at hSw); go_simp; try with_reducible rfl)
        (try simp only [Act.put, List.setIfInBounds_toArray, List.set_cons_zero, List.set_cons_succ])
        refine take_first (v := ?_) 12 rfl (by kernel_rfl) (by kernel_rfl) (by kernel_rfl) (fun _ _ _ h => h) (Or.inl ⟨by rfl, ?_⟩) (by assumption) ?_
        rotate_left
        · (intro w hSw; (try dsimp only at hSw); go_simp; try with_reducible rfl)
        (try simp only [Act.put, List.setIfInBounds_toArray, List.set_cons_zero, List.set_cons_succ])
        refine wpAnyH_done (by kernel_rfl) ?_ _
        replace HW := Lib.hid hHeld
        clear hHeld
        generalize hA9 : (some ⟨g, off, none⟩ : Option Addr) = A9 at HX3 HA9 ⊢
        go_upto_region 5 with fail
        clear d1
        refine wp_region_held_drew (S := fun W' => Below w3.heap.size w3 W') (by kernel_rfl) (HW.out.drew) (fun hHeld => ?_)
        refine take_first (v := ?_) 0 rfl (by kernel_rfl) (by kernel_rfl) (by kernel_rfl) (fun _ _ _ h => h) (Or.inl ⟨by rfl, ?_⟩) (by assumption) ?_
        rotate_left
        · (intro w hSw; (try dsimp only at hSw); go_simp; try with_reducible rfl)
        (try simp only [Act.put, List.setIfInBounds_toArray, List.set_cons_zero, List.set_cons_succ])
        refine take_first (v := ?_) 1 rfl (by kernel_rfl) (by kernel_rfl) (by kernel_rfl) (fun _ _ _ h => h) (Or.inl ⟨by rfl, ?_⟩) (by assumption) ?_
        rotate_left
        · (intro w hSw; (try dsimp only at hSw); go_simp; try with_reducible rfl)
        (try simp only [Act.put, List.setIfInBounds_toArray, List.set_cons_zero, List.set_cons_succ])
        refine take_first (v := ?_) 2 rfl (by kernel_rfl) (by kernel_rfl) (by kernel_rfl) (fun _ _ _ h => h) (Or.inl ⟨by rfl, ?_⟩) (by assumption) ?_
        rotate_left
        · (intro w hSw; (try dsimp only at hSw); go_simp; try with_reducible rfl)
        (try simp only [Act.put, List.setIfInBounds_toArray, List.set_cons_zero, List.set_cons_succ])
        refine take_first (v := ?_) 3 rfl (by kernel_rfl) (by kernel_rfl) (by kernel_rfl) (fun _ _ _ h => h) (Or.inl ⟨by rfl, ?_⟩) (by assumption) ?_
        rotate_left
        · (intro w hSw; (try dsimp only at hSw); have s := tm_hm A9 m c9 j hjc w; go_simp; try with_reducible rfl)
        (try simp only [Act.put, List.setIfInBounds_toArray, List.set_cons_zero, List.set_cons_succ])
        refine take_first (v := .agg tc) 4 rfl (by kernel_rfl) (by kernel_rfl) (by kernel_rfl) (fun _ _ _ h => h) (by rw [← HTC.out]; exact yields_load_obj (by rfl) 27 (.tmp 3) rfl w.heap.size 0 rfl t.cells (fun W hW => (HX3.out.2.all.mono hW HX3.out.2.lt)) _ Try.underlying27 rfl (timer_cellsOf t HOT.out)) (by assumption) ?_
        (try simp only [Act.put, List.setIfInBounds_toArray, List.set_cons_zero, List.set_cons_succ])
        refine take_first (v := ?_) 6 rfl (by kernel_rfl) (by kernel_rfl) (by kernel_rfl) (fun _ _ _ h => h) (Or.inl ⟨by rfl, ?_⟩) (by assumption) ?_
        rotate_left
        · (intro w hSw; (try dsimp only at hSw); go_simp; try with_reducible rfl)
        (try simp only [Act.put, List.setIfInBounds_toArray, List.set_cons_zero, List.set_cons_succ])
        refine take_first (v := ?_) 7 rfl (by kernel_rfl) (by kernel_rfl) (by kernel_rfl) (fun _ _ _ h => h) (Or.inl ⟨by rfl, ?_⟩) (by assumption) ?_
        rotate_left
        · (intro w hSw; (try dsimp only at hSw); go_simp; try with_reducible rfl)
        (try simp only [Act.put, List.setIfInBounds_toArray, List.set_cons_zero, List.set_cons_succ])
        refine take_first (v := ?_) 8 rfl (by kernel_rfl) (by kernel_rfl) (by kernel_rfl) (fun _ _ _ h => h) (Or.inl ⟨by rfl, ?_⟩) (by assumption) ?_
        rotate_left
        · (intro w hSw; (try dsimp only at hSw); have s := tm_l A9 m c9 j hjm w; go_simp; try with_reducible rfl)
        (try simp only [Act.put, List.setIfInBounds_toArray, List.set_cons_zero, List.set_cons_succ])
        refine step_one 5 rfl (by kernel_rfl) (fun K hK => ?_)
        refine step_buildOne rfl 23 27 (.tmp 32) rfl tc rfl 34 Try.underlying23 ik HKI.out.1 HKI.out.2.2.1 _ HKI.out.2.1 (by omega) (by omega) (by rw [← HTC.out, List.size_toArray, TimerM.cells_length HOT.out]) ?_
        have hbx := hHeld.alloc hHeld.size (.cells tc 27)
        have hown := World.ownsRow_lit (base := wy.drew.heap.size) (e := 27) (size := 34) wy.drew tc 1 (Nat.le_refl _) (by unfold maxLen; omega) (by rw [← HTC.out, List.size_toArray, TimerM.cells_length HOT.out])
        have hgx : w3.heap.size ≤ wy.drew.heap.size := hHeld.size
        have hqs : wy.drew.heap.size ≤ (wy.drew.alloc (.cells tc 27)).heap.size := by simp
        generalize wy.drew.alloc (.cells tc 27) = wx at hbx hown hqs ⊢
        generalize wy.drew.heap.size = gx at hown hqs hgx ⊢
        clear hHeld
        refine hK.out _ _ hbx (fun hHeld => ?_)
        clear hK K hbx
        (try simp only [Act.put, List.setIfInBounds_toArray, List.set_cons_zero, List.set_cons_succ])
        refine step_one 9 rfl (by kernel_rfl) (fun K hK => ?_)
        refine step_append_rows _ rfl (.tmp 33) (.tmp 36) 23 rfl gx 27 ik _ 34 48 Try.underlying23 HKI.out.1 HKI.out.2.1 HKI.out.2.2.1 HKI.out.2.2.2 (by rfl) (by omega) _ 1 tc.toList rfl hown w3.heap.size (addrK A9 j c9 34) (m - j) (c9 - j) (tmsV (rest.drop j)) rfl (by rw [← tmsV_drop]; exact (HX3.out.1.1.below hHeld).behind j c9 hjm hmc9) (tmsV_one _) (by unfold maxLen; omega) (by omega) hqs ?_
        intro v7 w7 ho7 hg7 _
        have hb7 : Below w3.heap.size w3 w7 := hHeld.grown hg7 hHeld.size (fun q hq => by have := (hown.lt q hq).1; omega)
        clear hg7 hown hHeld hqs
        refine hK.out _ _ hb7 (fun hHeld => ?_)
        clear hK K hb7
        (try simp only [Act.put, List.setIfInBounds_toArray, List.set_cons_zero, List.set_cons_succ])
        obtain ⟨A7, c7, rfl⟩ : ∃ A c, v7 = .slice A (1 + (m - j)) c := by
          rcases ho7.2 with ⟨_, h0⟩ | ⟨g, cap, cur, h, _⟩
          · omega
          · exact ⟨_, _, h⟩
        have hrd7 := TmRd.of_own (l := t :: rest.drop j) (by rw [List.length_cons, List.length_drop, HX3.out.1.len]; omega) (fun q hq => by
          rcases List.mem_cons.1 hq with rfl | hq
          · exact HOT.out
          · exact HX3.out.1.2 q (List.mem_of_mem_drop hq)) (show w7.ownsRow gx 27 34 (.slice A7 (1 + (m - j)) c7) (1 + (m - j)) (tmsV (t :: rest.drop j)).flatten from by
            have e : tc.toList ++ (tmsV (rest.drop j)).flatten = (tmsV (t :: rest.drop j)).flatten := by rw [← HTC.out]; simp [tmsV]
            rw [← e]; exact ho7)
        clear ho7 hgx
        refine step_one 10 rfl (by kernel_rfl) (fun K hK => ?_)
        refine step_append_full _ rfl (.tmp 31) (.tmp 37) 23 rfl 27 ik _ 34 48 Try.underlying23 HKI.out.1 HKI.out.2.1 HKI.out.2.2.1 HKI.out.2.2.2 (by rfl) w3.heap.size (addrK A9 0 j 34) j j rfl (by
          rcases HA9.out with ⟨rfl, rfl⟩ | hA
          · have : j = 0 := by omega
            subst this
            exact .inl ⟨rfl, rfl, rfl⟩
          · refine .inr ⟨rfl, ?_⟩
            unfold addrK
            cases A9 with
            | none => exact absurd rfl hA
            | some ad => split <;> simp) (tmsV (rest.take j)) (by rw [← tmsV_take]; exact addrK_zero (HX3.out.1.1.below hHeld) j hjm) w7.heap.size A7 (1 + (m - j)) c7 rfl (by omega) (tmsV (t :: rest.drop j)) hrd7.1 (by unfold maxLen; omega) (by omega) ?_
        intro v8 w8 ho8 hb8
        have hw7 : w.heap.size ≤ w7.heap.size := Nat.le_trans HX0.out.size hHeld.size
        have hb9 : Below w3.heap.size w3 w8 := hHeld.trans (hb8.mono hHeld.size)
        clear hHeld
        refine hK.out _ _ hb9 (fun hHeld => ?_)
        clear hK K hb8 hrd7
        (try simp only [Act.put, List.setIfInBounds_toArray, List.set_cons_zero, List.set_cons_succ])
        refine take_first (v := ?_) 11 rfl (by kernel_rfl) (by kernel_rfl) (by kernel_rfl) (fun _ _ _ h => h) (Or.inl ⟨by rfl, ?_⟩) (by assumption) ?_
        rotate_left
        · (intro w hSw; (try dsimp only at hSw); go_simp; try with_reducible rfl)
        (try simp only [Act.put, List.setIfInBounds_toArray, List.set_cons_zero, List.set_cons_succ])
        refine wpAnyH_done (by kernel_rfl) ?_ _
        clear hHeld
        have hHF := HX0.out.trans (hb9.mono HX0.out.size)
        have he : (tmsV (rest.take j)).flatten ++ (tmsV (t :: rest.drop j)).flatten = (tmsV (setT l t)).flatten := by rw [setT, HREST.out, putT, HJP.out, tmsV_append]
        rw [he] at ho8
        have HO8 := Lib.hid (And.intro ho8 (And.intro hHF hw7))
        clear ho8 hb9 hHF he hw7
        go_wp2_with fail
        go_ret
        exact ⟨v8, rfl, whOut_of HO8.out.2.2 (by rw [setT, putT_len, HREST.out, HX3.out.1.len]; omega) (setT_ok HOKS.out HOT.out) HO8.out.1 HO8.out.2.1⟩
    · have d1 : decide ((j : Int) < (m : Int)) = false := by simp; omega
      have HJP := Lib.hid (show placeT rest t = j from (placeT_none fun q x hq hx => HNO.out q x (by have := HX3.out.1.len; omega) hx).trans (by have := HX3.out.1.len; omega))
      go_upto_region 3 with fail
      refine wp_region_held_drew (S := fun W' => Below w3.heap.size w3 W') (by kernel_rfl) (HW.out.drew) (fun hHeld => ?_)
      refine take_first (v := ?_) 0 rfl (by kernel_rfl) (by kernel_rfl) (by kernel_rfl) (fun _ _ _ h => h) (Or.inl ⟨by rfl, ?_⟩) (by assumption) ?_
      rotate_left
      · (intro w hSw; (try dsimp only at hSw); go_simp; try with_reducible rfl)
      (try simp only [Act.put, List.setIfInBounds_toArray, List.set_cons_zero, List.set_cons_succ])
      refine take_first (v := ?_) 1 rfl (by kernel_rfl) (by kernel_rfl) (by kernel_rfl) (fun _ _ _ h => h) (Or.inl ⟨by rfl, ?_⟩) (by assumption) ?_
      rotate_left
      · (intro w hSw; (try dsimp only at hSw); go_simp; try with_reducible rfl)
      (try simp only [Act.put, List.setIfInBounds_toArray, List.set_cons_zero, List.set_cons_succ])
      refine take_first (v := ?_) 2 rfl (by kernel_rfl) (by kernel_rfl) (by kernel_rfl) (fun _ _ _ h => h) (Or.inl ⟨by rfl, ?_⟩) (by assumption) ?_
      rotate_left
      · (intro w hSw; (try dsimp only at hSw); go_simp; try with_reducible rfl)
      (try simp only [Act.put, List.setIfInBounds_toArray, List.set_cons_zero, List.set_cons_succ])
      refine take_first (v := ?_) 3 rfl (by kernel_rfl) (by kernel_rfl) (by kernel_rfl) (fun _ _ _ h => h) (Or.inl ⟨by rfl, ?_⟩) (by assumption) ?_
      rotate_left
      · (intro w hSw; (try dsimp only at hSw); go_simp; try with_reducible rfl)
      (try simp only [Act.put, List.setIfInBounds_toArray, List.set_cons_zero, List.set_cons_succ])
      refine take_first (v := ?_) 4 rfl (by kernel_rfl) (by kernel_rfl) (by kernel_rfl) (fun _ _ _ h => h) (Or.inl ⟨by rfl, ?_⟩) (by assumption) ?_
      rotate_left
      · (intro w hSw; (try dsimp only at hSw); go_simp; try with_reducible rfl)
      (try simp only [Act.put, List.setIfInBounds_toArray, List.set_cons_zero, List.set_cons_succ])
      refine take_first (v := undef) 5 rfl (by kernel_rfl) (by kernel_rfl) (by kernel_rfl) (fun _ _ _ h => h) (Or.inr ⟨by rfl, rfl⟩) (by assumption) ?_
      (try simp only [Act.put, List.setIfInBounds_toArray, List.set_cons_zero, List.set_cons_succ])
      refine take_first (v := undef) 6 rfl (by kernel_rfl) (by kernel_rfl) (by kernel_rfl) (fun _ _ _ h => h) (Or.inr ⟨by rfl, rfl⟩) (by assumption) ?_
      (try simp only [Act.put, List.setIfInBounds_toArray, List.set_cons_zero, List.set_cons_succ])
      refine take_first (v := undef) 7 rfl (by kernel_rfl) (by kernel_rfl) (by kernel_rfl) (fun _ _ _ h => h) (Or.inr ⟨by rfl, rfl⟩) (by assumption) ?_
      (try simp only [Act.put, List.setIfInBounds_toArray, List.set_cons_zero, List.set_cons_succ])
      refine take_first (v := undef) 8 rfl (by kernel_rfl) (by kernel_rfl) (by kernel_rfl) (fun _ _ _ h => h) (Or.inr ⟨by rfl, rfl⟩) (by assumption) ?_
      (try simp only [Act.put, List.setIfInBounds_toArray, List.set_cons_zero, List.set_cons_succ])
      refine take_first (v := undef) 9 rfl (by kernel_rfl) (by kernel_rfl) (by kernel_rfl) (fun _ _ _ h => h) (Or.inr ⟨by rfl, rfl⟩) (by assumption) ?_
      (try simp only [Act.put, List.setIfInBounds_toArray, List.set_cons_zero, List.set_cons_succ])
      refine take_first (v := undef) 10 rfl (by kernel_rfl) (by kernel_rfl) (by kernel_rfl) (fun _ _ _ h => h) (Or.inr ⟨by rfl, rfl⟩) (by assumption) ?_
      (try simp only [Act.put, List.setIfInBounds_toArray, List.set_cons_zero, List.set_cons_succ])
      refine take_first (v := undef) 11 rfl (by kernel_rfl) (by kernel_rfl) (by kernel_rfl) (fun _ _ _ h => h) (Or.inr ⟨by rfl, rfl⟩) (by assumption) ?_
      (try simp only [Act.put, List.setIfInBounds_toArray, List.set_cons_zero, List.set_cons_succ])
      refine take_first (v := ?_) 12 rfl (by kernel_rfl) (by kernel_rfl) (by kernel_rfl) (fun _ _ _ h => h) (Or.inl ⟨by rfl, ?_⟩) (by assumption) ?_
      rotate_left
      · (intro w hSw; (try dsimp only at hSw); go_simp; try with_reducible rfl)
      (try simp only [Act.put, List.setIfInBounds_toArray, List.set_cons_zero, List.set_cons_succ])
      refine wpAnyH_done (by kernel_rfl) ?_ _
      replace HW := Lib.hid hHeld
      clear hHeld
      go_upto_region 5 with fail
      clear d1
      refine wp_region_held_drew (S := fun W' => Below w3.heap.size w3 W') (by kernel_rfl) (HW.out.drew) (fun hHeld => ?_)
      refine take_first (v := ?_) 0 rfl (by kernel_rfl) (by kernel_rfl) (by kernel_rfl) (fun _ _ _ h => h) (Or.inl ⟨by rfl, ?_⟩) (by assumption) ?_
      rotate_left
      · (intro w hSw; (try dsimp only at hSw); go_simp; try with_reducible rfl)
      (try simp only [Act.put, List.setIfInBounds_toArray, List.set_cons_zero, List.set_cons_succ])
      refine take_first (v := ?_) 1 rfl (by kernel_rfl) (by kernel_rfl) (by kernel_rfl) (fun _ _ _ h => h) (Or.inl ⟨by rfl, ?_⟩) (by assumption) ?_
      rotate_left
      · (intro w hSw; (try dsimp only at hSw); go_simp; try with_reducible rfl)
      (try simp only [Act.put, List.setIfInBounds_toArray, List.set_cons_zero, List.set_cons_succ])
      refine take_first (v := ?_) 2 rfl (by kernel_rfl) (by kernel_rfl) (by kernel_rfl) (fun _ _ _ h => h) (Or.inl ⟨by rfl, ?_⟩) (by assumption) ?_
      rotate_left
      · (intro w hSw; (try dsimp only at hSw); go_simp; try with_reducible rfl)
      (try simp only [Act.put, List.setIfInBounds_toArray, List.set_cons_zero, List.set_cons_succ])
      refine take_first (v := ?_) 3 rfl (by kernel_rfl) (by kernel_rfl) (by kernel_rfl) (fun _ _ _ h => h) (Or.inl ⟨by rfl, ?_⟩) (by assumption) ?_
      rotate_left
      · (intro w hSw; (try dsimp only at hSw); have s := tm_hm A9 m c9 j hjc w; go_simp; try with_reducible rfl)
      (try simp only [Act.put, List.setIfInBounds_toArray, List.set_cons_zero, List.set_cons_succ])
      refine take_first (v := .agg tc) 4 rfl (by kernel_rfl) (by kernel_rfl) (by kernel_rfl) (fun _ _ _ h => h) (by rw [← HTC.out]; exact yields_load_obj (by rfl) 27 (.tmp 3) rfl w.heap.size 0 rfl t.cells (fun W hW => (HX3.out.2.all.mono hW HX3.out.2.lt)) _ Try.underlying27 rfl (timer_cellsOf t HOT.out)) (by assumption) ?_
      (try simp only [Act.put, List.setIfInBounds_toArray, List.set_cons_zero, List.set_cons_succ])
      refine take_first (v := ?_) 6 rfl (by kernel_rfl) (by kernel_rfl) (by kernel_rfl) (fun _ _ _ h => h) (Or.inl ⟨by rfl, ?_⟩) (by assumption) ?_
      rotate_left
      · (intro w hSw; (try dsimp only at hSw); go_simp; try with_reducible rfl)
      (try simp only [Act.put, List.setIfInBounds_toArray, List.set_cons_zero, List.set_cons_succ])
      refine take_first (v := ?_) 7 rfl (by kernel_rfl) (by kernel_rfl) (by kernel_rfl) (fun _ _ _ h => h) (Or.inl ⟨by rfl, ?_⟩) (by assumption) ?_
      rotate_left
      · (intro w hSw; (try dsimp only at hSw); go_simp; try with_reducible rfl)
      (try simp only [Act.put, List.setIfInBounds_toArray, List.set_cons_zero, List.set_cons_succ])
      refine take_first (v := ?_) 8 rfl (by kernel_rfl) (by kernel_rfl) (by kernel_rfl) (fun _ _ _ h => h) (Or.inl ⟨by rfl, ?_⟩) (by assumption) ?_
      rotate_left
      · (intro w hSw; (try dsimp only at hSw); have s := tm_l A9 m c9 j hjm w; go_simp; try with_reducible rfl)
      (try simp only [Act.put, List.setIfInBounds_toArray, List.set_cons_zero, List.set_cons_succ])
      refine step_one 5 rfl (by kernel_rfl) (fun K hK => ?_)
      refine step_buildOne rfl 23 27 (.tmp 32) rfl tc rfl 34 Try.underlying23 ik HKI.out.1 HKI.out.2.2.1 _ HKI.out.2.1 (by omega) (by omega) (by rw [← HTC.out, List.size_toArray, TimerM.cells_length HOT.out]) ?_
      have hbx := hHeld.alloc hHeld.size (.cells tc 27)
      have hown := World.ownsRow_lit (base := wr.drew.drew.heap.size) (e := 27) (size := 34) wr.drew.drew tc 1 (Nat.le_refl _) (by unfold maxLen; omega) (by rw [← HTC.out, List.size_toArray, TimerM.cells_length HOT.out])
      have hgx : w3.heap.size ≤ wr.drew.drew.heap.size := hHeld.size
      have hqs : wr.drew.drew.heap.size ≤ (wr.drew.drew.alloc (.cells tc 27)).heap.size := by simp
      generalize wr.drew.drew.alloc (.cells tc 27) = wx at hbx hown hqs ⊢
      generalize wr.drew.drew.heap.size = gx at hown hqs hgx ⊢
      clear hHeld
      refine hK.out _ _ hbx (fun hHeld => ?_)
      clear hK K hbx
      (try simp only [Act.put, List.setIfInBounds_toArray, List.set_cons_zero, List.set_cons_succ])
      refine step_one 9 rfl (by kernel_rfl) (fun K hK => ?_)
      refine step_append_rows _ rfl (.tmp 33) (.tmp 36) 23 rfl gx 27 ik _ 34 48 Try.underlying23 HKI.out.1 HKI.out.2.1 HKI.out.2.2.1 HKI.out.2.2.2 (by rfl) (by omega) _ 1 tc.toList rfl hown w3.heap.size (addrK A9 j c9 34) (m - j) (c9 - j) (tmsV (rest.drop j)) rfl (by rw [← tmsV_drop]; exact (HX3.out.1.1.below hHeld).behind j c9 hjm hmc9) (tmsV_one _) (by unfold maxLen; omega) (by omega) hqs ?_
      intro v7 w7 ho7 hg7 _
      have hb7 : Below w3.heap.size w3 w7 := hHeld.grown hg7 hHeld.size (fun q hq => by have := (hown.lt q hq).1; omega)
      clear hg7 hown hHeld hqs
      refine hK.out _ _ hb7 (fun hHeld => ?_)
      clear hK K hb7
      (try simp only [Act.put, List.setIfInBounds_toArray, List.set_cons_zero, List.set_cons_succ])
      obtain ⟨A7, c7, rfl⟩ : ∃ A c, v7 = .slice A (1 + (m - j)) c := by
        rcases ho7.2 with ⟨_, h0⟩ | ⟨g, cap, cur, h, _⟩
        · omega
        · exact ⟨_, _, h⟩
      have hrd7 := TmRd.of_own (l := t :: rest.drop j) (by rw [List.length_cons, List.length_drop, HX3.out.1.len]; omega) (fun q hq => by
        rcases List.mem_cons.1 hq with rfl | hq
        · exact HOT.out
        · exact HX3.out.1.2 q (List.mem_of_mem_drop hq)) (show w7.ownsRow gx 27 34 (.slice A7 (1 + (m - j)) c7) (1 + (m - j)) (tmsV (t :: rest.drop j)).flatten from by
          have e : tc.toList ++ (tmsV (rest.drop j)).flatten = (tmsV (t :: rest.drop j)).flatten := by rw [← HTC.out]; simp [tmsV]
          rw [← e]; exact ho7)
      clear ho7 hgx
      refine step_one 10 rfl (by kernel_rfl) (fun K hK => ?_)
      refine step_append_full _ rfl (.tmp 31) (.tmp 37) 23 rfl 27 ik _ 34 48 Try.underlying23 HKI.out.1 HKI.out.2.1 HKI.out.2.2.1 HKI.out.2.2.2 (by rfl) w3.heap.size (addrK A9 0 j 34) j j rfl (by
        rcases HA9.out with ⟨rfl, rfl⟩ | hA
        · have : j = 0 := by omega
          subst this
          exact .inl ⟨rfl, rfl, rfl⟩
        · refine .inr ⟨rfl, ?_⟩
          unfold addrK
          cases A9 with
          | none => exact absurd rfl hA
          | some ad => split <;> simp) (tmsV (rest.take j)) (by rw [← tmsV_take]; exact addrK_zero (HX3.out.1.1.below hHeld) j hjm) w7.heap.size A7 (1 + (m - j)) c7 rfl (by omega) (tmsV (t :: rest.drop j)) hrd7.1 (by unfold maxLen; omega) (by omega) ?_
      intro v8 w8 ho8 hb8
      have hw7 : w.heap.size ≤ w7.heap.size := Nat.le_trans HX0.out.size hHeld.size
      have hb9 : Below w3.heap.size w3 w8 := hHeld.trans (hb8.mono hHeld.size)
      clear hHeld
      refine hK.out _ _ hb9 (fun hHeld => ?_)
      clear hK K hb8 hrd7
      (try simp only [Act.put, List.setIfInBounds_toArray, List.set_cons_zero, List.set_cons_succ])
      refine take_first (v := ?_) 11 rfl (by kernel_rfl) (by kernel_rfl) (by kernel_rfl) (fun _ _ _ h => h) (Or.inl ⟨by rfl, ?_⟩) (by assumption) ?_
      rotate_left
      · (intro w hSw; (try dsimp only at hSw); go_simp; try with_reducible rfl)
      (try simp only [Act.put, List.setIfInBounds_toArray, List.set_cons_zero, List.set_cons_succ])
      refine wpAnyH_done (by kernel_rfl) ?_ _
      clear hHeld
      have hHF := HX0.out.trans (hb9.mono HX0.out.size)
      have he : (tmsV (rest.take j)).flatten ++ (tmsV (t :: rest.drop j)).flatten = (tmsV (setT l t)).flatten := by rw [setT, HREST.out, putT, HJP.out, tmsV_append]
      rw [he] at ho8
      have HO8 := Lib.hid (And.intro ho8 (And.intro hHF hw7))
      clear ho8 hb9 hHF he hw7
      go_wp2_with fail
      go_ret
      exact ⟨v8, rfl, whOut_of HO8.out.2.2 (by rw [setT, putT_len, HREST.out, HX3.out.1.len]; omega) (setT_ok HOKS.out HOT.out) HO8.out.1 HO8.out.2.1⟩
end Go.Proofs.Ytffeecaidkeepaa
namespace Go.Proofs.Ytffeecaidkeepaa
open Go.RowKit

/-- timers in order, permitted, no two of one peer and kind -/
def WhGood (l : List TimerM) : Prop := (∀ t ∈ l, t.ok ∧ permT t = true) ∧ l.Pairwise (fun a b => lessT a b = true) ∧ l.Pairwise (fun a b => forT a.peer a.kind b = false)
theorem WhGood.nil : WhGood [] := ⟨by simp, List.Pairwise.nil, List.Pairwise.nil⟩
theorem WhGood.ok {l : List TimerM} (h : WhGood l) : ∀ t ∈ l, t.ok := fun t ht => (h.1 t ht).1
theorem forT_self (t : TimerM) : forT t.peer t.kind t = true := by simp [forT]
theorem forT_sym (a b : TimerM) : forT a.peer a.kind b = forT b.peer b.kind a := by
  unfold forT
  rw [show decide (b.peer = a.peer) = decide (a.peer = b.peer) from decide_eq_decide.2 eq_comm, show decide (b.kind = a.kind) = decide (a.kind = b.kind) from decide_eq_decide.2 eq_comm]
theorem cancel_out {l : List TimerM} {k : List UInt8} {d : Int} {x : TimerM} (h : x ∈ cancelT l k d) : forT k d x = false := by
  have := (List.mem_filter.1 h).2
  simpa using this
theorem place_split (r : List TimerM) (t : TimerM) (hp : r.Pairwise (fun a b => lessT a b = true)) : (∀ x ∈ r.take (placeT r t), lessT t x = false) ∧ ∀ x ∈ r.drop (placeT r t), lessT t x = true := by
  unfold placeT
  cases h : r.findIdx? fun x => lessT t x with
  | none =>
    have hn := List.findIdx?_eq_none_iff.1 h
    simp only [Option.getD_none]
    rw [List.take_length, List.drop_length]
    exact ⟨hn, fun x hx => by cases hx⟩
  | some j =>
    obtain ⟨hj, h1, h2⟩ := List.findIdx?_eq_some_iff_getElem.1 h
    simp only [Option.getD_some]
    refine ⟨fun x hx => ?_, fun x hx => ?_⟩
    · obtain ⟨i, hi, rfl⟩ := List.getElem_of_mem hx
      rw [List.length_take] at hi
      rw [List.getElem_take]
      simpa using h2 i (by omega)
    · rw [List.drop_eq_getElem_cons hj] at hx
      rcases List.mem_cons.1 hx with rfl | hx
      · exact h1
      · have hpd : (r.drop j).Pairwise (fun a b => lessT a b = true) := hp.sublist (List.drop_sublist j r)
        rw [List.drop_eq_getElem_cons hj] at hpd
        exact lessT_trans h1 ((List.pairwise_cons.1 hpd).1 x hx)
theorem set_split (l : List TimerM) (t : TimerM) : ∃ A B, setT l t = A ++ t :: B ∧ cancelT l t.peer t.kind = A ++ B ∧ (WhGood l → (∀ x ∈ A, lessT t x = false) ∧ ∀ x ∈ B, lessT t x = true) :=
  ⟨(cancelT l t.peer t.kind).take (placeT (cancelT l t.peer t.kind) t), (cancelT l t.peer t.kind).drop (placeT (cancelT l t.peer t.kind) t), rfl, (List.take_append_drop _ _).symm, fun h => place_split _ t (h.2.1.sublist List.filter_sublist)⟩
theorem good_cancel {l : List TimerM} (h : WhGood l) (k : List UInt8) (d : Int) : WhGood (cancelT l k d) :=
  ⟨fun t ht => h.1 t (List.mem_filter.1 ht).1, h.2.1.sublist List.filter_sublist, h.2.2.sublist List.filter_sublist⟩
theorem good_set {l : List TimerM} {t : TimerM} (h : WhGood l) (ho : t.ok) (hp : permT t = true) : WhGood (setT l t) := by
  obtain ⟨A, B, h1, h2, h3⟩ := set_split l t
  obtain ⟨hA, hB⟩ := h3 h
  have hg := good_cancel h t.peer t.kind
  have hout : ∀ x ∈ A ++ B, forT t.peer t.kind x = false := fun x hx => cancel_out (h2 ▸ hx)
  rw [h2] at hg
  rw [h1]
  obtain ⟨g1, g2, g3⟩ := hg
  rw [List.pairwise_append] at g2 g3
  refine ⟨fun x hx => ?_, ?_, ?_⟩
  · rcases List.mem_append.1 hx with hx | hx
    · exact g1 x (List.mem_append_left _ hx)
    · rcases List.mem_cons.1 hx with rfl | hx
      · exact ⟨ho, hp⟩
      · exact g1 x (List.mem_append_right _ hx)
  · rw [List.pairwise_append]
    refine ⟨g2.1, List.pairwise_cons.2 ⟨hB, g2.2.1⟩, fun a ha c hc => ?_⟩
    rcases List.mem_cons.1 hc with rfl | hc
    · have ha2 := g1 a (List.mem_append_left _ ha)
      rcases lessT_total ho.2.1 ha2.1.2.1 (hout a (List.mem_append_left _ ha)) with h | h
      · rw [hA a ha] at h; cases h
      · exact h
    · exact g2.2.2 a ha c hc
  · rw [List.pairwise_append]
    refine ⟨g3.1, List.pairwise_cons.2 ⟨fun x hx => hout x (List.mem_append_right _ hx), g3.2.1⟩, fun a ha c hc => ?_⟩
    rcases List.mem_cons.1 hc with rfl | hc
    · rw [forT_sym]; exact hout a (List.mem_append_left _ ha)
    · exact g3.2.2 a ha c hc
theorem good_valid {l : List TimerM} (h : WhGood l) : validT l = true := by
  refine allT_good fun i hi => ?_
  have hg : l[i]? = some l[i] := List.getElem?_eq_getElem hi
  have hp := (h.1 l[i] (List.getElem_mem hi)).2
  have hh : hasT (l.take i) l[i].peer l[i].kind = false := by
    refine hasT_none fun q x hq hx => ?_
    rw [List.length_take] at hq
    rw [List.getElem?_take] at hx
    split at hx
    · obtain ⟨hql, rfl⟩ := List.getElem?_eq_some_iff.1 hx
      rw [forT_sym]
      exact List.pairwise_iff_getElem.1 h.2.2 q i hql hi (by omega)
    · cases hx
  cases i with
  | zero => rw [stepT_zero hg, hp, hh]; rfl
  | succ k =>
    rw [stepT_succ (List.getElem?_eq_getElem (show k < l.length by omega)) hg, hp, hh, List.pairwise_iff_getElem.1 h.2.1 k (k + 1) (by omega) hi (by omega)]
    rfl
/-- how many timers are of a peer and a kind -/
def cntT (l : List TimerM) (k : List UInt8) (d : Int) : Nat := (l.filter (forT k d)).length
theorem cntT_snoc (l : List TimerM) (t : TimerM) (k : List UInt8) (d : Int) : cntT (l ++ [t]) k d = cntT l k d + (if forT k d t = true then 1 else 0) := by
  rw [cntT, cntT, List.filter_append, List.length_append]
  cases h : forT k d t <;> simp [h]
theorem cntT_le (l : List TimerM) (k : List UInt8) (d : Int) : cntT l k d ≤ l.length := List.length_filter_le _ _
theorem cnt_set (l : List TimerM) (t : TimerM) : cntT (setT l t) t.peer t.kind = 1 ∧ (∀ y ∈ setT l t, forT t.peer t.kind y = true → y = t) ∧ cancelT (setT l t) t.peer t.kind = cancelT l t.peer t.kind ∧ hasT (setT l t) t.peer t.kind = true ∧ hasT (cancelT (setT l t) t.peer t.kind) t.peer t.kind = false := by
  obtain ⟨A, B, h1, h2, _⟩ := set_split l t
  have hout : ∀ x ∈ A ++ B, forT t.peer t.kind x = false := fun x hx => cancel_out (h2 ▸ hx)
  have hA : A.filter (forT t.peer t.kind) = [] := List.filter_eq_nil_iff.2 fun x hx => by rw [hout x (List.mem_append_left _ hx)]; decide
  have hB : B.filter (forT t.peer t.kind) = [] := List.filter_eq_nil_iff.2 fun x hx => by rw [hout x (List.mem_append_right _ hx)]; decide
  have hA2 : A.filter (fun x => !forT t.peer t.kind x) = A := List.filter_eq_self.2 fun x hx => by rw [hout x (List.mem_append_left _ hx)]; rfl
  have hB2 : B.filter (fun x => !forT t.peer t.kind x) = B := List.filter_eq_self.2 fun x hx => by rw [hout x (List.mem_append_right _ hx)]; rfl
  have hc : cancelT (setT l t) t.peer t.kind = cancelT l t.peer t.kind := by
    rw [h1, h2, cancelT, List.filter_append, hA2, List.filter_cons_of_neg (by rw [forT_self]; decide), hB2]
  refine ⟨?_, fun y hy hf => ?_, hc, ?_, ?_⟩
  · rw [h1, cntT, List.filter_append, hA, List.filter_cons_of_pos (forT_self t), hB]; rfl
  · rw [h1] at hy
    rcases List.mem_append.1 hy with hy | hy
    · rw [hout y (List.mem_append_left _ hy)] at hf; cases hf
    · rcases List.mem_cons.1 hy with rfl | hy
      · rfl
      · rw [hout y (List.mem_append_right _ hy)] at hf; cases hf
  · rw [h1]
    exact List.any_eq_true.2 ⟨t, by simp, forT_self t⟩
  · rw [hc, h2]
    exact List.any_eq_false.2 fun x hx => by rw [hout x hx]; decide
end Go.Proofs.Ytffeecaidkeepaa
namespace Go.Proofs.Ytffeecaidkeepaa
open Go.RowKit

theorem grownD {a w : World} {row : Option Nat} (h : a.grownBy w row) : a.grownBy w.drew row := ⟨h.os, h.tape, h.output, h.size, h.block⟩
theorem grownB {a w w' : World} {row : Option Nat} (h : a.grownBy w row) (hb : Below w.heap.size w w') : a.grownBy w' row :=
  grownBy_trans h ⟨hb.os, hb.tape, hb.output, hb.size, fun k hk _ => hb.block k hk⟩
theorem grown_refl (w : World) (k : Option Nat) : w.grownBy w k := ⟨rfl, rfl, rfl, Nat.le_refl _, fun _ _ _ => rfl⟩
/-- a change above w is none below it -/
theorem grownA {w W W' : World} {g : Nat} {row : Option Nat} (h : w.grownBy W (some g)) (hb : W.grownBy W' row) (hr : ∀ k, row = some k → w.heap.size ≤ k) : w.grownBy W' (some g) :=
  ⟨hb.os.trans h.os, hb.tape.trans h.tape, hb.output.trans h.output, Nat.le_trans h.size hb.size, fun k hk hne => (hb.block k (Nat.lt_of_lt_of_le hk h.size) (fun e => absurd (hr k e.symm) (by omega))).trans (h.block k hk hne)⟩
/-- the entries, and that of what was there ahead of w0 only the block g has changed -/
def MemG (w0 : World) (g : Nat) (E : List Ent) (W : World) : Prop := MemE w0.heap.size E W.heap.size W ∧ w0.grownBy W (some g)
section
variable {w0 W W' : World} {g : Nat} {E : List Ent}
theorem MemG.nil (w0 : World) (g : Nat) : MemG w0 g [] w0 := ⟨Nat.le_refl _, grown_refl _ _⟩
theorem MemG.get (h : MemG w0 g E W) (i : Nat) {e : Ent} (he : E[i]? = some e) : e.P W := h.1.get i e he
theorem MemG.blk (h : MemG w0 g E W) (i : Nat) {b : Nat} {t : TypeId} {cs : List Value} (he : E[i]? = some (blkE b t cs)) : Blk W b t cs := h.1.get i _ he
theorem MemG.rd (h : MemG w0 g E W) (i : Nat) {lo hi : Nat} {A : Option Addr} {n : Nat} {l : List UInt8} (he : E[i]? = some (rdE lo hi A n l)) : Rd W W.heap.size A n l :=
  (RdIn.rd (h.1.get i _ he)).mono (MemE.put.MemE.under h.1 i _ he)
theorem MemG.below (h : MemG w0 g E W) (hb : Below W.heap.size W W') : MemG w0 g E W' := ⟨h.1.keep hb.size (fun k _ hk => hb.block k hk), grownB h.2 hb⟩
theorem MemG.drew (h : MemG w0 g E W) : MemG w0 g E W.drew := h.below ((Below.refl _ _).drew)
/-- the block g changes -/
theorem MemG.next (h : MemG w0 g E W) (hg : g < w0.heap.size) (hb : W.grownBy W' (some g)) : MemG w0 g E W' :=
  ⟨h.1.keep hb.size (fun k h1 hk => hb.block k hk (fun e => by injection e with e; omega)), grownBy_trans h.2 hb⟩
theorem MemG.alloc (h : MemG w0 g E W) {b : Nat} (hb0 : b = W.heap.size) (t : TypeId) (arr : Array Value) (cs : List Value) (ha : arr = cs.toArray) : MemG w0 g (blkE b t cs :: E) (W.alloc (.cells arr t)) := by
  subst hb0 ha
  have hb : Below W.heap.size W (W.alloc (.cells cs.toArray t)) := (Below.refl _ _).alloc (Nat.le_refl _) _
  refine ⟨⟨?_, Nat.le_succ _, Blk.new W t cs, h.1.keep (Nat.le_refl _) (fun k _ hk => hb.block k hk)⟩, grownB h.2 hb⟩
  show W.heap.size + 1 ≤ _
  simp
theorem MemG.call (h : MemG w0 g E W) (hb : Below W.heap.size W W') (e : Ent) (hl : e.lo = W.heap.size) (hh : e.hi = W'.heap.size) (hp : e.P W') : MemG w0 g (e :: E) W' :=
  ⟨⟨by rw [hh]; exact Nat.le_refl _, by rw [hl, hh]; exact hb.size, hp, by rw [hl]; exact h.1.keep (Nat.le_refl _) (fun k _ hk => hb.block k hk)⟩, grownB h.2 hb⟩
theorem MemG.put (h : MemG w0 g E W) (i : Nat) {b : Nat} {t : TypeId} {cs : List Value} (he : E[i]? = some (blkE b t cs)) (cs' : List Value) (hg : W.grownBy W' (some b)) (hb : Blk W' b t cs') : MemG w0 g (E.set i (blkE b t cs')) W' := by
  have hlow : w0.heap.size ≤ b := MemE.low h.1 i _ he
  refine ⟨(MemE.put h.1 i _ (blkE b t cs') he rfl rfl (fun k hk hne => hg.block k hk (fun e => hne ?_)) hb).keep hg.size (fun _ _ _ => rfl), grownA h.2 hg (fun k hk => by injection hk with hk; omega)⟩
  injection e with e
  subst e
  exact ⟨Nat.le_refl _, Nat.lt_succ_self _⟩
theorem MemG.setCell (h : MemG w0 g E W) (i : Nat) {b : Nat} {t : TypeId} {cs : List Value} (he : E[i]? = some (blkE b t cs)) (j : Nat) (u : Value) : MemG w0 g (E.set i (blkE b t (cs.set j u))) (W.setCell ⟨b, j, none⟩ u) :=
  h.put i he _ ⟨rfl, rfl, rfl, by simp [World.setCell], fun k _ hne => Below.heap_setCell _ _ _ _ (fun e => hne (by rw [e]))⟩ ((h.blk i he).set_ j u)
end
end Go.Proofs.Ytffeecaidkeepaa
namespace Go.Proofs.Ytffeecaidkeepaa
open Go.RowKit

/-- the list of choices that lies at A, p of them taken -/
def codesC (A : Option Addr) (n c p : Nat) : List Value := [.slice A n c, .int .i64 (p : Int)]
def nextV (l : List UInt8) (p m : Nat) : Nat := if p < l.length ∧ 1 ≤ m then (l.getD p 0).toNat % m else 0
def nextP (l : List UInt8) (p m : Nat) : Nat := if p < l.length ∧ 1 ≤ m then p + 1 else p
theorem nextP_le (l : List UInt8) (p m : Nat) (h : p ≤ l.length) : nextP l p m ≤ l.length := by unfold nextP; split <;> omega
theorem nextV_lt (l : List UInt8) (p m : Nat) (h : 1 ≤ m) : nextV l p m < m := by unfold nextV; split; exact Nat.mod_lt _ h; omega
set_option maxRecDepth 100000 in
theorem caseLeft_any (g : Nat) (A : Option Addr) (n c : Nat) (p : Nat) (w : World) (hg : Blk w g 63 (codesC A n c p)) :
    Calls Try.prog 36 #[.pointer (some ⟨g, 0, none⟩)] w fun e w' => e = .returned (.bool (decide (p < n))) ∧ Below w.heap.size w w' := by
  have HG := Lib.hid hg
  have hd : decide ((p : Int) < (n : Int)) = decide (p < n) := by simp
  obtain ⟨q, hq⟩ : ∃ q, decide (p < n) = q := ⟨_, rfl⟩
  rw [hq] at hd
  have HQ := Lib.hid hq
  clear hg hq
  go_enter Try.func36, Try.ntmps36
  have f0 := HG.out.cell 0
  have f1 := HG.out.cell 1
  rw [show (codesC A n c p)[0]? = some (.slice A n c) from rfl] at f0
  rw [show (codesC A n c p)[1]? = some (.int .i64 (p : Int)) from rfl] at f1
  go_upto_region 1 with fail
  go_region
  go_wp2
  go_ret
  exact ⟨by rw [HQ.out]; rfl, (Below.refl _ _).drew⟩
set_option maxRecDepth 100000 in
set_option maxHeartbeats 2000000 in
theorem caseNext_any (g : Nat) (A : Option Addr) (n c : Nat) (l : List UInt8) (p : Nat) (hn : n ≤ 100000) (hp : p ≤ n) (m : Nat) (hm : m ≤ 1000000) (B : Nat) (hB : B ≤ g) (w : World) (hg : Blk w g 63 (codesC A n c p)) (hr : Rd w B A n l) :
    Calls Try.prog 25 #[.pointer (some ⟨g, 0, none⟩), .int .i64 (m : Int)] w fun e w' => e = .returned (.int .i64 (nextV l p m : Int)) ∧ Blk w' g 63 (codesC A n c (nextP l p m)) ∧ w.grownBy w' (some g) := by
  have hl := hr.1
  have LC := caseLeft_any g A n c p w hg
  have HG := Lib.hid hg
  have HR := Lib.hid hr
  have HLC := Lib.hid LC
  clear hg hr LC
  by_cases hpn : p < n
  · by_cases hm1 : 1 ≤ m
    · have HV := Lib.hid (show nextV l p m = (l.getD p 0).toNat % m ∧ nextP l p m = p + 1 from ⟨if_pos ⟨by omega, hm1⟩, if_pos ⟨by omega, hm1⟩⟩)
      obtain ⟨b, off, rfl, hb0, _⟩ := HR.out.at_ (by omega)
      go_enter Try.func25, Try.ntmps25
      go_upto_region 1 with fail
      go_wp2_with fail
      refine HLC.out.mono ?_
      rintro e w1 ⟨rfl, hb⟩
      rw [decide_eq_true hpn]
      have HG1 := Lib.hid (HG.out.below hb HG.out.lt)
      have HR1 := Lib.hid ((HR.out.mono (Nat.le_trans hB (Nat.le_of_lt HG.out.lt))).below hb)
      have HW := Lib.hid (grownB (grown_refl w (some g)) hb)
      clear hb HLC
      have dm : decide ((m : Int) < 1) = false := by simp; omega
      have f0 := HG1.out.cell 0
      have f1 := HG1.out.cell 1
      rw [show (codesC (some ⟨b, off, none⟩) n c p)[0]? = some (.slice (some ⟨b, off, none⟩) n c) from rfl] at f0
      rw [show (codesC (some ⟨b, off, none⟩) n c p)[1]? = some (.int .i64 (p : Int)) from rfl] at f1
      have z1 := HG1.out.frozen 1
      have hw1 : IntKind.i64.wrap ((p : Int) + 1) = ((p + 1 : Nat) : Int) := by rw [IntWalk.i64_in _ (by omega)]; omega
      obtain ⟨p1, hp1⟩ : ∃ q, p + 1 = q := ⟨_, rfl⟩
      rw [hp1] at hw1
      have hs := HG1.out.set_ 1 (.int .i64 (p1 : Int))
      have HS := Lib.hid (show Blk (w1.setCell ⟨g, 1, none⟩ (.int .i64 (p1 : Int))) g 63 (codesC (some ⟨b, off, none⟩) n c p1) from hs)
      have HW2 := Lib.hid (show w.grownBy (w1.setCell ⟨g, 1, none⟩ (.int .i64 (p1 : Int))) (some g) from grown_set HW.out 1 _)
      have hfx : (w1.setCell ⟨g, 1, none⟩ (.int .i64 (p1 : Int))).cell? ⟨b, off + p, none⟩ = some (.int .u8 ((l.getD p 0).toNat : Int)) := by
        rw [World.cell?_of_block (w := w1) (Below.heap_setCell _ _ _ _ (by dsimp only; omega))]
        exact HR1.out.byt p hpn
      have HFX := Lib.hid hfx
      clear hs hfx
      go_upto_region 4 with fail
      clear f0 f1 z1 dm
      (try simp only [hw1])
      generalize w1.setCell ⟨g, 1, none⟩ (.int .i64 (p1 : Int)) = w2 at HS HW2 HFX ⊢
      clear hw1
      have f0 := HS.out.cell 0
      have f1 := HS.out.cell 1
      rw [show (codesC (some ⟨b, off, none⟩) n c p1)[0]? = some (.slice (some ⟨b, off, none⟩) n c) from rfl] at f0
      rw [show (codesC (some ⟨b, off, none⟩) n c p1)[1]? = some (.int .i64 (p1 : Int)) from rfl] at f1
      have fx := HFX.out
      generalize l.getD p 0 = x at fx HV
      have hw2 : IntKind.i64.wrap ((p1 : Int) - 1) = (p : Int) := by rw [IntWalk.i64_in _ (by omega)]; omega
      have hw3 : (p1 : Int) - 1 = (p : Int) := by omega
      have hw4 : IntKind.i64.wrap (p : Int) = (p : Int) := IntWalk.i64_in _ (by omega)
      have hx256 := x.toNat_lt
      have hw5 : IntKind.i64.wrap (x.toNat : Int) = (x.toNat : Int) := IntWalk.i64_in _ (by omega)
      have bp : (p : Int) < (n : Int) := by omega
      have hmz : ((m : Int) == 0) = false := by rw [beq_eq_false_iff_ne]; omega
      have hmz' : ¬ (m : Int) = 0 := by omega
      obtain ⟨r, hr⟩ : ∃ r, x.toNat % m = r := ⟨_, rfl⟩
      have hmod : (x.toNat : Int).tmod (m : Int) = (r : Int) := by rw [← hr, Int.tmod_eq_emod_of_nonneg (by omega), Int.natCast_emod]
      have hmod2 : (x.toNat : Int) % (m : Int) = (r : Int) := by rw [← hr, Int.natCast_emod]
      rw [hr, hp1] at HV
      have hwr : IntKind.i64.wrap (r : Int) = (r : Int) := IntWalk.i64_in _ (by rw [← hr]; have := Nat.mod_le x.toNat m; omega)
      clear hr
      go_region
      go_wp2
      go_ret
      exact ⟨by rw [HV.out.1]; rfl, by rw [HV.out.2]; exact HS.out.drew, grownD HW2.out⟩
    · have HV := Lib.hid (show nextV l p m = 0 ∧ nextP l p m = p from ⟨if_neg (by omega), if_neg (by omega)⟩)
      go_enter Try.func25, Try.ntmps25
      go_upto_region 1 with fail
      go_wp2_with fail
      refine HLC.out.mono ?_
      rintro e w1 ⟨rfl, hb⟩
      rw [decide_eq_true hpn]
      have HG1 := Lib.hid (HG.out.below hb HG.out.lt)
      have HW := Lib.hid (grownB (grown_refl w (some g)) hb)
      clear hb HLC
      have dm : decide ((m : Int) < 1) = true := by simp; omega
      go_wp2
      go_ret
      exact ⟨by rw [HV.out.1]; rfl, by rw [HV.out.2]; exact HG1.out, HW.out⟩
  · have HV := Lib.hid (show nextV l p m = 0 ∧ nextP l p m = p from ⟨if_neg (by omega), if_neg (by omega)⟩)
    go_enter Try.func25, Try.ntmps25
    go_upto_region 1 with fail
    go_wp2_with fail
    refine HLC.out.mono ?_
    rintro e w1 ⟨rfl, hb⟩
    rw [decide_eq_false hpn]
    have HG1 := Lib.hid (HG.out.below hb HG.out.lt)
    have HW := Lib.hid (grownB (grown_refl w (some g)) hb)
    clear hb HLC
    go_wp2
    go_ret
    exact ⟨by rw [HV.out.1]; rfl, by rw [HV.out.2]; exact HG1.out, HW.out⟩
end Go.Proofs.Ytffeecaidkeepaa
namespace Go.Proofs.Ytffeecaidkeepaa
open Go.RowKit

/-- the address behind i elements, as the model keeps it -/
def addrOf (A : Option Addr) (i c : Nat) : Option Addr := if c = i then A else A.map (·.add (i * 1))
theorem Rd.behind {W : World} {B n : Nat} {A : Option Addr} {l : List UInt8} (h : Rd W B A n l) (i c : Nat) (hi : i ≤ n) (hc : n ≤ c) : Rd W B (addrOf A i c) (n - i) (l.drop i) := by
  unfold addrOf
  by_cases e : c = i
  · have e0 : n - i = 0 := by omega
    rw [if_pos e, e0, List.drop_of_length_le (by have := h.1; omega)]
    exact Rd.nil _ _ _
  · rw [if_neg e]
    rcases Nat.eq_zero_or_pos (n - i) with h0 | h0
    · rw [h0, List.drop_of_length_le (by have := h.1; omega)]
      exact Rd.nil _ _ _
    · obtain ⟨b, off, rfl, _, _⟩ := h.2 (by omega)
      rw [Option.map_some, Go.WideShapes.add_plain, Nat.mul_one]
      exact h.drop i b off rfl hi
end Go.Proofs.Ytffeecaidkeepaa
namespace Go.Proofs.Ytffeecaidkeepaa
open Go.RowKit

theorem Rd.kept {w w' : World} {B g n : Nat} {A : Option Addr} {l : List UInt8} (h : Rd w B A n l) (hB : B ≤ g) (hg : g < w.heap.size) (hb : w.grownBy w' (some g)) : Rd w' B A n l :=
  h.keep fun q hq => World.cell?_of_block (hb.block q.block (by omega) (fun e => by injection e with e; omega))
theorem Rd.below2 {w w' : World} {B n : Nat} {A : Option Addr} {l : List UInt8} (h : Rd w B A n l) (hB : B ≤ w.heap.size) (hb : Below w.heap.size w w') : Rd w' B A n l := h.below (hb.mono hB)
end Go.Proofs.Ytffeecaidkeepaa
namespace Go.Proofs.Ytffeecaidkeepaa
open Go.RowKit

set_option maxRecDepth 100000 in
theorem caseNew_any (A : Option Addr) (n c m k : Nat) (hm : m ≤ 1000000) (hnc : n ≤ c) (hcm : c ≤ maxLen) (hk : min n m = k) (w : World) :
    Calls Try.prog 24 #[.slice A n c, .int .i64 (m : Int)] w fun e w' => e = .returned (.pointer (some ⟨w.heap.size, 0, none⟩)) ∧ Mem w [blkE w.heap.size 63 (codesC A k c 0)] w' := by
  have hc63 : (c : Int) ≤ 9223372036854775807 := by unfold maxLen at hcm; omega
  have HM := Lib.hid ((Mem.nil w).alloc rfl 63 #[.slice A k c, .int .i64 0] (codesC A k c 0) rfl)
  by_cases h : n ≤ m
  · obtain rfl : k = n := by omega
    have h1 : ¬ (m : Int) < (k : Int) := by omega
    have h2 : (k : Int) ≤ (m : Int) := by omega
    have h3 : (k : Int) ≤ (c : Int) := by omega
    have h4 : (if (m : Int) < (k : Int) then (m : Int) else (k : Int)) = (k : Int) := if_neg h1
    clear hk
    go_enter Try.func24, Try.ntmps24
    go_wp2
    go_ret
    exact ⟨rfl, HM.out⟩
  · obtain rfl : k = m := by omega
    have h1 : (k : Int) < (n : Int) := by omega
    have h2 : ¬ (n : Int) ≤ (k : Int) := by omega
    have h3 : (k : Int) ≤ (c : Int) := by omega
    have h4 : (if (k : Int) < (n : Int) then (k : Int) else (n : Int)) = (k : Int) := if_pos h1
    clear hk
    go_enter Try.func24, Try.ntmps24
    go_wp2
    go_ret
    exact ⟨rfl, HM.out⟩
end Go.Proofs.Ytffeecaidkeepaa
namespace Go.Proofs.Ytffeecaidkeepaa
open Go.RowKit

/-- the choices at a world: p of them taken -/
structure CodesAt (W : World) (g : Nat) (A : Option Addr) (n c : Nat) (l : List UInt8) (B : Nat) (p : Nat) : Prop where
  blk : Blk W g 63 (codesC A n c p)
  rd : Rd W B A n l
  le : B ≤ g
  lt : g < W.heap.size
  small : n ≤ 100000
  pos : p ≤ n
section
variable {W W' : World} {g : Nat} {A : Option Addr} {n c : Nat} {l : List UInt8} {B p : Nat}
theorem CodesAt.below (h : CodesAt W g A n c l B p) (hb : Below W.heap.size W W') : CodesAt W' g A n c l B p :=
  ⟨h.blk.below hb h.lt, h.rd.below2 (by have := h.le; have := h.lt; omega) hb, h.le, Nat.lt_of_lt_of_le h.lt hb.size, h.small, h.pos⟩
theorem CodesAt.put (h : CodesAt W g A n c l B p) {b : Nat} (hg : W.grownBy W' (some b)) (hb : g < b) : CodesAt W' g A n c l B p :=
  ⟨h.blk.grown hg (fun e => by injection e with e; omega), h.rd.keep (fun q hq => World.cell?_of_block (hg.block q.block (by have := h.le; have := h.lt; omega) (fun e => by injection e with e; have := h.le; omega))), h.le, Nat.lt_of_lt_of_le h.lt hg.size, h.small, h.pos⟩
theorem CodesAt.next (h : CodesAt W g A n c l B p) {q : Nat} (hq : q ≤ n) (hb : Blk W' g 63 (codesC A n c q)) (hg : W.grownBy W' (some g)) : CodesAt W' g A n c l B q :=
  ⟨hb, h.rd.kept h.le h.lt hg, h.le, Nat.lt_of_lt_of_le h.lt hg.size, h.small, hq⟩
theorem CodesAt.nextLe (h : CodesAt W g A n c l B p) (m : Nat) : nextP l p m ≤ n := by have := nextP_le l p m (by rw [h.rd.1]; exact h.pos); rw [h.rd.1] at this; exact this
theorem CodesAt.callNext (h : CodesAt W g A n c l B p) (m : Nat) (hm : m ≤ 1000000) :
    Calls Try.prog 25 #[.pointer (some ⟨g, 0, none⟩), .int .i64 (m : Int)] W fun e w' => e = .returned (.int .i64 (nextV l p m : Int)) ∧ CodesAt w' g A n c l B (nextP l p m) ∧ W.grownBy w' (some g) :=
  (caseNext_any g A n c l p h.small h.pos m hm B h.le W h.blk h.rd).mono fun _ _ k => ⟨k.1, h.next (h.nextLe m) k.2.1 k.2.2, k.2.2⟩
end
end Go.Proofs.Ytffeecaidkeepaa
namespace Go.Proofs.Ytffeecaidkeepaa
open Go.RowKit

theorem RdRow.kept {W W' : World} {B k n g : Nat} {A : Option Addr} {os : List (List Value)} (h : RdRow W B A k n os) (hB : B ≤ W.heap.size) (hg : W.grownBy W' (some g)) (hne : ∀ ad, A = some ad → g < ad.block) : RdRow W' B A k n os :=
  ⟨h.1, h.2.1, fun hn => by
    obtain ⟨b, off, e, hlt, hc⟩ := h.2.2 hn
    exact ⟨b, off, e, hlt, fun j v hv => (World.cell?_of_block (hg.block b (by omega) (fun e2 => by injection e2 with e2; have := hne _ e; simp only at this; omega))).trans (hc j v hv)⟩⟩
theorem At.kept {W W' : World} {b off g : Nat} {cs : List Value} (h : At W b off cs) (hb : b < W.heap.size) (hg : W.grownBy W' (some g)) (hne : g < b) : At W' b off cs := fun j v hv => (World.cell?_of_block (hg.block b hb (fun e2 => by injection e2 with e2; omega))).trans (h j v hv)
end Go.Proofs.Ytffeecaidkeepaa
namespace Go.Proofs.Ytffeecaidkeepaa
open Go.RowKit

theorem wpList_build_as {P : Program} {ops : Array Oper} {rest : List Oper} {o : Oper} {a : Act} {w : World} {Q : Exit → Act → World → Prop} (hg : o.guard = none) (t : TypeId) (parts : List (Nat × Operand)) (ho : o.op = .build t parts.toArray) (v : Array Value)
    (hb : P.built t (parts.map fun p => (p.1, a.eval p.2)) = some v) (h : wpList P ops Q rest (a.put o.dst (.agg v)) w) : wpList P ops Q (o :: rest) a w :=
  have e : (parts.toArray.map fun (i, x) => (i, a.eval x)).toList = parts.map fun p => (p.1, a.eval p.2) := by simp
  wpList_build hg t parts.toArray ho (by rw [e, hb]; rfl) (by rw [e, hb]; exact h)
end Go.Proofs.Ytffeecaidkeepaa
