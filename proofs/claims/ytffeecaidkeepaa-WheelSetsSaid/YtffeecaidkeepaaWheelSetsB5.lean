/-
  A map that a call makes, whose keys are structs, as the list of the keys that it holds. No function of the program is named here. What is asked of Valid holds of the landed one. WheelSets returns true for every input, by what the landed functions give. No statement is proved here.
-/
import Derived.Maps.OwnOps
import Derived.Maps.OwnSet
import Derived.DeepKeys3
import Derived.RegionTactic
import Derived.Deep.DeepCutAuto
import Derived.Test.YtffeecaidkeepaaWheelSetsB4
namespace Go.Proofs.Ytffeecaidkeepaa
open Go.RowKit Go.Maps

/-- what the map reads as -/
def litsV (S : List Lit) : DataW Unit := S.foldr (fun (c : Lit) (D : DataW Unit) => DataW.put D c (.lit (.bool true))) (.map [])
theorem litsV_isMap : ∀ S : List Lit, IsMap (litsV S)
  | [] => isMap_empty
  | _ :: S => (litsV_isMap S).put _ _
theorem litsV_in {c : Lit} (hc : WideAt.IsKeyLit c) : ∀ S : List Lit, c ∈ S → (litsV S).atKey c (.lit (.bool false)) = .lit (.bool true)
  | [], h => by cases h
  | d :: S, h => by
    show ((litsV S).put d (.lit (.bool true))).atKey _ _ = _
    by_cases e : c = d
    · subst e
      rw [atKey_put_same (litsV_isMap S) hc]
    · rw [atKey_put_other (fun h => e (by first | exact h | exact h.symm)), litsV_in hc S (by rcases List.mem_cons.1 h with h | h; exact absurd h e; exact h)]
theorem litsV_out {c : Lit} (hc : WideAt.IsKeyLit c) : ∀ S : List Lit, c ∉ S → (litsV S).atKey c (.lit (.bool false)) = .lit (.bool false)
  | [], _ => rfl
  | d :: S, h => by
    show ((litsV S).put d (.lit (.bool true))).atKey _ _ = _
    have e : c ≠ d := fun e => h (by rw [e]; exact List.mem_cons_self ..)
    rw [atKey_put_other (fun h => e (by first | exact h | exact h.symm)), litsV_out hc S (fun hm => h (List.mem_cons_of_mem _ hm))]
/-- block b is the map of the keys of S -/
def KeysAt (P : Program) (k e : TypeId) (W : World) (b n : Nat) (S : List Lit) : Prop := W.ownsMap P k (plainElem P e) b n (litsV S)
theorem KeysAt.lt {P : Program} {k e : TypeId} {W : World} {b n : Nat} {S : List Lit} (h : KeysAt P k e W b n S) : b < W.heap.size := World.ownsMap.lt h
def keysL (P : Program) (k e : TypeId) (b n : Nat) (S : List Lit) : Low := ⟨fun W => KeysAt P k e W b n S, fun W W' hb h => by
  obtain ⟨es, clock, h1, h2⟩ := h
  exact ⟨es, clock, (hb.block b (Array.getElem?_eq_some_iff.1 h1).1).trans h1, h2⟩⟩
theorem plainElem_bool_inv2 {P : Program} {e : TypeId} (he : P.underlying e = some .bool) {v : Value} {z : DataW Unit × List MemPlace} (h : plainElem P e v = some z) : ∃ x, v = .bool x ∧ z = (.lit (.bool x), []) := by
  unfold plainElem at h
  rw [he] at h
  cases v <;> simp at h
  subst h
  exact ⟨_, rfl, rfl⟩
theorem run_lookup_keys {P : Program} {w : World} {t k e : TypeId} (K : Keyed P k) (ht : P.underlying t = some (.map k e)) (he : P.underlying e = some .bool) (hz : ∀ w, (zeroValue e).run P w = .ok (.bool false) w) {b n : Nat} {S : List Lit}
    (hown : KeysAt P k e w b n S) (v : Value) (c : Lit) (hc : keyOf P k v = some c) (y : Bool) (hy : y = true ↔ c ∈ S) : (Instr.lookup t (.map (some b)) v false).run P w = .ok (.bool y) w := by
  obtain ⟨z, ps, hrun, hv⟩ := World.ownsMap.lookup hown K ht (hz w) (plainElem_bool he false) hc
  obtain ⟨x, rfl, hz2⟩ := plainElem_bool_inv2 he hv
  rw [hrun]
  cases y with
  | true =>
    rw [litsV_in (K.key hc) S (hy.1 rfl)] at hz2
    simp only [Prod.mk.injEq, DataW.lit.injEq, Lit.bool.injEq] at hz2
    rw [hz2.1]
  | false =>
    rw [litsV_out (K.key hc) S (fun h => by cases hy.2 h)] at hz2
    simp only [Prod.mk.injEq, DataW.lit.injEq, Lit.bool.injEq] at hz2
    rw [hz2.1]
theorem wpList_update_keys {P : Program} {w : World} {ops : Array Oper} {rest : List Oper} {o : Oper} {a : Act} {Q : Exit → Act → World → Prop}
    (hg : o.guard = none) (m x v : Operand) (t : TypeId) (hop : o.op = Op.mapUpdate t m x v)
    (k e : TypeId) (K : Keyed P k) (ht : P.underlying t = some (.map k e)) (he : P.underlying e = some .bool) (b n : Nat) (S : List Lit)
    (hm : a.eval m = .map (some b)) (hown : KeysAt P k e w b n S) (hn : n < maxLen) (u : Value) (c : Lit) (hc : keyOf P k u = some c) (hx : a.eval x = u) (hv : a.eval v = .bool true)
    (h : ∀ w', KeysAt P k e w' b (n + 1) (c :: S) → w.grownBy w' (some b) → wpList P ops Q rest (a.put o.dst undef) w') : wpList P ops Q (o :: rest) a w :=
  wpList_mapUpdate_own w hg m x v t hop k e K ht (plainElem P e) b n (litsV S) hm hown hn _ _ c hx hv hc (.lit (.bool true)) [] (plainElem_bool he true) h
end Go.Proofs.Ytffeecaidkeepaa
namespace Go.Proofs.Ytffeecaidkeepaa
open Go.RowKit

theorem pur_lits_any (k : List UInt8) (d : Int) (h : k.length = 32) (hd : inI64 d) (D : Nat) : LitsAt Try.prog (D + 3) 60 (purC k d) := by
  refine lits_struct Try.underlying60 (purC k d) ?_ (by simp) ?_
  · rw [purC_length h]; kernel_rfl
  · intro f hf
    simp only [List.mem_cons, List.not_mem_nil, or_false] at hf
    rcases hf with rfl | rfl
    · have e : ((purC k d).drop 0).take (Try.prog.cellsOf 25) = k.map u8v := by
        rw [show Try.prog.cellsOf 25 = 32 by kernel_rfl, purC, List.drop_zero, List.take_left' (by rw [List.length_map, h])]
      exact e ▸ key_lits D k h
    · have e : ((purC k d).drop 32).take (Try.prog.cellsOf 3) = [.int .i64 d] := by
        rw [show Try.prog.cellsOf 3 = 1 by kernel_rfl, purC, List.drop_left' (by rw [List.length_map, h])]
        rfl
      unfold inI64 at hd
      exact e ▸ lits_int Try.underlying3 _ ⟨by simp [IntKind.min, IntKind.signed, IntKind.bits]; omega, by simp [IntKind.max, IntKind.signed, IntKind.bits]; omega⟩
theorem pur_wide : (match Try.prog.underlying 60 with | some (.array _ _) | some (.struct _) => true | _ => false) = true := by kernel_rfl
theorem pur_keyed : Maps.Keyed Try.prog 60 := Maps.Keyed.of_law (deep_law (m := 8) (by omega) (by kernel_rfl) (by kernel_rfl) pur_wide)
/-- what a purpose reads as, as a key -/
noncomputable def purLit (k : List UInt8) (d : Int) : Lit := (keyOf Try.prog 60 (.agg (purC k d).toArray)).getD (.bool false)
theorem pur_key (k : List UInt8) (d : Int) (h : k.length = 32) (hd : inI64 d) : keyOf Try.prog 60 (.agg (purC k d).toArray) = some (purLit k d) := by
  have hex : ∃ l, keyOf Try.prog 60 (.agg (purC k d).toArray) = some l := by
    have hsz : 2 ≤ Try.prog.types.size := of_decide_eq_true (by kernel_rfl)
    obtain ⟨ls, hls⟩ := pur_lits_any k d h hd (Try.prog.types.size - 2)
    rw [show Try.prog.types.size - 2 + 3 = Try.prog.types.size + 1 by omega] at hls
    have hkt : Try.prog.keyType 60 = true := by kernel_rfl
    have hfm : (Value.agg (purC k d).toArray).formed Try.prog 60 = true := by
      have hc : Try.prog.cellsOf 60 = 33 := by kernel_rfl
      simp [Value.formed, Try.underlying60, hc, purC_length h]
    refine ⟨.string (keyBytes ls), ?_⟩
    unfold keyOf
    rw [Try.underlying60]
    simp only [hkt, hfm, Bool.and_self, if_true]
    rw [show (Value.agg (purC k d).toArray).cells.toList = purC k d from rfl, hls]
    rfl
  obtain ⟨l, hl⟩ := hex
  rw [purLit, hl]
  rfl
theorem purLit_inj {k l : List UInt8} {d e : Int} (hk : k.length = 32) (hl : l.length = 32) (hd : inI64 d) (he : inI64 e) (h : purLit k d = purLit l e) : k = l ∧ d = e := by
  have h1 := pur_key k d hk hd
  have h2 := pur_key l e hl he
  rw [← h] at h2
  have h3 := pur_keyed.inj h1 h2
  injection h3 with h3
  exact (pur_inj hk hl).1 (by simpa using h3)
/-- the keys of the timers ahead of a place -/
def KeysOfT (l : List TimerM) (j : Nat) (S : List Lit) : Prop := ∀ (k : List UInt8) (d : Int), k.length = 32 → inI64 d → (purLit k d ∈ S ↔ hasT (l.take j) k d = true)
theorem keysOfT_nil (l : List TimerM) : KeysOfT l 0 [] := fun k d _ _ => by simp [hasT]
theorem keysOfT_snoc {l : List TimerM} {j : Nat} {S : List Lit} {t : TimerM} (h : KeysOfT l j S) (ht : l[j]? = some t) (ho : t.ok) : KeysOfT l (j + 1) (purLit t.peer t.kind :: S) := fun k d hk hd => by
  rw [take_snoc ht, hasT, List.any_append, Bool.or_eq_true, List.mem_cons, h k d hk hd]
  constructor
  · rintro (e | e)
    · obtain ⟨rfl, rfl⟩ := purLit_inj hk ho.2.1 hd ho.2.2 e
      exact .inr (by simp [forT])
    · exact .inl e
  · rintro (e | e)
    · exact .inr e
    · simp only [List.any_cons, List.any_nil, Bool.or_false, forT, Bool.and_eq_true, decide_eq_true_eq] at e
      exact .inl (by rw [e.1, e.2])
theorem timerw_cellsOf (s : TimerM) (h : s.ok) : (Try.prog.info? 58).map (·.size) = some s.cells.length := by
  rw [TimerM.cells_length h]; kernel_rfl
set_option maxRecDepth 100000 in
set_option maxHeartbeats 16000000 in
theorem whValidC : WhValidC 19 := by
  intro A n c l w harg
  have hn := harg.1
  have HA := Lib.hid harg.2.2.2
  clear harg
  have hmm := @run_makeMap Try.prog
  have HK0 := Lib.hid (show KeysAt Try.prog 60 4 (w.alloc (.map #[] 0)) w.heap.size 0 [] ∧ Below w.heap.size w (w.alloc (.map #[] 0)) from ⟨World.ownsMap_made w Try.prog 60 (plainElem (H := Unit) Try.prog 4), (Below.refl _ _).alloc (Nat.le_refl _) _⟩)
  go_enter Try.func19, Try.ntmps19
  go_upto_region 2 with fail
  clear hmm
  generalize w.alloc (.map #[] 0) = w1 at HK0 ⊢
  obtain ⟨GM, hGM⟩ : ∃ z, w.heap.size = z := ⟨_, rfl⟩
  have HGM := Lib.hid (show w.heap.size ≤ GM from Nat.le_of_eq hGM)
  rw [show KeysAt Try.prog 60 4 w1 w.heap.size 0 [] = KeysAt Try.prog 60 4 w1 GM 0 [] by rw [hGM]] at HK0
  rw [hGM]
  clear hGM
  go_wp2_with fail
  go_loopw [10] (fun i wr => ∃ (j m : Nat) (S : List Lit), j ≤ n ∧ i = .int .i64 (j : Int) ∧ m ≤ j ∧ (∀ k, k < j → stepT l k = true) ∧ KeysOfT l j S ∧ KeysAt Try.prog 60 4 wr GM m S ∧ Below w.heap.size w wr) (fun i _ => n - (intOf i).toNat)
  case atStart => exact ⟨0, 0, [], by omega, rfl, Nat.le_refl _, fun k hk => absurd hk (by omega), keysOfT_nil l, HK0.out.1, HK0.out.2⟩
  case round =>
    clear HK0
    obtain ⟨j, m, S, hj, rfl, hmj, hs, hks, hka, hW⟩ := hrel
    have HW := Lib.hid hW
    have HS := Lib.hid hs
    have HMJ := Lib.hid (show m ≤ 100 ∧ m ≤ j from ⟨by omega, hmj⟩)
    have HKS := Lib.hid hks
    have HKA := Lib.hid hka
    clear hW hs hmj hks hka
    by_cases hjn : j < n
    · have d1 : decide ((j : Int) < (n : Int)) = true := by simp; omega
      obtain ⟨b, off, rfl⟩ := HA.out.1.addr (by omega)
      obtain ⟨s, hs⟩ : ∃ s, l[j]? = some s := ⟨l[j]'(by rw [HA.out.len]; exact hjn), List.getElem?_eq_getElem _⟩
      have HOK := Lib.hid (HA.out.ok hs)
      have hat := HA.out.at j s hs
      have HLA := Lib.hid (hat.2.mono HW.out hat.1)
      have HJS := Lib.hid hs
      obtain ⟨sc, hsc⟩ : ∃ z, s.cells.toArray = z := ⟨_, rfl⟩
      have HSC := Lib.hid hsc
      obtain ⟨sk, hsk⟩ : ∃ z, (s.peer.map u8v).toArray = z := ⟨_, rfl⟩
      have HSK := Lib.hid hsk
      clear hat hs hsc hsk
      have HZ := Lib.hid (Blk.new wr 27 timerZ)
      go_upto_region 5 with (first | (refine wpList_load_obj rfl 27 (.tmp 13) rfl b _ rfl s.cells HLA.out _ Try.underlying27 rfl (timer_cellsOf s HOK.out) ?_; rw [HSC.out]) | (refine wpList_store_obj rfl 27 (.tmp 5) (.tmp 14) rfl wr.heap.size 0 s.cells rfl (by show Value.agg sc = _; rw [HSC.out]) 27 timerZ HZ.out (timer_cellsOf s HOK.out) (by rw [TimerM.cells_length HOK.out, timerZ_length]; omega) (timer_one s) ?_; intro w5 hb4 hg4))
      rw [setL_all timerZ s.cells (by rw [TimerM.cells_length HOK.out, timerZ_length])] at hb4
      have HM := Lib.hid (show Lows w [blkL wr.heap.size 27 s.cells, keysL Try.prog 60 4 GM m S] w5 from ⟨fun f hf => by
        simp only [List.mem_cons, List.not_mem_nil, or_false] at hf
        rcases hf with rfl | rfl
        · exact hb4
        · exact (keysL Try.prog 60 4 GM m S).keep _ _ (below_fresh hg4) HKA.out, HW.out.trans ((below_fresh hg4).mono HW.out.size)⟩)
      clear hb4 hg4 HW HZ d1 HLA HKA
      generalize wr.heap.size = P1 at HM ⊢
      have hbt := timer_built s HOK.out
      have hpm := whPermitted_any s HOK.out
      have hpu := whPurpose_any s HOK.out
      have hkey := pur_key s.peer s.kind HOK.out.2.1 HOK.out.2.2
      obtain ⟨pc, hpc⟩ : ∃ z, (purC s.peer s.kind).toArray = z := ⟨_, rfl⟩
      rw [HSC.out] at hbt hpm hpu
      rw [hpc] at hpu hkey
      have HBT := Lib.hid hbt
      have HPM := Lib.hid hpm
      have HPU := Lib.hid hpu
      have HKY := Lib.hid hkey
      clear hbt hpm hpu hkey hpc
      have HZ := Lib.hid (Blk.new w5 58 timerZ)
      go_upto_region 6 with (first | (refine wpList_load_obj rfl 27 (.tmp 5) rfl P1 0 rfl s.cells (HM.out.blk 0 rfl).all _ Try.underlying27 rfl (timer_cellsOf s HOK.out) ?_; rw [HSC.out]) | (refine wpList_build_as rfl 58 [(0, .tmp 15)] rfl sc ?_ ?_; exact HBT.out) | (refine wpList_store_obj rfl 58 (.tmp 6) (.tmp 16) rfl w5.heap.size 0 s.cells rfl (by show Value.agg sc = _; rw [HSC.out]) 58 timerZ HZ.out (timerw_cellsOf s HOK.out) (by rw [TimerM.cells_length HOK.out, timerZ_length]; omega) (timer_one s) ?_; intro w6 hb6 hg6))
      rw [setL_all timerZ s.cells (by rw [TimerM.cells_length HOK.out, timerZ_length])] at hb6
      replace HM := Lib.hid (show Lows w [blkL w5.heap.size 58 s.cells, blkL P1 27 s.cells, keysL Try.prog 60 4 GM m S] w6 from (HM.out.below (below_fresh hg6)).cons (blkL w5.heap.size 58 s.cells) hb6)
      clear hb6 hg6 HZ
      generalize w5.heap.size = P2 at HM ⊢
      obtain ⟨y1, hy1⟩ : ∃ y, permT s = y := ⟨_, rfl⟩
      rw [hy1] at HPM
      cases y1 with
      | false =>
        have HR := Lib.hid (show validT l = false from allT_bad (by rw [HA.out.len]; exact hjn) (stepT_perm HJS.out hy1))
        clear hy1
        refine wp_region_held_drew (S := fun W' => Lows w [blkL P2 58 s.cells, blkL P1 27 s.cells, keysL Try.prog 60 4 GM m S] W') (by kernel_rfl) (HM.out.drew) (fun hHeld => ?_)
        replace HM := Lib.hid HM.out.drew
        generalize w6.drew = wd1 at HM hHeld ⊢
        refine take_first (v := .agg sc) 0 rfl (by kernel_rfl) (by kernel_rfl) (by kernel_rfl) (fun _ _ _ h => h) (by rw [← HSC.out]; exact yields_load_obj (by rfl) 58 (.tmp 6) rfl P2 0 rfl s.cells (fun w' hb => (Lows.blk hb 0 rfl).all) _ Try.underlying58 rfl (timerw_cellsOf s HOK.out)) (by assumption) ?_
        (try simp only [Act.put, List.setIfInBounds_toArray, List.set_cons_zero, List.set_cons_succ])
        refine step_one 1 rfl (by kernel_rfl) (fun K hK => ?_)
        clear hHeld
        go_simp
        refine (HPM.out _).mono ?_
        rintro e wy2 ⟨rfl, hb⟩
        replace HM := Lib.hid (show Lows w [blkL P2 58 s.cells, blkL P1 27 s.cells, keysL Try.prog 60 4 GM m S] wy2 from HM.out.below hb)
        clear hb
        go_wp2_with fail
        refine hK.out _ _ (HM.out) (fun hHeld => ?_)
        clear hK K
        (try simp only [Act.put, List.setIfInBounds_toArray, List.set_cons_zero, List.set_cons_succ])
        refine take_first (v := ?_) 2 rfl (by kernel_rfl) (by kernel_rfl) (by kernel_rfl) (fun _ _ _ h => h) (Or.inl ⟨by rfl, ?_⟩) (by assumption) ?_
        rotate_left
        · (intro w hSw; (try dsimp only at hSw); go_simp; try with_reducible rfl)
        (try simp only [Act.put, List.setIfInBounds_toArray, List.set_cons_zero, List.set_cons_succ])
        refine take_first (v := ?_) 3 rfl (by kernel_rfl) (by kernel_rfl) (by kernel_rfl) (fun _ _ _ h => h) (Or.inl ⟨by rfl, ?_⟩) (by assumption) ?_
        rotate_left
        · (intro w hSw; (try dsimp only at hSw); go_simp; try with_reducible rfl)
        (try simp only [Act.put, List.setIfInBounds_toArray, List.set_cons_zero, List.set_cons_succ])
        refine take_first (v := undef) 4 rfl (by kernel_rfl) (by kernel_rfl) (by kernel_rfl) (fun _ _ _ h => h) (Or.inr ⟨by rfl, rfl⟩) (by assumption) ?_
        (try simp only [Act.put, List.setIfInBounds_toArray, List.set_cons_zero, List.set_cons_succ])
        refine take_first (v := undef) 5 rfl (by kernel_rfl) (by kernel_rfl) (by kernel_rfl) (fun _ _ _ h => h) (Or.inr ⟨by rfl, rfl⟩) (by assumption) ?_
        (try simp only [Act.put, List.setIfInBounds_toArray, List.set_cons_zero, List.set_cons_succ])
        refine take_first (v := undef) 6 rfl (by kernel_rfl) (by kernel_rfl) (by kernel_rfl) (fun _ _ _ h => h) (Or.inr ⟨by rfl, rfl⟩) (by assumption) ?_
        (try simp only [Act.put, List.setIfInBounds_toArray, List.set_cons_zero, List.set_cons_succ])
        refine take_first (v := undef) 7 rfl (by kernel_rfl) (by kernel_rfl) (by kernel_rfl) (fun _ _ _ h => h) (Or.inr ⟨by rfl, rfl⟩) (by assumption) ?_
        (try simp only [Act.put, List.setIfInBounds_toArray, List.set_cons_zero, List.set_cons_succ])
        refine take_first (v := ?_) 8 rfl (by kernel_rfl) (by kernel_rfl) (by kernel_rfl) (fun _ _ _ h => h) (Or.inl ⟨by rfl, ?_⟩) (by assumption) ?_
        rotate_left
        · (intro w hSw; (try dsimp only at hSw); go_simp; try with_reducible rfl)
        (try simp only [Act.put, List.setIfInBounds_toArray, List.set_cons_zero, List.set_cons_succ])
        refine take_first (v := ?_) 9 rfl (by kernel_rfl) (by kernel_rfl) (by kernel_rfl) (fun _ _ _ h => h) (Or.inl ⟨by rfl, ?_⟩) (by assumption) ?_
        rotate_left
        · (intro w hSw; (try dsimp only at hSw); go_simp; try with_reducible rfl)
        (try simp only [Act.put, List.setIfInBounds_toArray, List.set_cons_zero, List.set_cons_succ])
        refine take_first (v := undef) 10 rfl (by kernel_rfl) (by kernel_rfl) (by kernel_rfl) (fun _ _ _ h => h) (Or.inr ⟨by rfl, rfl⟩) (by assumption) ?_
        (try simp only [Act.put, List.setIfInBounds_toArray, List.set_cons_zero, List.set_cons_succ])
        refine take_first (v := undef) 11 rfl (by kernel_rfl) (by kernel_rfl) (by kernel_rfl) (fun _ _ _ h => h) (Or.inr ⟨by rfl, rfl⟩) (by assumption) ?_
        (try simp only [Act.put, List.setIfInBounds_toArray, List.set_cons_zero, List.set_cons_succ])
        refine take_first (v := undef) 12 rfl (by kernel_rfl) (by kernel_rfl) (by kernel_rfl) (fun _ _ _ h => h) (Or.inr ⟨by rfl, rfl⟩) (by assumption) ?_
        (try simp only [Act.put, List.setIfInBounds_toArray, List.set_cons_zero, List.set_cons_succ])
        refine take_first (v := undef) 13 rfl (by kernel_rfl) (by kernel_rfl) (by kernel_rfl) (fun _ _ _ h => h) (Or.inr ⟨by rfl, rfl⟩) (by assumption) ?_
        (try simp only [Act.put, List.setIfInBounds_toArray, List.set_cons_zero, List.set_cons_succ])
        refine take_first (v := undef) 14 rfl (by kernel_rfl) (by kernel_rfl) (by kernel_rfl) (fun _ _ _ h => h) (Or.inr ⟨by rfl, rfl⟩) (by assumption) ?_
        (try simp only [Act.put, List.setIfInBounds_toArray, List.set_cons_zero, List.set_cons_succ])
        refine take_first (v := undef) 15 rfl (by kernel_rfl) (by kernel_rfl) (by kernel_rfl) (fun _ _ _ h => h) (Or.inr ⟨by rfl, rfl⟩) (by assumption) ?_
        (try simp only [Act.put, List.setIfInBounds_toArray, List.set_cons_zero, List.set_cons_succ])
        refine take_first (v := undef) 16 rfl (by kernel_rfl) (by kernel_rfl) (by kernel_rfl) (fun _ _ _ h => h) (Or.inr ⟨by rfl, rfl⟩) (by assumption) ?_
        (try simp only [Act.put, List.setIfInBounds_toArray, List.set_cons_zero, List.set_cons_succ])
        refine take_first (v := undef) 17 rfl (by kernel_rfl) (by kernel_rfl) (by kernel_rfl) (fun _ _ _ h => h) (Or.inr ⟨by rfl, rfl⟩) (by assumption) ?_
        (try simp only [Act.put, List.setIfInBounds_toArray, List.set_cons_zero, List.set_cons_succ])
        refine take_first (v := undef) 18 rfl (by kernel_rfl) (by kernel_rfl) (by kernel_rfl) (fun _ _ _ h => h) (Or.inr ⟨by rfl, rfl⟩) (by assumption) ?_
        (try simp only [Act.put, List.setIfInBounds_toArray, List.set_cons_zero, List.set_cons_succ])
        refine take_first (v := undef) 19 rfl (by kernel_rfl) (by kernel_rfl) (by kernel_rfl) (fun _ _ _ h => h) (Or.inr ⟨by rfl, rfl⟩) (by assumption) ?_
        (try simp only [Act.put, List.setIfInBounds_toArray, List.set_cons_zero, List.set_cons_succ])
        refine take_first (v := undef) 20 rfl (by kernel_rfl) (by kernel_rfl) (by kernel_rfl) (fun _ _ _ h => h) (Or.inr ⟨by rfl, rfl⟩) (by assumption) ?_
        (try simp only [Act.put, List.setIfInBounds_toArray, List.set_cons_zero, List.set_cons_succ])
        refine take_first (v := undef) 21 rfl (by kernel_rfl) (by kernel_rfl) (by kernel_rfl) (fun _ _ _ h => h) (Or.inr ⟨by rfl, rfl⟩) (by assumption) ?_
        (try simp only [Act.put, List.setIfInBounds_toArray, List.set_cons_zero, List.set_cons_succ])
        refine take_first (v := ?_) 22 rfl (by kernel_rfl) (by kernel_rfl) (by kernel_rfl) (fun _ _ _ h => h) (Or.inl ⟨by rfl, ?_⟩) (by assumption) ?_
        rotate_left
        · (intro w hSw; (try dsimp only at hSw); go_simp; try with_reducible rfl)
        (try simp only [Act.put, List.setIfInBounds_toArray, List.set_cons_zero, List.set_cons_succ])
        refine wpAnyH_done (by kernel_rfl) ?_ _
        clear hHeld
        have HF := Lib.hid HM.out.bel
        clear HM
        go_wp2_with fail
        go_ret
        exact ⟨by rw [HR.out]; rfl, HF.out⟩
      | true =>
        have HP1 := Lib.hid hy1
        clear hy1
        obtain ⟨y2, hy2⟩ : ∃ y, hasT (l.take j) s.peer s.kind = y := ⟨_, rfl⟩
        have HLK := Lib.hid (show ∀ W, KeysAt Try.prog 60 4 W GM m S → (Instr.lookup 56 (.map (some GM)) (.agg pc) false).run Try.prog W = .ok (.bool y2) W from fun W hW => run_lookup_keys pur_keyed Try.underlying56 Try.underlying4 (fun w => by kernel_rfl) hW (.agg pc) (purLit s.peer s.kind) HKY.out y2 (by rw [← hy2]; exact (HKS.out s.peer s.kind HOK.out.2.1 HOK.out.2.2).symm))
        cases y2 with
        | true =>
          have HR := Lib.hid (show validT l = false from allT_bad (by rw [HA.out.len]; exact hjn) (stepT_dup HJS.out hy2))
          clear hy2
          refine wp_region_held_drew (S := fun W' => Lows w [blkL P2 58 s.cells, blkL P1 27 s.cells, keysL Try.prog 60 4 GM m S] W') (by kernel_rfl) (HM.out.drew) (fun hHeld => ?_)
          replace HM := Lib.hid HM.out.drew
          generalize w6.drew = wd1 at HM hHeld ⊢
          refine take_first (v := .agg sc) 0 rfl (by kernel_rfl) (by kernel_rfl) (by kernel_rfl) (fun _ _ _ h => h) (by rw [← HSC.out]; exact yields_load_obj (by rfl) 58 (.tmp 6) rfl P2 0 rfl s.cells (fun w' hb => (Lows.blk hb 0 rfl).all) _ Try.underlying58 rfl (timerw_cellsOf s HOK.out)) (by assumption) ?_
          (try simp only [Act.put, List.setIfInBounds_toArray, List.set_cons_zero, List.set_cons_succ])
          refine step_one 1 rfl (by kernel_rfl) (fun K hK => ?_)
          clear hHeld
          go_simp
          refine (HPM.out _).mono ?_
          rintro e wy2 ⟨rfl, hb⟩
          replace HM := Lib.hid (show Lows w [blkL P2 58 s.cells, blkL P1 27 s.cells, keysL Try.prog 60 4 GM m S] wy2 from HM.out.below hb)
          clear hb
          go_wp2_with fail
          refine hK.out _ _ (HM.out) (fun hHeld => ?_)
          clear hK K
          (try simp only [Act.put, List.setIfInBounds_toArray, List.set_cons_zero, List.set_cons_succ])
          refine take_first (v := ?_) 2 rfl (by kernel_rfl) (by kernel_rfl) (by kernel_rfl) (fun _ _ _ h => h) (Or.inl ⟨by rfl, ?_⟩) (by assumption) ?_
          rotate_left
          · (intro w hSw; (try dsimp only at hSw); go_simp; try with_reducible rfl)
          (try simp only [Act.put, List.setIfInBounds_toArray, List.set_cons_zero, List.set_cons_succ])
          refine take_first (v := ?_) 3 rfl (by kernel_rfl) (by kernel_rfl) (by kernel_rfl) (fun _ _ _ h => h) (Or.inl ⟨by rfl, ?_⟩) (by assumption) ?_
          rotate_left
          · (intro w hSw; (try dsimp only at hSw); go_simp; try with_reducible rfl)
          (try simp only [Act.put, List.setIfInBounds_toArray, List.set_cons_zero, List.set_cons_succ])
          refine take_first (v := ?_) 4 rfl (by kernel_rfl) (by kernel_rfl) (by kernel_rfl) (fun _ _ _ h => h) (Or.inl ⟨by rfl, ?_⟩) (by assumption) ?_
          rotate_left
          · (intro w hSw; (try dsimp only at hSw); go_simp; try with_reducible rfl)
          (try simp only [Act.put, List.setIfInBounds_toArray, List.set_cons_zero, List.set_cons_succ])
          refine take_first (v := .agg sc) 5 rfl (by kernel_rfl) (by kernel_rfl) (by kernel_rfl) (fun _ _ _ h => h) (by rw [← HSC.out]; exact yields_load_obj (by rfl) 58 (.tmp 6) rfl P2 0 rfl s.cells (fun w' hb => (Lows.blk hb 0 rfl).all) _ Try.underlying58 rfl (timerw_cellsOf s HOK.out)) (by assumption) ?_
          (try simp only [Act.put, List.setIfInBounds_toArray, List.set_cons_zero, List.set_cons_succ])
          refine step_one 6 rfl (by kernel_rfl) (fun K hK => ?_)
          clear hHeld
          go_simp
          refine (HPU.out _).mono ?_
          rintro e wy3 ⟨rfl, hb⟩
          replace HM := Lib.hid (show Lows w [blkL P2 58 s.cells, blkL P1 27 s.cells, keysL Try.prog 60 4 GM m S] wy3 from HM.out.below hb)
          clear hb
          go_wp2_with fail
          refine hK.out _ _ (HM.out) (fun hHeld => ?_)
          clear hK K
          (try simp only [Act.put, List.setIfInBounds_toArray, List.set_cons_zero, List.set_cons_succ])
          refine take_first (v := ?_) 7 rfl (by kernel_rfl) (by kernel_rfl) (by kernel_rfl) (fun _ _ _ h => h) (Or.inl ⟨by rfl, ?_⟩) (by assumption) ?_
          rotate_left
          · (intro w hSw; (try dsimp only at hSw); have hr := HLK.out _ (Lows.get hSw (f := keysL Try.prog 60 4 GM m S) 2 rfl); go_simp; try with_reducible rfl)
          (try simp only [Act.put, List.setIfInBounds_toArray, List.set_cons_zero, List.set_cons_succ])
          refine take_first (v := ?_) 8 rfl (by kernel_rfl) (by kernel_rfl) (by kernel_rfl) (fun _ _ _ h => h) (Or.inl ⟨by rfl, ?_⟩) (by assumption) ?_
          rotate_left
          · (intro w hSw; (try dsimp only at hSw); go_simp; try with_reducible rfl)
          (try simp only [Act.put, List.setIfInBounds_toArray, List.set_cons_zero, List.set_cons_succ])
          refine take_first (v := ?_) 9 rfl (by kernel_rfl) (by kernel_rfl) (by kernel_rfl) (fun _ _ _ h => h) (Or.inl ⟨by rfl, ?_⟩) (by assumption) ?_
          rotate_left
          · (intro w hSw; (try dsimp only at hSw); go_simp; try with_reducible rfl)
          (try simp only [Act.put, List.setIfInBounds_toArray, List.set_cons_zero, List.set_cons_succ])
          refine take_first (v := undef) 10 rfl (by kernel_rfl) (by kernel_rfl) (by kernel_rfl) (fun _ _ _ h => h) (Or.inr ⟨by rfl, rfl⟩) (by assumption) ?_
          (try simp only [Act.put, List.setIfInBounds_toArray, List.set_cons_zero, List.set_cons_succ])
          refine take_first (v := undef) 11 rfl (by kernel_rfl) (by kernel_rfl) (by kernel_rfl) (fun _ _ _ h => h) (Or.inr ⟨by rfl, rfl⟩) (by assumption) ?_
          (try simp only [Act.put, List.setIfInBounds_toArray, List.set_cons_zero, List.set_cons_succ])
          refine take_first (v := undef) 12 rfl (by kernel_rfl) (by kernel_rfl) (by kernel_rfl) (fun _ _ _ h => h) (Or.inr ⟨by rfl, rfl⟩) (by assumption) ?_
          (try simp only [Act.put, List.setIfInBounds_toArray, List.set_cons_zero, List.set_cons_succ])
          refine take_first (v := undef) 13 rfl (by kernel_rfl) (by kernel_rfl) (by kernel_rfl) (fun _ _ _ h => h) (Or.inr ⟨by rfl, rfl⟩) (by assumption) ?_
          (try simp only [Act.put, List.setIfInBounds_toArray, List.set_cons_zero, List.set_cons_succ])
          refine take_first (v := undef) 14 rfl (by kernel_rfl) (by kernel_rfl) (by kernel_rfl) (fun _ _ _ h => h) (Or.inr ⟨by rfl, rfl⟩) (by assumption) ?_
          (try simp only [Act.put, List.setIfInBounds_toArray, List.set_cons_zero, List.set_cons_succ])
          refine take_first (v := undef) 15 rfl (by kernel_rfl) (by kernel_rfl) (by kernel_rfl) (fun _ _ _ h => h) (Or.inr ⟨by rfl, rfl⟩) (by assumption) ?_
          (try simp only [Act.put, List.setIfInBounds_toArray, List.set_cons_zero, List.set_cons_succ])
          refine take_first (v := undef) 16 rfl (by kernel_rfl) (by kernel_rfl) (by kernel_rfl) (fun _ _ _ h => h) (Or.inr ⟨by rfl, rfl⟩) (by assumption) ?_
          (try simp only [Act.put, List.setIfInBounds_toArray, List.set_cons_zero, List.set_cons_succ])
          refine take_first (v := undef) 17 rfl (by kernel_rfl) (by kernel_rfl) (by kernel_rfl) (fun _ _ _ h => h) (Or.inr ⟨by rfl, rfl⟩) (by assumption) ?_
          (try simp only [Act.put, List.setIfInBounds_toArray, List.set_cons_zero, List.set_cons_succ])
          refine take_first (v := undef) 18 rfl (by kernel_rfl) (by kernel_rfl) (by kernel_rfl) (fun _ _ _ h => h) (Or.inr ⟨by rfl, rfl⟩) (by assumption) ?_
          (try simp only [Act.put, List.setIfInBounds_toArray, List.set_cons_zero, List.set_cons_succ])
          refine take_first (v := undef) 19 rfl (by kernel_rfl) (by kernel_rfl) (by kernel_rfl) (fun _ _ _ h => h) (Or.inr ⟨by rfl, rfl⟩) (by assumption) ?_
          (try simp only [Act.put, List.setIfInBounds_toArray, List.set_cons_zero, List.set_cons_succ])
          refine take_first (v := undef) 20 rfl (by kernel_rfl) (by kernel_rfl) (by kernel_rfl) (fun _ _ _ h => h) (Or.inr ⟨by rfl, rfl⟩) (by assumption) ?_
          (try simp only [Act.put, List.setIfInBounds_toArray, List.set_cons_zero, List.set_cons_succ])
          refine take_first (v := undef) 21 rfl (by kernel_rfl) (by kernel_rfl) (by kernel_rfl) (fun _ _ _ h => h) (Or.inr ⟨by rfl, rfl⟩) (by assumption) ?_
          (try simp only [Act.put, List.setIfInBounds_toArray, List.set_cons_zero, List.set_cons_succ])
          refine take_first (v := ?_) 22 rfl (by kernel_rfl) (by kernel_rfl) (by kernel_rfl) (fun _ _ _ h => h) (Or.inl ⟨by rfl, ?_⟩) (by assumption) ?_
          rotate_left
          · (intro w hSw; (try dsimp only at hSw); go_simp; try with_reducible rfl)
          (try simp only [Act.put, List.setIfInBounds_toArray, List.set_cons_zero, List.set_cons_succ])
          refine wpAnyH_done (by kernel_rfl) ?_ _
          clear hHeld
          have HF := Lib.hid HM.out.bel
          clear HM
          go_wp2_with fail
          go_ret
          exact ⟨by rw [HR.out]; rfl, HF.out⟩
        | false =>
          have HP2 := Lib.hid hy2
          have HSNX := Lib.hid (keysOfT_snoc HKS.out HJS.out HOK.out)
          clear hy2
          cases hj0 : j with
          | zero =>
            subst hj0
            have HG := Lib.hid (show ∀ k, k < 0 + 1 → stepT l k = true from fun k hk => by
              obtain rfl : k = 0 := by omega
              rw [stepT_zero HJS.out, HP1.out, HP2.out]; rfl)
            have dz : decide (((0 : Nat) : Int) > 0) = false := by simp
            refine wp_region_held_drew (S := fun W' => Lows w [blkL P2 58 s.cells, blkL P1 27 s.cells, keysL Try.prog 60 4 GM m S] W') (by kernel_rfl) (HM.out.drew) (fun hHeld => ?_)
            replace HM := Lib.hid HM.out.drew
            generalize w6.drew = wd1 at HM hHeld ⊢
            refine take_first (v := .agg sc) 0 rfl (by kernel_rfl) (by kernel_rfl) (by kernel_rfl) (fun _ _ _ h => h) (by rw [← HSC.out]; exact yields_load_obj (by rfl) 58 (.tmp 6) rfl P2 0 rfl s.cells (fun w' hb => (Lows.blk hb 0 rfl).all) _ Try.underlying58 rfl (timerw_cellsOf s HOK.out)) (by assumption) ?_
            (try simp only [Act.put, List.setIfInBounds_toArray, List.set_cons_zero, List.set_cons_succ])
            refine step_one 1 rfl (by kernel_rfl) (fun K hK => ?_)
            clear hHeld
            go_simp
            refine (HPM.out _).mono ?_
            rintro e wy2 ⟨rfl, hb⟩
            replace HM := Lib.hid (show Lows w [blkL P2 58 s.cells, blkL P1 27 s.cells, keysL Try.prog 60 4 GM m S] wy2 from HM.out.below hb)
            clear hb
            go_wp2_with fail
            refine hK.out _ _ (HM.out) (fun hHeld => ?_)
            clear hK K
            (try simp only [Act.put, List.setIfInBounds_toArray, List.set_cons_zero, List.set_cons_succ])
            refine take_first (v := ?_) 2 rfl (by kernel_rfl) (by kernel_rfl) (by kernel_rfl) (fun _ _ _ h => h) (Or.inl ⟨by rfl, ?_⟩) (by assumption) ?_
            rotate_left
            · (intro w hSw; (try dsimp only at hSw); go_simp; try with_reducible rfl)
            (try simp only [Act.put, List.setIfInBounds_toArray, List.set_cons_zero, List.set_cons_succ])
            refine take_first (v := ?_) 3 rfl (by kernel_rfl) (by kernel_rfl) (by kernel_rfl) (fun _ _ _ h => h) (Or.inl ⟨by rfl, ?_⟩) (by assumption) ?_
            rotate_left
            · (intro w hSw; (try dsimp only at hSw); go_simp; try with_reducible rfl)
            (try simp only [Act.put, List.setIfInBounds_toArray, List.set_cons_zero, List.set_cons_succ])
            refine take_first (v := ?_) 4 rfl (by kernel_rfl) (by kernel_rfl) (by kernel_rfl) (fun _ _ _ h => h) (Or.inl ⟨by rfl, ?_⟩) (by assumption) ?_
            rotate_left
            · (intro w hSw; (try dsimp only at hSw); go_simp; try with_reducible rfl)
            (try simp only [Act.put, List.setIfInBounds_toArray, List.set_cons_zero, List.set_cons_succ])
            refine take_first (v := .agg sc) 5 rfl (by kernel_rfl) (by kernel_rfl) (by kernel_rfl) (fun _ _ _ h => h) (by rw [← HSC.out]; exact yields_load_obj (by rfl) 58 (.tmp 6) rfl P2 0 rfl s.cells (fun w' hb => (Lows.blk hb 0 rfl).all) _ Try.underlying58 rfl (timerw_cellsOf s HOK.out)) (by assumption) ?_
            (try simp only [Act.put, List.setIfInBounds_toArray, List.set_cons_zero, List.set_cons_succ])
            refine step_one 6 rfl (by kernel_rfl) (fun K hK => ?_)
            clear hHeld
            go_simp
            refine (HPU.out _).mono ?_
            rintro e wy3 ⟨rfl, hb⟩
            replace HM := Lib.hid (show Lows w [blkL P2 58 s.cells, blkL P1 27 s.cells, keysL Try.prog 60 4 GM m S] wy3 from HM.out.below hb)
            clear hb
            go_wp2_with fail
            refine hK.out _ _ (HM.out) (fun hHeld => ?_)
            clear hK K
            (try simp only [Act.put, List.setIfInBounds_toArray, List.set_cons_zero, List.set_cons_succ])
            refine take_first (v := ?_) 7 rfl (by kernel_rfl) (by kernel_rfl) (by kernel_rfl) (fun _ _ _ h => h) (Or.inl ⟨by rfl, ?_⟩) (by assumption) ?_
            rotate_left
            · (intro w hSw; (try dsimp only at hSw); have hr := HLK.out _ (Lows.get hSw (f := keysL Try.prog 60 4 GM m S) 2 rfl); go_simp; try with_reducible rfl)
            (try simp only [Act.put, List.setIfInBounds_toArray, List.set_cons_zero, List.set_cons_succ])
            refine take_first (v := ?_) 8 rfl (by kernel_rfl) (by kernel_rfl) (by kernel_rfl) (fun _ _ _ h => h) (Or.inl ⟨by rfl, ?_⟩) (by assumption) ?_
            rotate_left
            · (intro w hSw; (try dsimp only at hSw); go_simp; try with_reducible rfl)
            (try simp only [Act.put, List.setIfInBounds_toArray, List.set_cons_zero, List.set_cons_succ])
            refine take_first (v := ?_) 9 rfl (by kernel_rfl) (by kernel_rfl) (by kernel_rfl) (fun _ _ _ h => h) (Or.inl ⟨by rfl, ?_⟩) (by assumption) ?_
            rotate_left
            · (intro w hSw; (try dsimp only at hSw); go_simp; try with_reducible rfl)
            (try simp only [Act.put, List.setIfInBounds_toArray, List.set_cons_zero, List.set_cons_succ])
            refine take_first (v := ?_) 10 rfl (by kernel_rfl) (by kernel_rfl) (by kernel_rfl) (fun _ _ _ h => h) (Or.inl ⟨by rfl, ?_⟩) (by assumption) ?_
            rotate_left
            · (intro w hSw; (try dsimp only at hSw); go_simp; try with_reducible rfl)
            (try simp only [Act.put, List.setIfInBounds_toArray, List.set_cons_zero, List.set_cons_succ])
            refine take_first (v := ?_) 11 rfl (by kernel_rfl) (by kernel_rfl) (by kernel_rfl) (fun _ _ _ h => h) (Or.inl ⟨by rfl, ?_⟩) (by assumption) ?_
            rotate_left
            · (intro w hSw; (try dsimp only at hSw); go_simp; try with_reducible rfl)
            (try simp only [Act.put, List.setIfInBounds_toArray, List.set_cons_zero, List.set_cons_succ])
            refine take_first (v := ?_) 12 rfl (by kernel_rfl) (by kernel_rfl) (by kernel_rfl) (fun _ _ _ h => h) (Or.inl ⟨by rfl, ?_⟩) (by assumption) ?_
            rotate_left
            · (intro w hSw; (try dsimp only at hSw); go_simp; try with_reducible rfl)
            (try simp only [Act.put, List.setIfInBounds_toArray, List.set_cons_zero, List.set_cons_succ])
            refine take_first (v := undef) 13 rfl (by kernel_rfl) (by kernel_rfl) (by kernel_rfl) (fun _ _ _ h => h) (Or.inr ⟨by rfl, rfl⟩) (by assumption) ?_
            (try simp only [Act.put, List.setIfInBounds_toArray, List.set_cons_zero, List.set_cons_succ])
            refine take_first (v := undef) 14 rfl (by kernel_rfl) (by kernel_rfl) (by kernel_rfl) (fun _ _ _ h => h) (Or.inr ⟨by rfl, rfl⟩) (by assumption) ?_
            (try simp only [Act.put, List.setIfInBounds_toArray, List.set_cons_zero, List.set_cons_succ])
            refine take_first (v := undef) 15 rfl (by kernel_rfl) (by kernel_rfl) (by kernel_rfl) (fun _ _ _ h => h) (Or.inr ⟨by rfl, rfl⟩) (by assumption) ?_
            (try simp only [Act.put, List.setIfInBounds_toArray, List.set_cons_zero, List.set_cons_succ])
            refine take_first (v := undef) 16 rfl (by kernel_rfl) (by kernel_rfl) (by kernel_rfl) (fun _ _ _ h => h) (Or.inr ⟨by rfl, rfl⟩) (by assumption) ?_
            (try simp only [Act.put, List.setIfInBounds_toArray, List.set_cons_zero, List.set_cons_succ])
            refine take_first (v := undef) 17 rfl (by kernel_rfl) (by kernel_rfl) (by kernel_rfl) (fun _ _ _ h => h) (Or.inr ⟨by rfl, rfl⟩) (by assumption) ?_
            (try simp only [Act.put, List.setIfInBounds_toArray, List.set_cons_zero, List.set_cons_succ])
            refine take_first (v := undef) 18 rfl (by kernel_rfl) (by kernel_rfl) (by kernel_rfl) (fun _ _ _ h => h) (Or.inr ⟨by rfl, rfl⟩) (by assumption) ?_
            (try simp only [Act.put, List.setIfInBounds_toArray, List.set_cons_zero, List.set_cons_succ])
            refine take_first (v := undef) 19 rfl (by kernel_rfl) (by kernel_rfl) (by kernel_rfl) (fun _ _ _ h => h) (Or.inr ⟨by rfl, rfl⟩) (by assumption) ?_
            (try simp only [Act.put, List.setIfInBounds_toArray, List.set_cons_zero, List.set_cons_succ])
            refine take_first (v := undef) 20 rfl (by kernel_rfl) (by kernel_rfl) (by kernel_rfl) (fun _ _ _ h => h) (Or.inr ⟨by rfl, rfl⟩) (by assumption) ?_
            (try simp only [Act.put, List.setIfInBounds_toArray, List.set_cons_zero, List.set_cons_succ])
            refine take_first (v := ?_) 21 rfl (by kernel_rfl) (by kernel_rfl) (by kernel_rfl) (fun _ _ _ h => h) (Or.inl ⟨by rfl, ?_⟩) (by assumption) ?_
            rotate_left
            · (intro w hSw; (try dsimp only at hSw); go_simp; try with_reducible rfl)
            (try simp only [Act.put, List.setIfInBounds_toArray, List.set_cons_zero, List.set_cons_succ])
            refine take_first (v := ?_) 22 rfl (by kernel_rfl) (by kernel_rfl) (by kernel_rfl) (fun _ _ _ h => h) (Or.inl ⟨by rfl, ?_⟩) (by assumption) ?_
            rotate_left
            · (intro w hSw; (try dsimp only at hSw); go_simp; try with_reducible rfl)
            (try simp only [Act.put, List.setIfInBounds_toArray, List.set_cons_zero, List.set_cons_succ])
            refine wpAnyH_done (by kernel_rfl) ?_ _
            clear hHeld
            have HX := Lib.hid (show Blk wy3 P2 58 s.cells ∧ KeysAt Try.prog 60 4 wy3 GM m S ∧ Below w.heap.size w wy3 from ⟨HM.out.blk 0 rfl, HM.out.get (f := keysL Try.prog 60 4 GM m S) 2 rfl, HM.out.bel⟩)
            clear HM
            go_wp2_with (refine wpList_load_obj rfl 58 (.tmp 6) rfl P2 0 rfl s.cells HX.out.1.all _ Try.underlying58 rfl (timerw_cellsOf s HOK.out) ?_; rw [HSC.out])
            refine (HPU.out _).mono ?_
            rintro e w7 ⟨rfl, hb⟩
            have HK7 := Lib.hid (show KeysAt Try.prog 60 4 w7 GM m S from (keysL Try.prog 60 4 GM m S).keep _ _ hb HX.out.2.1)
            have HB7 := Lib.hid (HX.out.2.2.trans (hb.mono HX.out.2.2.size))
            clear hb HX
            go_wp2_with (refine wpList_update_keys rfl (.tmp 40) (.tmp 42) (.const (.bool true)) 56 rfl 60 4 pur_keyed Try.underlying56 Try.underlying4 GM m S rfl HK7.out (by unfold maxLen; have := HMJ.out; omega) (.agg pc) (purLit s.peer s.kind) HKY.out rfl rfl ?_; intro w8 hk8 hg8)
            have HW8 := Lib.hid (show KeysAt Try.prog 60 4 w8 GM (m + 1) (purLit s.peer s.kind :: S) ∧ Below w.heap.size w w8 from ⟨hk8, HB7.out.grown hg8 HB7.out.size (fun k hk => by injection hk with hk; have := HGM.out; omega)⟩)
            clear hk8 hg8 HK7 HB7
            go_roundw
            case rel => exact ⟨0 + 1, m + 1, purLit s.peer s.kind :: S, by omega, by go_num, by have := HMJ.out; omega, HG.out, HSNX.out, HW8.out.1, HW8.out.2⟩
            case measure => simp [intOf] <;> omega
          | succ k =>
            rw [← hj0]
            obtain ⟨q, hq⟩ : ∃ q, l[k]? = some q := ⟨l[k]'(by rw [HA.out.len]; omega), List.getElem?_eq_getElem _⟩
            have HOQ := Lib.hid (HA.out.ok hq)
            have hat := HA.out.at k q hq
            have HLQ := Lib.hid (show ∀ W, Below w.heap.size w W → At W b (off + k * 34) q.cells from fun W hW => hat.2.mono hW hat.1)
            have hlc := whLessC q s
            obtain ⟨qc, hqc⟩ : ∃ z, q.cells.toArray = z := ⟨_, rfl⟩
            rw [HSC.out, hqc] at hlc
            have HQC := Lib.hid hqc
            obtain ⟨y, hy⟩ : ∃ y, lessT q s = y := ⟨_, rfl⟩
            rw [hy] at hlc
            have HLC := Lib.hid hlc
            have HST := Lib.hid (show stepT l j = y from by rw [hj0, stepT_succ hq (hj0 ▸ HJS.out), hy, HP1.out, (show hasT (l.take (k + 1)) s.peer s.kind = false from hj0 ▸ HP2.out)]; rfl)
            clear hat hqc hlc hy hq
            have dz : decide ((j : Int) > 0) = true := by simp; omega
            have dz2 : decide ((0 : Int) < (j : Int)) = true := by simp; omega
            have dz3 : 0 < j := by omega
            have ek : (j : Int) - 1 = (k : Int) := by omega
            have ew : IntKind.i64.wrap (k : Int) = (k : Int) := IntWalk.i64_in _ (by omega)
            have ekn : (k : Int) < (n : Int) := by omega
            clear hj0
            cases y with
            | false =>
              have HR := Lib.hid (show validT l = false from allT_bad (by rw [HA.out.len]; exact hjn) HST.out)
              refine wp_region_held_drew (S := fun W' => Lows w [blkL P2 58 s.cells, blkL P1 27 s.cells, keysL Try.prog 60 4 GM m S] W') (by kernel_rfl) (HM.out.drew) (fun hHeld => ?_)
              replace HM := Lib.hid HM.out.drew
              generalize w6.drew = wd1 at HM hHeld ⊢
              refine take_first (v := .agg sc) 0 rfl (by kernel_rfl) (by kernel_rfl) (by kernel_rfl) (fun _ _ _ h => h) (by rw [← HSC.out]; exact yields_load_obj (by rfl) 58 (.tmp 6) rfl P2 0 rfl s.cells (fun w' hb => (Lows.blk hb 0 rfl).all) _ Try.underlying58 rfl (timerw_cellsOf s HOK.out)) (by assumption) ?_
              (try simp only [Act.put, List.setIfInBounds_toArray, List.set_cons_zero, List.set_cons_succ])
              refine step_one 1 rfl (by kernel_rfl) (fun K hK => ?_)
              clear hHeld
              go_simp
              refine (HPM.out _).mono ?_
              rintro e wy2 ⟨rfl, hb⟩
              replace HM := Lib.hid (show Lows w [blkL P2 58 s.cells, blkL P1 27 s.cells, keysL Try.prog 60 4 GM m S] wy2 from HM.out.below hb)
              clear hb
              go_wp2_with fail
              refine hK.out _ _ (HM.out) (fun hHeld => ?_)
              clear hK K
              (try simp only [Act.put, List.setIfInBounds_toArray, List.set_cons_zero, List.set_cons_succ])
              refine take_first (v := ?_) 2 rfl (by kernel_rfl) (by kernel_rfl) (by kernel_rfl) (fun _ _ _ h => h) (Or.inl ⟨by rfl, ?_⟩) (by assumption) ?_
              rotate_left
              · (intro w hSw; (try dsimp only at hSw); go_simp; try with_reducible rfl)
              (try simp only [Act.put, List.setIfInBounds_toArray, List.set_cons_zero, List.set_cons_succ])
              refine take_first (v := ?_) 3 rfl (by kernel_rfl) (by kernel_rfl) (by kernel_rfl) (fun _ _ _ h => h) (Or.inl ⟨by rfl, ?_⟩) (by assumption) ?_
              rotate_left
              · (intro w hSw; (try dsimp only at hSw); go_simp; try with_reducible rfl)
              (try simp only [Act.put, List.setIfInBounds_toArray, List.set_cons_zero, List.set_cons_succ])
              refine take_first (v := ?_) 4 rfl (by kernel_rfl) (by kernel_rfl) (by kernel_rfl) (fun _ _ _ h => h) (Or.inl ⟨by rfl, ?_⟩) (by assumption) ?_
              rotate_left
              · (intro w hSw; (try dsimp only at hSw); go_simp; try with_reducible rfl)
              (try simp only [Act.put, List.setIfInBounds_toArray, List.set_cons_zero, List.set_cons_succ])
              refine take_first (v := .agg sc) 5 rfl (by kernel_rfl) (by kernel_rfl) (by kernel_rfl) (fun _ _ _ h => h) (by rw [← HSC.out]; exact yields_load_obj (by rfl) 58 (.tmp 6) rfl P2 0 rfl s.cells (fun w' hb => (Lows.blk hb 0 rfl).all) _ Try.underlying58 rfl (timerw_cellsOf s HOK.out)) (by assumption) ?_
              (try simp only [Act.put, List.setIfInBounds_toArray, List.set_cons_zero, List.set_cons_succ])
              refine step_one 6 rfl (by kernel_rfl) (fun K hK => ?_)
              clear hHeld
              go_simp
              refine (HPU.out _).mono ?_
              rintro e wy3 ⟨rfl, hb⟩
              replace HM := Lib.hid (show Lows w [blkL P2 58 s.cells, blkL P1 27 s.cells, keysL Try.prog 60 4 GM m S] wy3 from HM.out.below hb)
              clear hb
              go_wp2_with fail
              refine hK.out _ _ (HM.out) (fun hHeld => ?_)
              clear hK K
              (try simp only [Act.put, List.setIfInBounds_toArray, List.set_cons_zero, List.set_cons_succ])
              refine take_first (v := ?_) 7 rfl (by kernel_rfl) (by kernel_rfl) (by kernel_rfl) (fun _ _ _ h => h) (Or.inl ⟨by rfl, ?_⟩) (by assumption) ?_
              rotate_left
              · (intro w hSw; (try dsimp only at hSw); have hr := HLK.out _ (Lows.get hSw (f := keysL Try.prog 60 4 GM m S) 2 rfl); go_simp; try with_reducible rfl)
              (try simp only [Act.put, List.setIfInBounds_toArray, List.set_cons_zero, List.set_cons_succ])
              refine take_first (v := ?_) 8 rfl (by kernel_rfl) (by kernel_rfl) (by kernel_rfl) (fun _ _ _ h => h) (Or.inl ⟨by rfl, ?_⟩) (by assumption) ?_
              rotate_left
              · (intro w hSw; (try dsimp only at hSw); go_simp; try with_reducible rfl)
              (try simp only [Act.put, List.setIfInBounds_toArray, List.set_cons_zero, List.set_cons_succ])
              refine take_first (v := ?_) 9 rfl (by kernel_rfl) (by kernel_rfl) (by kernel_rfl) (fun _ _ _ h => h) (Or.inl ⟨by rfl, ?_⟩) (by assumption) ?_
              rotate_left
              · (intro w hSw; (try dsimp only at hSw); go_simp; try with_reducible rfl)
              (try simp only [Act.put, List.setIfInBounds_toArray, List.set_cons_zero, List.set_cons_succ])
              refine take_first (v := ?_) 10 rfl (by kernel_rfl) (by kernel_rfl) (by kernel_rfl) (fun _ _ _ h => h) (Or.inl ⟨by rfl, ?_⟩) (by assumption) ?_
              rotate_left
              · (intro w hSw; (try dsimp only at hSw); go_simp; try with_reducible rfl)
              (try simp only [Act.put, List.setIfInBounds_toArray, List.set_cons_zero, List.set_cons_succ])
              refine take_first (v := ?_) 11 rfl (by kernel_rfl) (by kernel_rfl) (by kernel_rfl) (fun _ _ _ h => h) (Or.inl ⟨by rfl, ?_⟩) (by assumption) ?_
              rotate_left
              · (intro w hSw; (try dsimp only at hSw); go_simp; try with_reducible rfl)
              (try simp only [Act.put, List.setIfInBounds_toArray, List.set_cons_zero, List.set_cons_succ])
              refine take_first (v := ?_) 12 rfl (by kernel_rfl) (by kernel_rfl) (by kernel_rfl) (fun _ _ _ h => h) (Or.inl ⟨by rfl, ?_⟩) (by assumption) ?_
              rotate_left
              · (intro w hSw; (try dsimp only at hSw); go_simp; try with_reducible rfl)
              (try simp only [Act.put, List.setIfInBounds_toArray, List.set_cons_zero, List.set_cons_succ])
              refine take_first (v := ?_) 13 rfl (by kernel_rfl) (by kernel_rfl) (by kernel_rfl) (fun _ _ _ h => h) (Or.inl ⟨by rfl, ?_⟩) (by assumption) ?_
              rotate_left
              · (intro w hSw; (try dsimp only at hSw); go_simp; try with_reducible rfl)
              (try simp only [Act.put, List.setIfInBounds_toArray, List.set_cons_zero, List.set_cons_succ])
              refine take_first (v := ?_) 14 rfl (by kernel_rfl) (by kernel_rfl) (by kernel_rfl) (fun _ _ _ h => h) (Or.inl ⟨by rfl, ?_⟩) (by assumption) ?_
              rotate_left
              · (intro w hSw; (try dsimp only at hSw); go_simp; try with_reducible rfl)
              (try simp only [Act.put, List.setIfInBounds_toArray, List.set_cons_zero, List.set_cons_succ])
              refine take_first (v := ?_) 15 rfl (by kernel_rfl) (by kernel_rfl) (by kernel_rfl) (fun _ _ _ h => h) (Or.inl ⟨by rfl, ?_⟩) (by assumption) ?_
              rotate_left
              · (intro w hSw; (try dsimp only at hSw); go_simp; try with_reducible rfl)
              (try simp only [Act.put, List.setIfInBounds_toArray, List.set_cons_zero, List.set_cons_succ])
              refine take_first (v := ?_) 16 rfl (by kernel_rfl) (by kernel_rfl) (by kernel_rfl) (fun _ _ _ h => h) (Or.inl ⟨by rfl, ?_⟩) (by assumption) ?_
              rotate_left
              · (intro w hSw; (try dsimp only at hSw); go_simp; try with_reducible rfl)
              (try simp only [Act.put, List.setIfInBounds_toArray, List.set_cons_zero, List.set_cons_succ])
              refine take_first (v := .agg qc) 17 rfl (by kernel_rfl) (by kernel_rfl) (by kernel_rfl) (fun _ _ _ h => h) (by rw [← HQC.out]; exact yields_load_obj (by rfl) 27 (.tmp 33) rfl b _ rfl q.cells (fun w' hb => HLQ.out w' hb.bel) _ Try.underlying27 rfl (timer_cellsOf q HOQ.out)) (by assumption) ?_
              (try simp only [Act.put, List.setIfInBounds_toArray, List.set_cons_zero, List.set_cons_succ])
              refine take_first (v := .agg sc) 18 rfl (by kernel_rfl) (by kernel_rfl) (by kernel_rfl) (fun _ _ _ h => h) (by rw [← HSC.out]; exact yields_load_obj (by rfl) 27 (.tmp 5) rfl P1 0 rfl s.cells (fun w' hb => (Lows.blk hb 1 rfl).all) _ Try.underlying27 rfl (timer_cellsOf s HOK.out)) (by assumption) ?_
              (try simp only [Act.put, List.setIfInBounds_toArray, List.set_cons_zero, List.set_cons_succ])
              refine step_one 19 rfl (by kernel_rfl) (fun K hK => ?_)
              clear hHeld
              go_simp
              refine (HLC.out _ HOQ.out HOK.out).mono ?_
              rintro e wy4 ⟨rfl, hb⟩
              replace HM := Lib.hid (show Lows w [blkL P2 58 s.cells, blkL P1 27 s.cells, keysL Try.prog 60 4 GM m S] wy4 from HM.out.below hb)
              clear hb
              go_wp2_with fail
              refine hK.out _ _ (HM.out) (fun hHeld => ?_)
              clear hK K
              (try simp only [Act.put, List.setIfInBounds_toArray, List.set_cons_zero, List.set_cons_succ])
              refine take_first (v := ?_) 20 rfl (by kernel_rfl) (by kernel_rfl) (by kernel_rfl) (fun _ _ _ h => h) (Or.inl ⟨by rfl, ?_⟩) (by assumption) ?_
              rotate_left
              · (intro w hSw; (try dsimp only at hSw); go_simp; try with_reducible rfl)
              (try simp only [Act.put, List.setIfInBounds_toArray, List.set_cons_zero, List.set_cons_succ])
              refine take_first (v := ?_) 21 rfl (by kernel_rfl) (by kernel_rfl) (by kernel_rfl) (fun _ _ _ h => h) (Or.inl ⟨by rfl, ?_⟩) (by assumption) ?_
              rotate_left
              · (intro w hSw; (try dsimp only at hSw); go_simp; try with_reducible rfl)
              (try simp only [Act.put, List.setIfInBounds_toArray, List.set_cons_zero, List.set_cons_succ])
              refine take_first (v := ?_) 22 rfl (by kernel_rfl) (by kernel_rfl) (by kernel_rfl) (fun _ _ _ h => h) (Or.inl ⟨by rfl, ?_⟩) (by assumption) ?_
              rotate_left
              · (intro w hSw; (try dsimp only at hSw); go_simp; try with_reducible rfl)
              (try simp only [Act.put, List.setIfInBounds_toArray, List.set_cons_zero, List.set_cons_succ])
              refine wpAnyH_done (by kernel_rfl) ?_ _
              clear hHeld
              have HF := Lib.hid HM.out.bel
              clear HM
              go_wp2_with fail
              go_ret
              exact ⟨by rw [HR.out]; rfl, HF.out⟩
            | true =>
              have HG := Lib.hid (show ∀ k, k < j + 1 → stepT l k = true from fun i hi => by
                by_cases he : i = j
                · rw [he]; exact HST.out
                · exact HS.out i (by omega))
              refine wp_region_held_drew (S := fun W' => Lows w [blkL P2 58 s.cells, blkL P1 27 s.cells, keysL Try.prog 60 4 GM m S] W') (by kernel_rfl) (HM.out.drew) (fun hHeld => ?_)
              replace HM := Lib.hid HM.out.drew
              generalize w6.drew = wd1 at HM hHeld ⊢
              refine take_first (v := .agg sc) 0 rfl (by kernel_rfl) (by kernel_rfl) (by kernel_rfl) (fun _ _ _ h => h) (by rw [← HSC.out]; exact yields_load_obj (by rfl) 58 (.tmp 6) rfl P2 0 rfl s.cells (fun w' hb => (Lows.blk hb 0 rfl).all) _ Try.underlying58 rfl (timerw_cellsOf s HOK.out)) (by assumption) ?_
              (try simp only [Act.put, List.setIfInBounds_toArray, List.set_cons_zero, List.set_cons_succ])
              refine step_one 1 rfl (by kernel_rfl) (fun K hK => ?_)
              clear hHeld
              go_simp
              refine (HPM.out _).mono ?_
              rintro e wy2 ⟨rfl, hb⟩
              replace HM := Lib.hid (show Lows w [blkL P2 58 s.cells, blkL P1 27 s.cells, keysL Try.prog 60 4 GM m S] wy2 from HM.out.below hb)
              clear hb
              go_wp2_with fail
              refine hK.out _ _ (HM.out) (fun hHeld => ?_)
              clear hK K
              (try simp only [Act.put, List.setIfInBounds_toArray, List.set_cons_zero, List.set_cons_succ])
              refine take_first (v := ?_) 2 rfl (by kernel_rfl) (by kernel_rfl) (by kernel_rfl) (fun _ _ _ h => h) (Or.inl ⟨by rfl, ?_⟩) (by assumption) ?_
              rotate_left
              · (intro w hSw; (try dsimp only at hSw); go_simp; try with_reducible rfl)
              (try simp only [Act.put, List.setIfInBounds_toArray, List.set_cons_zero, List.set_cons_succ])
              refine take_first (v := ?_) 3 rfl (by kernel_rfl) (by kernel_rfl) (by kernel_rfl) (fun _ _ _ h => h) (Or.inl ⟨by rfl, ?_⟩) (by assumption) ?_
              rotate_left
              · (intro w hSw; (try dsimp only at hSw); go_simp; try with_reducible rfl)
              (try simp only [Act.put, List.setIfInBounds_toArray, List.set_cons_zero, List.set_cons_succ])
              refine take_first (v := ?_) 4 rfl (by kernel_rfl) (by kernel_rfl) (by kernel_rfl) (fun _ _ _ h => h) (Or.inl ⟨by rfl, ?_⟩) (by assumption) ?_
              rotate_left
              · (intro w hSw; (try dsimp only at hSw); go_simp; try with_reducible rfl)
              (try simp only [Act.put, List.setIfInBounds_toArray, List.set_cons_zero, List.set_cons_succ])
              refine take_first (v := .agg sc) 5 rfl (by kernel_rfl) (by kernel_rfl) (by kernel_rfl) (fun _ _ _ h => h) (by rw [← HSC.out]; exact yields_load_obj (by rfl) 58 (.tmp 6) rfl P2 0 rfl s.cells (fun w' hb => (Lows.blk hb 0 rfl).all) _ Try.underlying58 rfl (timerw_cellsOf s HOK.out)) (by assumption) ?_
              (try simp only [Act.put, List.setIfInBounds_toArray, List.set_cons_zero, List.set_cons_succ])
              refine step_one 6 rfl (by kernel_rfl) (fun K hK => ?_)
              clear hHeld
              go_simp
              refine (HPU.out _).mono ?_
              rintro e wy3 ⟨rfl, hb⟩
              replace HM := Lib.hid (show Lows w [blkL P2 58 s.cells, blkL P1 27 s.cells, keysL Try.prog 60 4 GM m S] wy3 from HM.out.below hb)
              clear hb
              go_wp2_with fail
              refine hK.out _ _ (HM.out) (fun hHeld => ?_)
              clear hK K
              (try simp only [Act.put, List.setIfInBounds_toArray, List.set_cons_zero, List.set_cons_succ])
              refine take_first (v := ?_) 7 rfl (by kernel_rfl) (by kernel_rfl) (by kernel_rfl) (fun _ _ _ h => h) (Or.inl ⟨by rfl, ?_⟩) (by assumption) ?_
              rotate_left
              · (intro w hSw; (try dsimp only at hSw); have hr := HLK.out _ (Lows.get hSw (f := keysL Try.prog 60 4 GM m S) 2 rfl); go_simp; try with_reducible rfl)
              (try simp only [Act.put, List.setIfInBounds_toArray, List.set_cons_zero, List.set_cons_succ])
              refine take_first (v := ?_) 8 rfl (by kernel_rfl) (by kernel_rfl) (by kernel_rfl) (fun _ _ _ h => h) (Or.inl ⟨by rfl, ?_⟩) (by assumption) ?_
              rotate_left
              · (intro w hSw; (try dsimp only at hSw); go_simp; try with_reducible rfl)
              (try simp only [Act.put, List.setIfInBounds_toArray, List.set_cons_zero, List.set_cons_succ])
              refine take_first (v := ?_) 9 rfl (by kernel_rfl) (by kernel_rfl) (by kernel_rfl) (fun _ _ _ h => h) (Or.inl ⟨by rfl, ?_⟩) (by assumption) ?_
              rotate_left
              · (intro w hSw; (try dsimp only at hSw); go_simp; try with_reducible rfl)
              (try simp only [Act.put, List.setIfInBounds_toArray, List.set_cons_zero, List.set_cons_succ])
              refine take_first (v := ?_) 10 rfl (by kernel_rfl) (by kernel_rfl) (by kernel_rfl) (fun _ _ _ h => h) (Or.inl ⟨by rfl, ?_⟩) (by assumption) ?_
              rotate_left
              · (intro w hSw; (try dsimp only at hSw); go_simp; try with_reducible rfl)
              (try simp only [Act.put, List.setIfInBounds_toArray, List.set_cons_zero, List.set_cons_succ])
              refine take_first (v := ?_) 11 rfl (by kernel_rfl) (by kernel_rfl) (by kernel_rfl) (fun _ _ _ h => h) (Or.inl ⟨by rfl, ?_⟩) (by assumption) ?_
              rotate_left
              · (intro w hSw; (try dsimp only at hSw); go_simp; try with_reducible rfl)
              (try simp only [Act.put, List.setIfInBounds_toArray, List.set_cons_zero, List.set_cons_succ])
              refine take_first (v := ?_) 12 rfl (by kernel_rfl) (by kernel_rfl) (by kernel_rfl) (fun _ _ _ h => h) (Or.inl ⟨by rfl, ?_⟩) (by assumption) ?_
              rotate_left
              · (intro w hSw; (try dsimp only at hSw); go_simp; try with_reducible rfl)
              (try simp only [Act.put, List.setIfInBounds_toArray, List.set_cons_zero, List.set_cons_succ])
              refine take_first (v := ?_) 13 rfl (by kernel_rfl) (by kernel_rfl) (by kernel_rfl) (fun _ _ _ h => h) (Or.inl ⟨by rfl, ?_⟩) (by assumption) ?_
              rotate_left
              · (intro w hSw; (try dsimp only at hSw); go_simp; try with_reducible rfl)
              (try simp only [Act.put, List.setIfInBounds_toArray, List.set_cons_zero, List.set_cons_succ])
              refine take_first (v := ?_) 14 rfl (by kernel_rfl) (by kernel_rfl) (by kernel_rfl) (fun _ _ _ h => h) (Or.inl ⟨by rfl, ?_⟩) (by assumption) ?_
              rotate_left
              · (intro w hSw; (try dsimp only at hSw); go_simp; try with_reducible rfl)
              (try simp only [Act.put, List.setIfInBounds_toArray, List.set_cons_zero, List.set_cons_succ])
              refine take_first (v := ?_) 15 rfl (by kernel_rfl) (by kernel_rfl) (by kernel_rfl) (fun _ _ _ h => h) (Or.inl ⟨by rfl, ?_⟩) (by assumption) ?_
              rotate_left
              · (intro w hSw; (try dsimp only at hSw); go_simp; try with_reducible rfl)
              (try simp only [Act.put, List.setIfInBounds_toArray, List.set_cons_zero, List.set_cons_succ])
              refine take_first (v := ?_) 16 rfl (by kernel_rfl) (by kernel_rfl) (by kernel_rfl) (fun _ _ _ h => h) (Or.inl ⟨by rfl, ?_⟩) (by assumption) ?_
              rotate_left
              · (intro w hSw; (try dsimp only at hSw); go_simp; try with_reducible rfl)
              (try simp only [Act.put, List.setIfInBounds_toArray, List.set_cons_zero, List.set_cons_succ])
              refine take_first (v := .agg qc) 17 rfl (by kernel_rfl) (by kernel_rfl) (by kernel_rfl) (fun _ _ _ h => h) (by rw [← HQC.out]; exact yields_load_obj (by rfl) 27 (.tmp 33) rfl b _ rfl q.cells (fun w' hb => HLQ.out w' hb.bel) _ Try.underlying27 rfl (timer_cellsOf q HOQ.out)) (by assumption) ?_
              (try simp only [Act.put, List.setIfInBounds_toArray, List.set_cons_zero, List.set_cons_succ])
              refine take_first (v := .agg sc) 18 rfl (by kernel_rfl) (by kernel_rfl) (by kernel_rfl) (fun _ _ _ h => h) (by rw [← HSC.out]; exact yields_load_obj (by rfl) 27 (.tmp 5) rfl P1 0 rfl s.cells (fun w' hb => (Lows.blk hb 1 rfl).all) _ Try.underlying27 rfl (timer_cellsOf s HOK.out)) (by assumption) ?_
              (try simp only [Act.put, List.setIfInBounds_toArray, List.set_cons_zero, List.set_cons_succ])
              refine step_one 19 rfl (by kernel_rfl) (fun K hK => ?_)
              clear hHeld
              go_simp
              refine (HLC.out _ HOQ.out HOK.out).mono ?_
              rintro e wy4 ⟨rfl, hb⟩
              replace HM := Lib.hid (show Lows w [blkL P2 58 s.cells, blkL P1 27 s.cells, keysL Try.prog 60 4 GM m S] wy4 from HM.out.below hb)
              clear hb
              go_wp2_with fail
              refine hK.out _ _ (HM.out) (fun hHeld => ?_)
              clear hK K
              (try simp only [Act.put, List.setIfInBounds_toArray, List.set_cons_zero, List.set_cons_succ])
              refine take_first (v := ?_) 20 rfl (by kernel_rfl) (by kernel_rfl) (by kernel_rfl) (fun _ _ _ h => h) (Or.inl ⟨by rfl, ?_⟩) (by assumption) ?_
              rotate_left
              · (intro w hSw; (try dsimp only at hSw); go_simp; try with_reducible rfl)
              (try simp only [Act.put, List.setIfInBounds_toArray, List.set_cons_zero, List.set_cons_succ])
              refine take_first (v := ?_) 21 rfl (by kernel_rfl) (by kernel_rfl) (by kernel_rfl) (fun _ _ _ h => h) (Or.inl ⟨by rfl, ?_⟩) (by assumption) ?_
              rotate_left
              · (intro w hSw; (try dsimp only at hSw); go_simp; try with_reducible rfl)
              (try simp only [Act.put, List.setIfInBounds_toArray, List.set_cons_zero, List.set_cons_succ])
              refine take_first (v := ?_) 22 rfl (by kernel_rfl) (by kernel_rfl) (by kernel_rfl) (fun _ _ _ h => h) (Or.inl ⟨by rfl, ?_⟩) (by assumption) ?_
              rotate_left
              · (intro w hSw; (try dsimp only at hSw); go_simp; try with_reducible rfl)
              (try simp only [Act.put, List.setIfInBounds_toArray, List.set_cons_zero, List.set_cons_succ])
              refine wpAnyH_done (by kernel_rfl) ?_ _
              clear hHeld
              have HX := Lib.hid (show Blk wy4 P2 58 s.cells ∧ KeysAt Try.prog 60 4 wy4 GM m S ∧ Below w.heap.size w wy4 from ⟨HM.out.blk 0 rfl, HM.out.get (f := keysL Try.prog 60 4 GM m S) 2 rfl, HM.out.bel⟩)
              clear HM
              go_wp2_with (refine wpList_load_obj rfl 58 (.tmp 6) rfl P2 0 rfl s.cells HX.out.1.all _ Try.underlying58 rfl (timerw_cellsOf s HOK.out) ?_; rw [HSC.out])
              refine (HPU.out _).mono ?_
              rintro e w7 ⟨rfl, hb⟩
              have HK7 := Lib.hid (show KeysAt Try.prog 60 4 w7 GM m S from (keysL Try.prog 60 4 GM m S).keep _ _ hb HX.out.2.1)
              have HB7 := Lib.hid (HX.out.2.2.trans (hb.mono HX.out.2.2.size))
              clear hb HX
              go_wp2_with (refine wpList_update_keys rfl (.tmp 40) (.tmp 42) (.const (.bool true)) 56 rfl 60 4 pur_keyed Try.underlying56 Try.underlying4 GM m S rfl HK7.out (by unfold maxLen; have := HMJ.out; omega) (.agg pc) (purLit s.peer s.kind) HKY.out rfl rfl ?_; intro w8 hk8 hg8)
              have HW8 := Lib.hid (show KeysAt Try.prog 60 4 w8 GM (m + 1) (purLit s.peer s.kind :: S) ∧ Below w.heap.size w w8 from ⟨hk8, HB7.out.grown hg8 HB7.out.size (fun k hk => by injection hk with hk; have := HGM.out; omega)⟩)
              clear hk8 hg8 HK7 HB7
              go_roundw
              case rel => exact ⟨j + 1, m + 1, purLit s.peer s.kind :: S, by omega, by go_num, by have := HMJ.out; omega, HG.out, HSNX.out, HW8.out.1, HW8.out.2⟩
              case measure => simp [intOf] <;> omega
    · obtain rfl : j = n := by omega
      have d1 : decide ((j : Int) < (j : Int)) = false := by simp
      have HX := Lib.hid (show validT l = true from allT_good (by rw [HA.out.len]; exact HS.out))
      have HF := Lib.hid HW.out
      clear HW HS HKA HKS
      go_wp2
      go_ret
      exact ⟨by rw [HX.out]; rfl, HF.out⟩
end Go.Proofs.Ytffeecaidkeepaa
namespace Go.Proofs.Ytffeecaidkeepaa
open Go.RowKit

theorem wh_sets_walk_all (w : World) (A : Option Addr) (n c : Nat) (l : List UInt8) (x p q : Nat) (hnc : n ≤ c) (hcm : c ≤ maxLen) (hr : Rd w w.heap.size A n l) (hx : x ≤ 65535) (hp : p ≤ 255) (hq : q ≤ 255) :
    Calls Try.prog 5 #[.slice A n c, .int .u16 (x : Int), .int .u8 (p : Int), .int .u8 (q : Int)] w fun e w' => e = .returned (.bool true) ∧ Below w.heap.size w w' :=
  wh_sets_walk whSetC whCancelC whHasC whValidC w A n c l x p q hnc hcm hr hx hp hq
end Go.Proofs.Ytffeecaidkeepaa
