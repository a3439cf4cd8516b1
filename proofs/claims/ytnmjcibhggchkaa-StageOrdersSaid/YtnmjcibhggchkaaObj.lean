/-
  Structs and arrays in memory: loads and stores of a whole one at an offset, and that one is found equal to itself. No statement is proved here.
-/
import Derived.Test.YtnmjcibhggchkaaTwoRows
import Derived.DeepKeys
namespace Go.Proofs.Ytnmjcibhggchkaa
open Go.RowKit

/-- a struct or an array -/
def isObj (d : TypeDesc) : Bool := match d with | .struct _ | .array _ _ => true | _ => false
/-- the cells at an address -/
def At (w : World) (g off : Nat) (cs : List Value) : Prop := ∀ j v, cs[j]? = some v → w.cell? ⟨g, off + j, none⟩ = some v
theorem Blk.sub {w : World} {g : Nat} {t : TypeId} {xs : List Value} (h : Blk w g t xs) (off n : Nat) : At w g off ((xs.drop off).take n) := fun j v hv => by
  rw [h.cell]
  rw [List.getElem?_take] at hv
  split at hv
  · rwa [List.getElem?_drop] at hv
  · cases hv
theorem Blk.all {w : World} {g : Nat} {t : TypeId} {xs : List Value} (h : Blk w g t xs) : At w g 0 xs := fun j v hv => by
  rw [Nat.zero_add, h.cell]; exact hv
theorem Rd.byt {w : World} {B b off n : Nat} {l : List UInt8} (h : Rd w B (some ⟨b, off, none⟩) n l) (j : Nat) (hj : j < n) : w.cell? ⟨b, off + j, none⟩ = some (.int .u8 ((l.getD j 0).toNat : Int)) := by
  obtain ⟨b', off', e, _, hc⟩ := h.at_ (by omega)
  injection e with e
  injection e with e1 e2
  subst e1
  subst e2
  rw [hc j (by rw [h.1]; exact hj), List.getD_eq_getElem?_getD, List.getElem?_eq_getElem (by rw [h.1]; exact hj)]
  rfl
theorem run_load_obj {P : Program} (w : World) (g off : Nat) (ty : TypeId) (cs : List Value) (hc : At w g off cs) (d : TypeDesc) (hu : P.underlying ty = some d) (hd : isObj d = true) (hi : (P.info? ty).map (·.size) = some cs.length) :
    (loadVar ty ⟨g, off, none⟩).run P w = .ok (.agg cs.toArray) w := by
  have hl := run_loadCells_list (P := P) w ⟨g, off, none⟩ cs (fun j v hv => by
    rw [Go.WideShapes.add_plain]
    exact hc j v hv)
  cases hq : P.info? ty with
  | none => simp [hq] at hi
  | some i =>
    have hs : i.size = cs.length := by simpa [hq] using hi
    have hagg : (isAgg ty).run P w = .ok true w := by
      unfold isAgg
      rw [Sem.run_bind, run_underlying hu w]
      cases d <;> simp_all [isObj]
    simp [loadVar, Sem.run_bind, hagg, sizeOf, typeInfo, hq, hs, hl]
theorem wpList_load_obj {P : Program} {w : World} {ops : Array Oper} {rest : List Oper} {o : Oper} {a : Act} {Q : Exit → Act → World → Prop} (hgd : o.guard = none) (ty : TypeId) (x : Operand) (ho : o.op = .load ty x)
    (g off : Nat) (hx : a.eval x = .pointer (some ⟨g, off, none⟩)) (cs : List Value) (hc : At w g off cs) (d : TypeDesc) (hu : P.underlying ty = some d) (hd : isObj d = true) (hi : (P.info? ty).map (·.size) = some cs.length)
    (h : wpList P ops Q rest (a.put o.dst (.agg cs.toArray)) w) : wpList P ops Q (o :: rest) a w :=
  wpList_plain hgd fun K hK => by
    unfold Oper.wp execOp
    simp only [ho, hx, Instr.loadAt, Instr.sureAddr, Sem.run_bind, Sem.run_pure, Result.andThen_ok, run_load_obj w g off ty cs hc d hu hd hi]
    exact hK _ _ h
theorem wpList_load_obj_g {P : Program} {w : World} {ops : Array Oper} {rest : List Oper} {o : Oper} {a : Act} {Q : Exit → Act → World → Prop} (hw : Region.wanted o (yielded ops a.tmps) = true) (ty : TypeId) (x : Operand) (ho : o.op = .load ty x)
    (g off : Nat) (hx : a.eval x = .pointer (some ⟨g, off, none⟩)) (cs : List Value) (hc : At w g off cs) (d : TypeDesc) (hu : P.underlying ty = some d) (hd : isObj d = true) (hi : (P.info? ty).map (·.size) = some cs.length)
    (h : wpList P ops Q rest (a.put o.dst (.agg cs.toArray)) w) : wpList P ops Q (o :: rest) a w :=
  wpList_step fun K hK => by
    rw [if_pos hw]
    unfold Oper.wp execOp
    simp only [ho, hx, Instr.loadAt, Instr.sureAddr, Sem.run_bind, Sem.run_pure, Result.andThen_ok, run_load_obj w g off ty cs hc d hu hd hi]
    exact hK _ _ h
theorem step_load_obj {P : Program} {w : World} {ops : Array Oper} {o : Oper} {a : Act} {K : Act → World → Prop} {Q : Exit → Act → World → Prop} {E : Prop} (hgd : o.guard = none) (ty : TypeId) (x : Operand) (ho : o.op = .load ty x)
    (g off : Nat) (hx : a.eval x = .pointer (some ⟨g, off, none⟩)) (cs : List Value) (hc : At w g off cs) (d : TypeDesc) (hu : P.underlying ty = some d) (hd : isObj d = true) (hi : (P.info? ty).map (·.size) = some cs.length)
    (h : K (a.put o.dst (.agg cs.toArray)) w) : if Region.wanted o (yielded ops a.tmps) = true then Oper.wp P o a w K Q else E := by
  have hw : Region.wanted o (yielded ops a.tmps) = true := by simp [Region.wanted, hgd]
  rw [if_pos hw]
  unfold Oper.wp execOp
  simp only [ho, hx, Instr.loadAt, Instr.sureAddr, Sem.run_bind, Sem.run_pure, Result.andThen_ok, run_load_obj w g off ty cs hc d hu hd hi]
  exact h
theorem yields_load_obj {P : Program} {ops : Array Oper} {S : World → Prop} {o : Oper} {a : Act} (hw : Region.wanted o (yielded ops a.tmps) = true) (ty : TypeId) (x : Operand) (ho : o.op = .load ty x)
    (g off : Nat) (hx : a.eval x = .pointer (some ⟨g, off, none⟩)) (cs : List Value) (hS : ∀ w, S w → At w g off cs) (d : TypeDesc) (hu : P.underlying ty = some d) (hd : isObj d = true) (hi : (P.info? ty).map (·.size) = some cs.length) :
    YieldsIf P ops S o (.agg cs.toArray) a := by
  refine .inl ⟨hw, fun w h => ?_⟩
  unfold execOp
  simp only [ho, hx, Instr.loadAt, Instr.sureAddr, Sem.run_bind, Sem.run_pure, Result.andThen_ok, run_load_obj w g off ty cs (hS w h) d hu hd hi]
/-- what lies at off of a list is replaced -/
def setL {α : Type} (l : List α) (off : Nat) (xs : List α) : List α := l.take off ++ xs ++ l.drop (off + xs.length)
theorem run_store_obj {P : Program} (w : World) (g off : Nat) (t ty : TypeId) (old cs : List Value) (hg : Blk w g t old) (hi : (P.info? ty).map (·.size) = some cs.length) (ho : off + cs.length ≤ old.length) (h1 : ∀ v ∈ cs, v.oneCell' = true) :
    ∃ w', (storeVar ty ⟨g, off, none⟩ (.agg cs.toArray)).run P w = .ok () w' ∧ Blk w' g t (setL old off cs) ∧ w.grownBy w' (some g) := by
  have hst := run_storeCells_at P g off t cs 0 old.toArray w hg (by simpa using ho) h1
  rw [Nat.add_zero] at hst
  refine ⟨w.setRow g (old.toArray.toList.take off ++ cs ++ old.toArray.toList.drop (off + cs.length)).toArray, ?_, ?_, ⟨rfl, rfl, rfl, by simp, fun k _ hk => setRow_other w g k _ (fun e => hk (by simp [e]))⟩⟩
  · cases hq : P.info? ty with
    | none => simp [hq] at hi
    | some i =>
      have hs : cs.length = i.size := by simp [hq] at hi; omega
      simp [storeVar, sizeOf, typeInfo, hq, Value.cells, hs]
      simpa [hs] using hst
  · exact setRow_heap w g old.toArray _ t _ hg
theorem wpList_store_obj {P : Program} {w : World} {ops : Array Oper} {rest : List Oper} {o : Oper} {a : Act} {Q : Exit → Act → World → Prop} (hgd : o.guard = none) (ty : TypeId) (x y : Operand) (ho : o.op = .store ty x y)
    (g off : Nat) (cs : List Value) (hx : a.eval x = .pointer (some ⟨g, off, none⟩)) (hy : a.eval y = .agg cs.toArray)
    (t : TypeId) (old : List Value) (hg : Blk w g t old) (hi : (P.info? ty).map (·.size) = some cs.length) (hold : off + cs.length ≤ old.length) (h1 : ∀ v ∈ cs, v.oneCell' = true)
    (h : ∀ w', Blk w' g t (setL old off cs) → w.grownBy w' (some g) → wpList P ops Q rest (a.put o.dst undef) w') : wpList P ops Q (o :: rest) a w := by
  refine wpList_plain hgd fun K hK => ?_
  obtain ⟨w', hrun, h2, h3⟩ := run_store_obj (P := P) w g off t ty old cs hg hi hold h1
  unfold Oper.wp execOp
  simp only [ho, hx, hy, Instr.storeAt, Instr.sureAddr, Sem.run_bind, Sem.run_pure, Result.andThen_ok, hrun]
  exact hK _ _ (h w' h2 h3)
theorem step_store_obj {P : Program} {w : World} {ops : Array Oper} {o : Oper} {a : Act} {K : Act → World → Prop} {Q : Exit → Act → World → Prop} {E : Prop} (hgd : o.guard = none) (ty : TypeId) (x y : Operand) (ho : o.op = .store ty x y)
    (g off : Nat) (cs : List Value) (hx : a.eval x = .pointer (some ⟨g, off, none⟩)) (hy : a.eval y = .agg cs.toArray)
    (t : TypeId) (old : List Value) (hg : Blk w g t old) (hi : (P.info? ty).map (·.size) = some cs.length) (hold : off + cs.length ≤ old.length) (h1 : ∀ v ∈ cs, v.oneCell' = true)
    (h : ∀ w', Blk w' g t (setL old off cs) → w.grownBy w' (some g) → K (a.put o.dst undef) w') : if Region.wanted o (yielded ops a.tmps) = true then Oper.wp P o a w K Q else E := by
  have hw : Region.wanted o (yielded ops a.tmps) = true := by simp [Region.wanted, hgd]
  rw [if_pos hw]
  obtain ⟨w', hrun, h2, h3⟩ := run_store_obj (P := P) w g off t ty old cs hg hi hold h1
  unfold Oper.wp execOp
  simp only [ho, hx, hy, Instr.storeAt, Instr.sureAddr, Sem.run_bind, Sem.run_pure, Result.andThen_ok, hrun]
  exact h w' h2 h3
/-- one result that lies in a block of its own -/
theorem results_obj {P : Program} {fn : Func} {p : Tmp} {ty : TypeId} (h : fn.results = #[.cell p ty]) (tmps : Array Value) (w : World) (g : Nat) (t : TypeId) (cs : List Value) (d : TypeDesc)
    (hp : tmps.getD p undef = .pointer (some ⟨g, 0, none⟩)) (hg : Blk w g t cs) (hu : P.underlying ty = some d) (hd : isObj d = true) (hi : (P.info? ty).map (·.size) = some cs.length) :
    (results fn tmps).run P w = .ok (.agg cs.toArray) w := by
  refine results_cell_row h tmps w g t cs.toArray (0, 0) d hp hg hu ?_ (by simpa using hi)
  cases d <;> simp_all [isObj]
/-! ### a struct or an array that is built of parts: zs are the zero parts, one behind the other -/
theorem results_obj_tmp {P : Program} {fn : Func} {p q : Tmp} {ty : TypeId} (h : fn.results = #[.cell p ty, .tmp q]) (tmps : Array Value) (w : World) (g : Nat) (t : TypeId) (cs : List Value) (d : TypeDesc)
    (hp : tmps.getD p undef = .pointer (some ⟨g, 0, none⟩)) (hg : Blk w g t cs) (hu : P.underlying ty = some d) (hd : isObj d = true) (hi : (P.info? ty).map (·.size) = some cs.length) :
    (results fn tmps).run P w = .ok (.tuple #[.agg cs.toArray, tmps.getD q undef]) w := by
  have hp' : tmps[p]?.getD undef = .pointer (some ⟨g, 0, none⟩) := by simpa using hp
  simp [results, h, hp', asAddr, run_load_obj w g 0 ty cs hg.all d hu hd hi]
theorem yields_build_obj {P : Program} {ops : Array Oper} {S : World → Prop} {o : Oper} {a : Act} (hw : Region.wanted o (yielded ops a.tmps) = true) (t : TypeId) (parts : List (Nat × Operand)) (ho : o.op = .build t parts.toArray) (v : Array Value)
    (hb : P.built t (parts.map fun p => (p.1, a.eval p.2)) = some v) : YieldsIf P ops S o (.agg v) a := by
  refine Or.inl ⟨hw, fun w _ => ?_⟩
  have e : (parts.toArray.map fun (i, x) => (i, a.eval x)).toList = parts.map fun p => (p.1, a.eval p.2) := by simp
  have hr := run_build (P := P) w t (parts.toArray.map fun (i, x) => (i, a.eval x)) v (by rw [e]; exact hb)
  simp only [execOp, ho, Sem.run_bind, hr, Result.andThen_ok, Sem.run_pure]
theorem fill_seg (place : Nat → Option (Nat × Nat)) (segs : List (List Value)) (i : Nat) (hi : i < segs.length) (v : Value) (rest : List (Nat × Value)) (hp : place i = some ((segs.take i).flatten.length, segs[i].length)) (hv : v.cells.size = segs[i].length) :
    Instr.fill place segs.flatten.toArray ((i, v) :: rest) = Instr.fill place (segs.set i v.cells.toList).flatten.toArray rest := by
  have hs : segs = segs.take i ++ (segs[i] :: segs.drop (i + 1)) := by rw [← List.drop_eq_getElem_cons hi, List.take_append_drop]
  have hfl : segs.flatten = (segs.take i).flatten ++ (segs[i] ++ (segs.drop (i + 1)).flatten) := by
    conv => lhs; rw [hs]
    rw [List.flatten_append, List.flatten_cons]
  have hA := foldl_set_list (segs.take i).flatten.length v.cells.toList 0 segs.flatten.toArray (by rw [hfl]; simp [hv])
  simp only [Instr.fill, hp]
  refine (if_neg (two_tests (fun hne => hne hv) (fun hlt : (segs.take i).flatten.length + v.cells.size > segs.flatten.toArray.size => by rw [hfl] at hlt; simp [hv] at hlt; omega))).trans ?_
  congr 1
  apply Array.ext'
  rw [← Array.foldl_toList]
  simp only [Array.toList_zipIdx]
  rw [hA]
  have hset : (segs.set i v.cells.toList).flatten = (segs.take i).flatten ++ (v.cells.toList ++ (segs.drop (i + 1)).flatten) := by
    rw [List.set_eq_take_append_cons_drop, if_pos hi, List.flatten_append, List.flatten_cons]
  have hl : v.cells.toList.length = segs[i].length := by rw [Array.length_toList, hv]
  rw [hset]
  simp only [Nat.add_zero]
  rw [hfl, List.take_left, hl, ← List.drop_drop, List.drop_left, List.drop_left, List.append_assoc]
theorem sum_len : ∀ l : List (List Value), l.flatten.length = (l.map List.length).sum
  | [] => rfl
  | x :: l => by rw [List.flatten_cons, List.length_append, sum_len l, List.map_cons, List.sum_cons]
theorem fill_segs (place : Nat → Option (Nat × Nat)) (lens : List Nat) (hp : ∀ i, (h : i < lens.length) → place i = some ((lens.take i).sum, lens[i])) : ∀ (parts : List (Nat × Value)) (segs : List (List Value)), segs.map List.length = lens → (∀ p ∈ parts, lens[p.1]? = some p.2.cells.size) →
    Instr.fill place segs.flatten.toArray parts = some (parts.foldl (fun s p => s.set p.1 p.2.cells.toList) segs).flatten.toArray
  | [], segs, _, _ => rfl
  | (i, v) :: parts, segs, hl, hc => by
    have h0 := hc (i, v) (by simp)
    obtain ⟨hi, he⟩ := List.getElem?_eq_some_iff.1 h0
    have hi2 : i < segs.length := by rw [← hl, List.length_map] at hi; exact hi
    have hsi : segs[i].length = lens[i] := by subst hl; simp
    rw [fill_seg place segs i hi2 v parts (by rw [hp i hi, sum_len, List.map_take, hl, hsi]) (by rw [hsi, he])]
    rw [fill_segs place lens hp parts (segs.set i v.cells.toList) (by
      rw [List.map_set, hl, Array.length_toList]
      apply List.ext_getElem?
      intro j
      rw [List.getElem?_set]
      split
      · rename_i hj; subst hj; exact h0.symm
      · rfl) (fun p hp' => hc p (by simp [hp'])), List.foldl_cons]
/-- what is built: the parts in place of the zero ones -/
theorem built_of {P : Program} (t : TypeId) (lens : List Nat) (zs : List (List Value)) (hz : zs.map List.length = lens) (places : Array (Nat × Nat)) (hb : ∀ parts, P.built t parts = Instr.fill (places[·]?) zs.flatten.toArray parts) (hp : ∀ i, (h : i < lens.length) → places[i]? = some ((lens.take i).sum, lens[i])) (parts : List (Nat × Value)) (hc : ∀ p ∈ parts, lens[p.1]? = some p.2.cells.size) :
    P.built t parts = some (parts.foldl (fun s p => s.set p.1 p.2.cells.toList) zs).flatten.toArray := by
  rw [hb, fill_segs _ lens hp parts zs hz hc]
/-! ### equality -/
section
variable {P : Program}
def LitsAt (P : Program) (D : Nat) (t : TypeId) (cs : List Value) : Prop := ∃ ls, P.keyLits D t cs = some ls
theorem mapM_some' {α β : Type} {f : α → Option β} : ∀ (l : List α), (∀ a ∈ l, ∃ b, f a = some b) → ∃ bs, l.mapM f = some bs
  | [], _ => ⟨[], rfl⟩
  | a :: l, h => by
    obtain ⟨b, hb⟩ := h a (by simp)
    obtain ⟨bs, hbs⟩ := mapM_some' l fun x hx => h x (by simp [hx])
    exact ⟨b :: bs, by simp [hb, hbs]⟩
theorem lits_bool {D : Nat} {t : TypeId} (h : P.underlying t = some .bool) (b : Bool) : LitsAt P (D + 1) t [.bool b] :=
  ⟨[.bool b], by unfold Program.keyLits; simp only [h]⟩
theorem lits_int {D : Nat} {t : TypeId} {k : IntKind} (h : P.underlying t = some (.int k)) (n : Int) (hn : k.min ≤ n ∧ n ≤ k.max) : LitsAt P (D + 1) t [.int k n] :=
  ⟨[.int k n], by unfold Program.keyLits; simp only [h]; simp [Lit.wf, hn.1, hn.2]⟩
theorem lits_array {D : Nat} {t e : TypeId} {n m : Nat} (h : P.underlying t = some (.array n e)) (he : P.cellsOf e = m) (cs : List Value) (hl : P.cellsOf t = cs.length) (hc : ∀ i, i < n → LitsAt P D e ((cs.drop (i * m)).take m)) : LitsAt P (D + 1) t cs := by
  unfold LitsAt Program.keyLits
  simp only [h]
  subst he
  obtain ⟨bs, hbs⟩ := mapM_some' (f := fun i => P.keyLits D e ((cs.drop (i * P.cellsOf e)).take (P.cellsOf e))) (List.range n) fun i hi => hc i (List.mem_range.1 hi)
  rw [if_pos hl.symm, hbs]
  exact ⟨bs.flatten, rfl⟩
theorem lits_bytes {D : Nat} {t e : TypeId} {n : Nat} (h : P.underlying t = some (.array n e)) (hu : P.underlying e = some (.int .u8)) (he : P.cellsOf e = 1) (l : List UInt8) (hl : l.length = n) (ht : P.cellsOf t = n) : LitsAt P (D + 2) t (l.map u8v) := by
  refine lits_array h he (l.map u8v) (by rw [List.length_map, hl, ht]) (fun i hi => ?_)
  rw [Nat.mul_one, List.drop_eq_getElem_cons (by simpa [hl] using hi)]
  simp only [List.take_succ_cons, List.take_zero, List.getElem_map]
  have := (l[i]'(by omega)).toNat_lt
  exact lits_int hu _ ⟨by simp [IntKind.min, IntKind.signed], by simp [IntKind.max, IntKind.signed, IntKind.bits]; omega⟩
theorem lits_struct {D : Nat} {t : TypeId} {fs : Array Field} (h : P.underlying t = some (.struct fs)) (cs : List Value) (hl : P.cellsOf t = cs.length) (hn : fs.all (·.name != "_") = true) (hc : ∀ f ∈ fs.toList, LitsAt P D f.type ((cs.drop f.offset).take (P.cellsOf f.type))) : LitsAt P (D + 1) t cs := by
  unfold LitsAt Program.keyLits
  simp only [h]
  obtain ⟨bs, hbs⟩ := mapM_some' (f := fun f : Field => P.keyLits D f.type ((cs.drop f.offset).take (P.cellsOf f.type))) fs.toList hc
  rw [if_pos ⟨hl.symm, hn⟩, hbs]
  exact ⟨bs.flatten, rfl⟩
/-- a struct or an array is found equal to itself -/
theorem same_obj (m D : Nat) (t : TypeId) (hm : m ≤ 10000) (hk : P.keyTypeAt m t = true) (cs : List Value) (hl : LitsAt P D t cs) (d : TypeDesc) (hu : P.underlying t = some d) (hd : isObj d = true) (hs : P.cellsOf t = cs.length) (w : World) :
    (Op.equalIn 10000 t (.agg cs.toArray) (.agg cs.toArray)).run P w = .ok true w := by
  obtain ⟨ls, hls⟩ := hl
  have hf : (Value.agg cs.toArray).formed P t = true := by
    cases d <;> simp_all [Value.formed, isObj]
  obtain ⟨r, hr, hiff⟩ := run_equalIn_deep (P := P) (10000 - m) m t hk w D D (.agg cs.toArray) (.agg cs.toArray) ls ls hf hf hls hls
  rw [Nat.sub_add_cancel hm] at hr
  rw [hr, hiff.2 rfl]
end
end Go.Proofs.Ytnmjcibhggchkaa
