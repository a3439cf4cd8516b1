/-
  Structs and arrays in memory: loads and stores of a whole one at an offset, and that one is found equal to itself. Building an array of arrays, stated over a list of its parts. The cells of an address. A byte of an address. What a walk keeps of the memory that it has made: a list of entries, the newest first, each of which speaks of blocks of its own. Pieces of a slice of bytes whose address is not known: what x[i:j] and x[i:] give, and what they read as. The contracts of the reference's sound, bit, width, Valid. The mathematics of routes: what the functions of layer 14 return. No function of the program is named here. The mathematics of configurations: their cells, and what a text of lines stands for. A map from texts to bools that a call makes, as the list of the texts that it holds. No function of the program is named here. Rows of objects of one size that lie one after the other. No function of the program is named here. An object that lies in memory, later. Lists of prefixes that lie in memory. A slice built of one part, and the append of one part to a row of the call's own. Rows of objects: pieces of them, and the append of a row of objects to another one. No function of the program is named here. Words for lists of structs that grow by append. Words for lists of objects of one size that a slice holds: the first one for which a predicate holds, a place that is written, a predicate that is handed on. No function of the program is named here. append of a slice, and of a made one (zeros), onto a row of bytes of the call's own. The parser's state in memory. Facts of memory, each with the blocks that it speaks of, pairwise apart. No function of the program is named here. The cells of a prefix or an endpoint are single values. Rows of prefixes: the zero prefix, single cells, one more prefix. Rows of keys: a slice built of one key, and the append of one key to a row of the call's own. No statement is proved here.
-/
import Derived.DeepKeys
import Derived.Outline
import Derived.Laws.ShiftsVarLaws
import Derived.Deep.DeepCutAuto
import Derived.RegionTactic
import Derived.BigRegion
import Derived.Laws.BitsAllLaws
import Derived.Deep.QuietTactic
import Derived.BigQuiet
import Derived.Lib.SlTrimSet
import Derived.Lib.IndexMore
import Derived.Maps.OwnOps
import Derived.Maps.OwnSet
import Derived.StringKeys
import Derived.Maps.AppendAt
import Derived.Laws.AppendOwnNone
import Derived.Lib.AppendZerosOnto
import Derived.Test.YtcbfchkhbngpkaaGreatDoorConfigReturnsB1
namespace Go.Proofs.YtcbfchkhbngpkaaGreatDoor
open Go.RowKit

/-- a struct or an array -/
def isObj (d : TypeDesc) : Bool := match d with | .struct _ | .array _ _ => true | _ => false
/-- the cells at an address -/
def At (w : World) (g off : Nat) (cs : List Value) : Prop := ∀ j v, cs[j]? = some v → w.cell? ⟨g, off + j, none⟩ = some v
theorem Blk.sub {w : World} {g : Nat} {t : TypeId} {xs : List Value} (h : Blk w g t xs) (off n : Nat) : At w g off ((xs.drop off).take n) := fun j v hv => by
  rw [h.cell]
  rw [List.getElem?_take] at hv
  split at hv
  · rwa [List.getElem?_drop] at hv
  · cases hv
theorem Blk.all {w : World} {g : Nat} {t : TypeId} {xs : List Value} (h : Blk w g t xs) : At w g 0 xs := fun j v hv => by
  rw [Nat.zero_add, h.cell]; exact hv
theorem Rd.byt {w : World} {B b off n : Nat} {l : List UInt8} (h : Rd w B (some ⟨b, off, none⟩) n l) (j : Nat) (hj : j < n) : w.cell? ⟨b, off + j, none⟩ = some (.int .u8 ((l.getD j 0).toNat : Int)) := by
  obtain ⟨b', off', e, _, hc⟩ := h.at_ (by omega)
  injection e with e
  injection e with e1 e2
  subst e1
  subst e2
  rw [hc j (by rw [h.1]; exact hj), List.getD_eq_getElem?_getD, List.getElem?_eq_getElem (by rw [h.1]; exact hj)]
  rfl
theorem run_load_obj {P : Program} (w : World) (g off : Nat) (ty : TypeId) (cs : List Value) (hc : At w g off cs) (d : TypeDesc) (hu : P.underlying ty = some d) (hd : isObj d = true) (hi : (P.info? ty).map (·.size) = some cs.length) :
    (loadVar ty ⟨g, off, none⟩).run P w = .ok (.agg cs.toArray) w := by
  have hl := run_loadCells_list (P := P) w ⟨g, off, none⟩ cs (fun j v hv => by
    rw [Go.WideShapes.add_plain]
    exact hc j v hv)
  cases hq : P.info? ty with
  | none => simp [hq] at hi
  | some i =>
    have hs : i.size = cs.length := by simpa [hq] using hi
    have hagg : (isAgg ty).run P w = .ok true w := by
      unfold isAgg
      rw [Sem.run_bind, run_underlying hu w]
      cases d <;> simp_all [isObj]
    simp [loadVar, Sem.run_bind, hagg, sizeOf, typeInfo, hq, hs, hl]
theorem wpList_load_obj {P : Program} {w : World} {ops : Array Oper} {rest : List Oper} {o : Oper} {a : Act} {Q : Exit → Act → World → Prop} (hgd : o.guard = none) (ty : TypeId) (x : Operand) (ho : o.op = .load ty x)
    (g off : Nat) (hx : a.eval x = .pointer (some ⟨g, off, none⟩)) (cs : List Value) (hc : At w g off cs) (d : TypeDesc) (hu : P.underlying ty = some d) (hd : isObj d = true) (hi : (P.info? ty).map (·.size) = some cs.length)
    (h : wpList P ops Q rest (a.put o.dst (.agg cs.toArray)) w) : wpList P ops Q (o :: rest) a w :=
  wpList_plain hgd fun K hK => by
    unfold Oper.wp execOp
    simp only [ho, hx, Instr.loadAt, Instr.sureAddr, Sem.run_bind, Sem.run_pure, Result.andThen_ok, run_load_obj w g off ty cs hc d hu hd hi]
    exact hK _ _ h
theorem wpList_load_obj_g {P : Program} {w : World} {ops : Array Oper} {rest : List Oper} {o : Oper} {a : Act} {Q : Exit → Act → World → Prop} (hw : Region.wanted o (yielded ops a.tmps) = true) (ty : TypeId) (x : Operand) (ho : o.op = .load ty x)
    (g off : Nat) (hx : a.eval x = .pointer (some ⟨g, off, none⟩)) (cs : List Value) (hc : At w g off cs) (d : TypeDesc) (hu : P.underlying ty = some d) (hd : isObj d = true) (hi : (P.info? ty).map (·.size) = some cs.length)
    (h : wpList P ops Q rest (a.put o.dst (.agg cs.toArray)) w) : wpList P ops Q (o :: rest) a w :=
  wpList_step fun K hK => by
    rw [if_pos hw]
    unfold Oper.wp execOp
    simp only [ho, hx, Instr.loadAt, Instr.sureAddr, Sem.run_bind, Sem.run_pure, Result.andThen_ok, run_load_obj w g off ty cs hc d hu hd hi]
    exact hK _ _ h
theorem yields_load_obj {P : Program} {ops : Array Oper} {S : World → Prop} {o : Oper} {a : Act} (hw : Region.wanted o (yielded ops a.tmps) = true) (ty : TypeId) (x : Operand) (ho : o.op = .load ty x)
    (g off : Nat) (hx : a.eval x = .pointer (some ⟨g, off, none⟩)) (cs : List Value) (hS : ∀ w, S w → At w g off cs) (d : TypeDesc) (hu : P.underlying ty = some d) (hd : isObj d = true) (hi : (P.info? ty).map (·.size) = some cs.length) :
    YieldsIf P ops S o (.agg cs.toArray) a := by
  refine .inl ⟨hw, fun w h => ?_⟩
  unfold execOp
  simp only [ho, hx, Instr.loadAt, Instr.sureAddr, Sem.run_bind, Sem.run_pure, Result.andThen_ok, run_load_obj w g off ty cs (hS w h) d hu hd hi]
/-- what lies at off of a list is replaced -/
def setL {α : Type} (l : List α) (off : Nat) (xs : List α) : List α := l.take off ++ xs ++ l.drop (off + xs.length)
theorem run_store_obj {P : Program} (w : World) (g off : Nat) (t ty : TypeId) (old cs : List Value) (hg : Blk w g t old) (hi : (P.info? ty).map (·.size) = some cs.length) (ho : off + cs.length ≤ old.length) (h1 : ∀ v ∈ cs, v.oneCell' = true) :
    ∃ w', (storeVar ty ⟨g, off, none⟩ (.agg cs.toArray)).run P w = .ok () w' ∧ Blk w' g t (setL old off cs) ∧ w.grownBy w' (some g) := by
  have hst := run_storeCells_at P g off t cs 0 old.toArray w hg (by simpa using ho) h1
  rw [Nat.add_zero] at hst
  refine ⟨w.setRow g (old.toArray.toList.take off ++ cs ++ old.toArray.toList.drop (off + cs.length)).toArray, ?_, ?_, ⟨rfl, rfl, rfl, by simp, fun k _ hk => setRow_other w g k _ (fun e => hk (by simp [e]))⟩⟩
  · cases hq : P.info? ty with
    | none => simp [hq] at hi
    | some i =>
      have hs : cs.length = i.size := by simp [hq] at hi; omega
      simp [storeVar, sizeOf, typeInfo, hq, Value.cells, hs]
      simpa [hs] using hst
  · exact setRow_heap w g old.toArray _ t _ hg
theorem wpList_store_obj {P : Program} {w : World} {ops : Array Oper} {rest : List Oper} {o : Oper} {a : Act} {Q : Exit → Act → World → Prop} (hgd : o.guard = none) (ty : TypeId) (x y : Operand) (ho : o.op = .store ty x y)
    (g off : Nat) (cs : List Value) (hx : a.eval x = .pointer (some ⟨g, off, none⟩)) (hy : a.eval y = .agg cs.toArray)
    (t : TypeId) (old : List Value) (hg : Blk w g t old) (hi : (P.info? ty).map (·.size) = some cs.length) (hold : off + cs.length ≤ old.length) (h1 : ∀ v ∈ cs, v.oneCell' = true)
    (h : ∀ w', Blk w' g t (setL old off cs) → w.grownBy w' (some g) → wpList P ops Q rest (a.put o.dst undef) w') : wpList P ops Q (o :: rest) a w := by
  refine wpList_plain hgd fun K hK => ?_
  obtain ⟨w', hrun, h2, h3⟩ := run_store_obj (P := P) w g off t ty old cs hg hi hold h1
  unfold Oper.wp execOp
  simp only [ho, hx, hy, Instr.storeAt, Instr.sureAddr, Sem.run_bind, Sem.run_pure, Result.andThen_ok, hrun]
  exact hK _ _ (h w' h2 h3)
/-- one result that lies in a block of its own -/
theorem results_obj {P : Program} {fn : Func} {p : Tmp} {ty : TypeId} (h : fn.results = #[.cell p ty]) (tmps : Array Value) (w : World) (g : Nat) (t : TypeId) (cs : List Value) (d : TypeDesc)
    (hp : tmps.getD p undef = .pointer (some ⟨g, 0, none⟩)) (hg : Blk w g t cs) (hu : P.underlying ty = some d) (hd : isObj d = true) (hi : (P.info? ty).map (·.size) = some cs.length) :
    (results fn tmps).run P w = .ok (.agg cs.toArray) w := by
  refine results_cell_row h tmps w g t cs.toArray (0, 0) d hp hg hu ?_ (by simpa using hi)
  cases d <;> simp_all [isObj]
/-! ### a struct or an array that is built of parts: zs are the zero parts, one behind the other -/
theorem results_obj_tmp {P : Program} {fn : Func} {p q : Tmp} {ty : TypeId} (h : fn.results = #[.cell p ty, .tmp q]) (tmps : Array Value) (w : World) (g : Nat) (t : TypeId) (cs : List Value) (d : TypeDesc)
    (hp : tmps.getD p undef = .pointer (some ⟨g, 0, none⟩)) (hg : Blk w g t cs) (hu : P.underlying ty = some d) (hd : isObj d = true) (hi : (P.info? ty).map (·.size) = some cs.length) :
    (results fn tmps).run P w = .ok (.tuple #[.agg cs.toArray, tmps.getD q undef]) w := by
  have hp' : tmps[p]?.getD undef = .pointer (some ⟨g, 0, none⟩) := by simpa using hp
  simp [results, h, hp', asAddr, run_load_obj w g 0 ty cs hg.all d hu hd hi]
theorem fill_seg (place : Nat → Option (Nat × Nat)) (segs : List (List Value)) (i : Nat) (hi : i < segs.length) (v : Value) (rest : List (Nat × Value)) (hp : place i = some ((segs.take i).flatten.length, segs[i].length)) (hv : v.cells.size = segs[i].length) :
    Instr.fill place segs.flatten.toArray ((i, v) :: rest) = Instr.fill place (segs.set i v.cells.toList).flatten.toArray rest := by
  have hs : segs = segs.take i ++ (segs[i] :: segs.drop (i + 1)) := by rw [← List.drop_eq_getElem_cons hi, List.take_append_drop]
  have hfl : segs.flatten = (segs.take i).flatten ++ (segs[i] ++ (segs.drop (i + 1)).flatten) := by
    conv => lhs; rw [hs]
    rw [List.flatten_append, List.flatten_cons]
  have hA := foldl_set_list (segs.take i).flatten.length v.cells.toList 0 segs.flatten.toArray (by rw [hfl]; simp [hv])
  simp only [Instr.fill, hp]
  refine (if_neg (two_tests (fun hne => hne hv) (fun hlt : (segs.take i).flatten.length + v.cells.size > segs.flatten.toArray.size => by rw [hfl] at hlt; simp [hv] at hlt; omega))).trans ?_
  congr 1
  apply Array.ext'
  rw [← Array.foldl_toList]
  simp only [Array.toList_zipIdx]
  rw [hA]
  have hset : (segs.set i v.cells.toList).flatten = (segs.take i).flatten ++ (v.cells.toList ++ (segs.drop (i + 1)).flatten) := by
    rw [List.set_eq_take_append_cons_drop, if_pos hi, List.flatten_append, List.flatten_cons]
  have hl : v.cells.toList.length = segs[i].length := by rw [Array.length_toList, hv]
  rw [hset]
  simp only [Nat.add_zero]
  rw [hfl, List.take_left, hl, ← List.drop_drop, List.drop_left, List.drop_left, List.append_assoc]
theorem sum_len : ∀ l : List (List Value), l.flatten.length = (l.map List.length).sum
  | [] => rfl
  | x :: l => by rw [List.flatten_cons, List.length_append, sum_len l, List.map_cons, List.sum_cons]
theorem fill_segs (place : Nat → Option (Nat × Nat)) (lens : List Nat) (hp : ∀ i, (h : i < lens.length) → place i = some ((lens.take i).sum, lens[i])) : ∀ (parts : List (Nat × Value)) (segs : List (List Value)), segs.map List.length = lens → (∀ p ∈ parts, lens[p.1]? = some p.2.cells.size) →
    Instr.fill place segs.flatten.toArray parts = some (parts.foldl (fun s p => s.set p.1 p.2.cells.toList) segs).flatten.toArray
  | [], segs, _, _ => rfl
  | (i, v) :: parts, segs, hl, hc => by
    have h0 := hc (i, v) (by simp)
    obtain ⟨hi, he⟩ := List.getElem?_eq_some_iff.1 h0
    have hi2 : i < segs.length := by rw [← hl, List.length_map] at hi; exact hi
    have hsi : segs[i].length = lens[i] := by subst hl; simp
    rw [fill_seg place segs i hi2 v parts (by rw [hp i hi, sum_len, List.map_take, hl, hsi]) (by rw [hsi, he])]
    rw [fill_segs place lens hp parts (segs.set i v.cells.toList) (by
      rw [List.map_set, hl, Array.length_toList]
      apply List.ext_getElem?
      intro j
      rw [List.getElem?_set]
      split
      · rename_i hj; subst hj; exact h0.symm
      · rfl) (fun p hp' => hc p (by simp [hp'])), List.foldl_cons]
/-- what is built: the parts in place of the zero ones -/
theorem built_of {P : Program} (t : TypeId) (lens : List Nat) (zs : List (List Value)) (hz : zs.map List.length = lens) (places : Array (Nat × Nat)) (hb : ∀ parts, P.built t parts = Instr.fill (places[·]?) zs.flatten.toArray parts) (hp : ∀ i, (h : i < lens.length) → places[i]? = some ((lens.take i).sum, lens[i])) (parts : List (Nat × Value)) (hc : ∀ p ∈ parts, lens[p.1]? = some p.2.cells.size) :
    P.built t parts = some (parts.foldl (fun s p => s.set p.1 p.2.cells.toList) zs).flatten.toArray := by
  rw [hb, fill_segs _ lens hp parts zs hz hc]
/-! ### equality -/
section
variable {P : Program}
def LitsAt (P : Program) (D : Nat) (t : TypeId) (cs : List Value) : Prop := ∃ ls, P.keyLits D t cs = some ls
theorem mapM_some' {α β : Type} {f : α → Option β} : ∀ (l : List α), (∀ a ∈ l, ∃ b, f a = some b) → ∃ bs, l.mapM f = some bs
  | [], _ => ⟨[], rfl⟩
  | a :: l, h => by
    obtain ⟨b, hb⟩ := h a (by simp)
    obtain ⟨bs, hbs⟩ := mapM_some' l fun x hx => h x (by simp [hx])
    exact ⟨b :: bs, by simp [hb, hbs]⟩
theorem lits_bool {D : Nat} {t : TypeId} (h : P.underlying t = some .bool) (b : Bool) : LitsAt P (D + 1) t [.bool b] :=
  ⟨[.bool b], by unfold Program.keyLits; simp only [h]⟩
theorem lits_int {D : Nat} {t : TypeId} {k : IntKind} (h : P.underlying t = some (.int k)) (n : Int) (hn : k.min ≤ n ∧ n ≤ k.max) : LitsAt P (D + 1) t [.int k n] :=
  ⟨[.int k n], by unfold Program.keyLits; simp only [h]; simp [Lit.wf, hn.1, hn.2]⟩
theorem lits_array {D : Nat} {t e : TypeId} {n m : Nat} (h : P.underlying t = some (.array n e)) (he : P.cellsOf e = m) (cs : List Value) (hl : P.cellsOf t = cs.length) (hc : ∀ i, i < n → LitsAt P D e ((cs.drop (i * m)).take m)) : LitsAt P (D + 1) t cs := by
  unfold LitsAt Program.keyLits
  simp only [h]
  subst he
  obtain ⟨bs, hbs⟩ := mapM_some' (f := fun i => P.keyLits D e ((cs.drop (i * P.cellsOf e)).take (P.cellsOf e))) (List.range n) fun i hi => hc i (List.mem_range.1 hi)
  rw [if_pos hl.symm, hbs]
  exact ⟨bs.flatten, rfl⟩
theorem lits_bytes {D : Nat} {t e : TypeId} {n : Nat} (h : P.underlying t = some (.array n e)) (hu : P.underlying e = some (.int .u8)) (he : P.cellsOf e = 1) (l : List UInt8) (hl : l.length = n) (ht : P.cellsOf t = n) : LitsAt P (D + 2) t (l.map u8v) := by
  refine lits_array h he (l.map u8v) (by rw [List.length_map, hl, ht]) (fun i hi => ?_)
  rw [Nat.mul_one, List.drop_eq_getElem_cons (by simpa [hl] using hi)]
  simp only [List.take_succ_cons, List.take_zero, List.getElem_map]
  have := (l[i]'(by omega)).toNat_lt
  exact lits_int hu _ ⟨by simp [IntKind.min, IntKind.signed], by simp [IntKind.max, IntKind.signed, IntKind.bits]; omega⟩
theorem lits_struct {D : Nat} {t : TypeId} {fs : Array Field} (h : P.underlying t = some (.struct fs)) (cs : List Value) (hl : P.cellsOf t = cs.length) (hn : fs.all (·.name != "_") = true) (hc : ∀ f ∈ fs.toList, LitsAt P D f.type ((cs.drop f.offset).take (P.cellsOf f.type))) : LitsAt P (D + 1) t cs := by
  unfold LitsAt Program.keyLits
  simp only [h]
  obtain ⟨bs, hbs⟩ := mapM_some' (f := fun f : Field => P.keyLits D f.type ((cs.drop f.offset).take (P.cellsOf f.type))) fs.toList hc
  rw [if_pos ⟨hl.symm, hn⟩, hbs]
  exact ⟨bs.flatten, rfl⟩
end
end Go.Proofs.YtcbfchkhbngpkaaGreatDoor
namespace Go.Proofs.YtcbfchkhbngpkaaGreatDoor
open Go.RowKit

theorem wpList_build_as {P : Program} {ops : Array Oper} {rest : List Oper} {o : Oper} {a : Act} {w : World} {Q : Exit → Act → World → Prop} (hg : o.guard = none) (t : TypeId) (parts : List (Nat × Operand)) (ho : o.op = .build t parts.toArray) (v : Array Value)
    (hb : P.built t (parts.map fun p => (p.1, a.eval p.2)) = some v) (h : wpList P ops Q rest (a.put o.dst (.agg v)) w) : wpList P ops Q (o :: rest) a w :=
  have e : (parts.toArray.map fun (i, x) => (i, a.eval x)).toList = parts.map fun p => (p.1, a.eval p.2) := by simp
  wpList_build hg t parts.toArray ho (by rw [e, hb]; rfl) (by rw [e, hb]; exact h)
end Go.Proofs.YtcbfchkhbngpkaaGreatDoor
namespace Go.Proofs.YtcbfchkhbngpkaaGreatDoor
open Go.RowKit

theorem addr_one (b : Bool) (l : List UInt8) : ∀ v ∈ (.bool b :: l.map u8v : List Value), v.oneCell' = true := by
  intro v hv
  rcases List.mem_cons.1 hv with rfl | hv
  · rfl
  · exact u8v_one l v hv
theorem AddrM.one (a : AddrM) : ∀ v ∈ a.cells, v.oneCell' = true := addr_one a.six a.ip
theorem addr_put (b : Bool) (l : List UInt8) : setL (.bool b :: (List.replicate 16 (0 : UInt8)).map u8v) 1 (l.map u8v) = .bool b :: (putL (List.replicate 16 0) 0 l).map u8v := by
  rw [← putL_map, setL, List.length_map, Nat.add_comm]
  simp
theorem addr_cellsOf (a : AddrM) (h : a.ok) : (Tryz.prog.info? 53).map (·.size) = some a.cells.length := by
  rw [AddrM.cells_length h]; kernel_rfl
end Go.Proofs.YtcbfchkhbngpkaaGreatDoor
namespace Go.Proofs.YtcbfchkhbngpkaaGreatDoor
open Go.RowKit

theorem AddrM.ip_cell (a : AddrM) (h : a.ok) (j : Nat) (hj : j < 16) : a.cells[1 + j]? = some (.int .u8 ((a.ip.getD j 0).toNat : Int)) := by
  have hl : j < a.ip.length := by rw [h]; exact hj
  rw [AddrM.cells, Nat.add_comm, List.getElem?_cons_succ, List.getElem?_map, List.getElem?_eq_getElem hl, List.getD_eq_getElem?_getD, List.getElem?_eq_getElem hl]
  rfl
end Go.Proofs.YtcbfchkhbngpkaaGreatDoor
namespace Go.Proofs.YtcbfchkhbngpkaaGreatDoor
open Go.RowKit

/-- a fact that speaks of the blocks from lo to hi only -/
structure Ent where
  lo : Nat
  hi : Nat
  P : World → Prop
  loc : ∀ W W' : World, (∀ k, lo ≤ k → k < hi → W'.heap[k]? = W.heap[k]?) → P W → P W'
/-- a block -/
def blkE (g : Nat) (t : TypeId) (cs : List Value) : Ent := ⟨g, g + 1, fun W => Blk W g t cs, fun W W' h hp => by
  unfold Blk at *
  rw [h g (Nat.le_refl _) (by omega)]
  exact hp⟩
/-- bytes that lie somewhere from lo to hi -/
def RdIn (lo hi : Nat) (A : Option Addr) (n : Nat) (l : List UInt8) (W : World) : Prop :=
  l.length = n ∧ (0 < n → ∃ b off, A = some ⟨b, off, none⟩ ∧ lo ≤ b ∧ b < hi ∧ ∀ j (h : j < l.length), W.cell? ⟨b, off + j, none⟩ = some (.int .u8 (l[j].toNat : Int)))
def rdE (lo hi : Nat) (A : Option Addr) (n : Nat) (l : List UInt8) : Ent := ⟨lo, hi, RdIn lo hi A n l, fun W W' h hp => ⟨hp.1, fun hn => by
  obtain ⟨b, off, e, h1, h2, hc⟩ := hp.2 hn
  exact ⟨b, off, e, h1, h2, fun j hj => (World.cell?_of_block (w := W) (h b h1 h2)).trans (hc j hj)⟩⟩⟩
theorem RdIn.rd {lo hi : Nat} {A : Option Addr} {n : Nat} {l : List UInt8} {W : World} (h : RdIn lo hi A n l W) : Rd W hi A n l :=
  ⟨h.1, fun hn => by
    obtain ⟨b, off, e, _, h2, hc⟩ := h.2 hn
    exact ⟨b, off, e, h2, hc⟩⟩
/-- the entries, each above the one behind it in the list -/
def MemE (b : Nat) : List Ent → Nat → World → Prop
  | [], top, _ => b ≤ top
  | e :: r, top, W => e.hi ≤ top ∧ e.lo ≤ e.hi ∧ e.P W ∧ MemE b r e.lo W
def Mem (w0 : World) (E : List Ent) (W : World) : Prop := MemE w0.heap.size E W.heap.size W ∧ Below w0.heap.size w0 W
theorem MemE.base {b : Nat} : ∀ {E : List Ent} {top : Nat} {W : World}, MemE b E top W → b ≤ top
  | [], _, _, h => h
  | _ :: _, _, _, h => Nat.le_trans (MemE.base h.2.2.2) (Nat.le_trans h.2.1 h.1)
theorem MemE.keep {b : Nat} : ∀ {E : List Ent} {top top' : Nat} {W W' : World}, MemE b E top W → top ≤ top' → (∀ k, b ≤ k → k < top → W'.heap[k]? = W.heap[k]?) → MemE b E top' W'
  | [], _, _, _, _, h, ht, _ => Nat.le_trans h ht
  | e :: _, _, _, W, W', h, ht, hk => ⟨Nat.le_trans h.1 ht, h.2.1, e.loc W W' (fun k h1 h2 => hk k (Nat.le_trans (MemE.base h.2.2.2) h1) (Nat.lt_of_lt_of_le h2 h.1)) h.2.2.1, MemE.keep h.2.2.2 (Nat.le_refl _) (fun k h1 h2 => hk k h1 (Nat.lt_of_lt_of_le h2 (Nat.le_trans h.2.1 h.1)))⟩
theorem MemE.get {b : Nat} : ∀ {E : List Ent} {top : Nat} {W : World}, MemE b E top W → ∀ (i : Nat) (e : Ent), E[i]? = some e → e.P W
  | [], _, _, _, i, _, he => by simp at he
  | x :: r, _, _, h, 0, e, he => by
    have : x = e := by simpa using he
    exact this ▸ h.2.2.1
  | x :: r, _, _, h, i + 1, e, he => MemE.get h.2.2.2 i e (by simpa using he)
/-- a place of the list is written anew, within its own blocks -/
theorem MemE.put {b : Nat} : ∀ {E : List Ent} {top : Nat} {W W' : World}, MemE b E top W → ∀ (i : Nat) (e e' : Ent), E[i]? = some e → e'.lo = e.lo → e'.hi = e.hi → (∀ k, k < top → ¬(e.lo ≤ k ∧ k < e.hi) → W'.heap[k]? = W.heap[k]?) → e'.P W' → MemE b (E.set i e') top W'
  | [], _, _, _, _, i, _, _, he, _, _, _, _ => by simp at he
  | x :: r, top, W, W', h, 0, e, e', he, h1, h2, hk, hp => by
    have hx : x = e := by simpa using he
    subst hx
    refine ⟨by rw [h2]; exact h.1, by rw [h1, h2]; exact h.2.1, hp, ?_⟩
    rw [h1]
    exact MemE.keep h.2.2.2 (Nat.le_refl _) (fun k _ hlt => hk k (Nat.lt_of_lt_of_le hlt (Nat.le_trans h.2.1 h.1)) (fun hh => by omega))
  | x :: r, top, W, W', h, i + 1, e, e', he, h1, h2, hk, hp => by
    have he' : r[i]? = some e := by simpa using he
    have hin : e.hi ≤ x.lo := MemE.under h.2.2.2 i e he'
    exact ⟨h.1, h.2.1, x.loc W W' (fun k h3 h4 => hk k (Nat.lt_of_lt_of_le h4 h.1) (fun hh => by omega)) h.2.2.1, MemE.put h.2.2.2 i e e' he' h1 h2 (fun k hlt => hk k (Nat.lt_of_lt_of_le hlt (Nat.le_trans h.2.1 h.1))) hp⟩
where
  MemE.under {b : Nat} : ∀ {E : List Ent} {top : Nat} {W : World}, MemE b E top W → ∀ (i : Nat) (e : Ent), E[i]? = some e → e.hi ≤ top
  | [], _, _, _, i, _, he => by simp at he
  | x :: r, _, _, h, 0, e, he => by
    have : x = e := by simpa using he
    exact this ▸ h.1
  | x :: r, _, _, h, i + 1, e, he => Nat.le_trans (MemE.under h.2.2.2 i e (by simpa using he)) (Nat.le_trans h.2.1 h.1)
theorem MemE.low {b : Nat} : ∀ {E : List Ent} {top : Nat} {W : World}, MemE b E top W → ∀ (i : Nat) (e : Ent), E[i]? = some e → b ≤ e.lo
  | [], _, _, _, i, _, he => by simp at he
  | x :: r, _, _, h, 0, e, he => by
    have : x = e := by simpa using he
    exact this ▸ MemE.base h.2.2.2
  | x :: r, _, _, h, i + 1, e, he => MemE.low h.2.2.2 i e (by simpa using he)

section
variable {w0 W W' : World} {E : List Ent}
theorem Mem.nil (w0 : World) : Mem w0 [] w0 := ⟨Nat.le_refl _, Below.refl _ _⟩
theorem Mem.bel (h : Mem w0 E W) : Below w0.heap.size w0 W := h.2
theorem Mem.size (h : Mem w0 E W) : w0.heap.size ≤ W.heap.size := h.2.size
theorem Mem.get (h : Mem w0 E W) (i : Nat) {e : Ent} (he : E[i]? = some e) : e.P W := h.1.get i e he
theorem Mem.blk (h : Mem w0 E W) (i : Nat) {g : Nat} {t : TypeId} {cs : List Value} (he : E[i]? = some (blkE g t cs)) : Blk W g t cs := h.1.get i _ he
theorem Mem.rd (h : Mem w0 E W) (i : Nat) {lo hi : Nat} {A : Option Addr} {n : Nat} {l : List UInt8} (he : E[i]? = some (rdE lo hi A n l)) : Rd W W.heap.size A n l :=
  (RdIn.rd (h.1.get i _ he)).mono (MemE.put.MemE.under h.1 i _ he)
theorem Mem.below (h : Mem w0 E W) (hb : Below W.heap.size W W') : Mem w0 E W' := ⟨h.1.keep hb.size (fun k _ hk => hb.block k hk), h.2.trans (hb.mono h.2.size)⟩
theorem Mem.drew (h : Mem w0 E W) : Mem w0 E W.drew := h.below ((Below.refl _ _).drew)
theorem Mem.alloc (h : Mem w0 E W) {g : Nat} (hg : g = W.heap.size) (t : TypeId) (arr : Array Value) (cs : List Value) (ha : arr = cs.toArray) : Mem w0 (blkE g t cs :: E) (W.alloc (.cells arr t)) := by
  subst hg ha
  have hb : Below W.heap.size W (W.alloc (.cells cs.toArray t)) := (Below.refl _ _).alloc (Nat.le_refl _) _
  refine ⟨⟨?_, Nat.le_succ _, Blk.new W t cs, h.1.keep (Nat.le_refl _) (fun k _ hk => hb.block k hk)⟩, h.2.trans (hb.mono h.2.size)⟩
  show W.heap.size + 1 ≤ _
  simp
/-- what a call returns -/
theorem Mem.call (h : Mem w0 E W) (hb : Below W.heap.size W W') (e : Ent) (hl : e.lo = W.heap.size) (hh : e.hi = W'.heap.size) (hp : e.P W') : Mem w0 (e :: E) W' :=
  ⟨⟨by rw [hh]; exact Nat.le_refl _, by rw [hl, hh]; exact hb.size, hp, by rw [hl]; exact h.1.keep (Nat.le_refl _) (fun k _ hk => hb.block k hk)⟩, h.2.trans (hb.mono h.2.size)⟩
/-- a store into one block of the list -/
theorem Mem.put (h : Mem w0 E W) (i : Nat) {g : Nat} {t : TypeId} {cs : List Value} (he : E[i]? = some (blkE g t cs)) (cs' : List Value) (hg : W.grownBy W' (some g)) (hb : Blk W' g t cs') : Mem w0 (E.set i (blkE g t cs')) W' := by
  have hsz := hg.size
  refine ⟨(MemE.put h.1 i _ (blkE g t cs') he rfl rfl (fun k hk hne => hg.block k hk (fun e => hne ?_)) hb).keep hg.size (fun _ _ _ => rfl), ?_⟩
  · injection e with e
    subst e
    exact ⟨Nat.le_refl _, Nat.lt_succ_self _⟩
  · exact Below.grown h.2 hg h.2.size (fun k hk => by injection hk with hk; subst hk; exact MemE.low h.1 i _ he)
theorem Mem.setCell (h : Mem w0 E W) (i : Nat) {g : Nat} {t : TypeId} {cs : List Value} (he : E[i]? = some (blkE g t cs)) (j : Nat) (u : Value) : Mem w0 (E.set i (blkE g t (cs.set j u))) (W.setCell ⟨g, j, none⟩ u) := by
  have hw : W.heap.size ≤ (W.setCell ⟨g, j, none⟩ u).heap.size := by simp [World.setCell]
  refine ⟨(MemE.put h.1 i _ (blkE g t (cs.set j u)) he rfl rfl (fun k hk hne => Below.heap_setCell _ _ _ _ (fun e => hne ?_)) ((h.blk i he).set_ j u)).keep hw (fun _ _ _ => rfl), ?_⟩
  · dsimp only at e
    subst e
    exact ⟨Nat.le_refl _, Nat.lt_succ_self _⟩
  · exact h.2.setCell (MemE.low h.1 i _ he) _
end
/-- the entries lie below B, whatever lies above it -/
def MemB (w0 : World) (B : Nat) (E : List Ent) (W : World) : Prop := MemE w0.heap.size E B W ∧ Below w0.heap.size w0 W ∧ B ≤ W.heap.size
section
variable {w0 W W' : World} {B : Nat} {E : List Ent}
theorem Mem.fix (h : Mem w0 E W) : MemB w0 W.heap.size E W := ⟨h.1, h.2, Nat.le_refl _⟩
theorem MemB.mem (h : MemB w0 B E W) : Mem w0 E W := ⟨h.1.keep h.2.2 (fun _ _ _ => rfl), h.2.1⟩
theorem MemB.below (h : MemB w0 B E W) (hb : Below B W W') : MemB w0 B E W' := ⟨h.1.keep (Nat.le_refl _) (fun k _ hk => hb.block k hk), h.2.1.trans (hb.mono h.1.base), Nat.le_trans h.2.2 hb.size⟩
/-- behind an append to a row that lies above -/
theorem MemB.grown (h : MemB w0 B E W) {v : Value} {e n : Nat} {xs : List Value} (ho : W.ownsRow B e 1 v n xs) (hg : W.grownBy W' v.ownBlock) : MemB w0 B E W' := h.below ((Below.refl _ _).grown hg h.2.2 (own_from ho))
/-- the row that lies above becomes an entry -/
theorem MemB.row (h : MemB w0 B E W) {A : Option Addr} {n c : Nat} {l : List UInt8} (ho : W.ownsRow B 5 1 (.slice A n c) n (l.map u8v)) : Mem w0 (rdE B W.heap.size A n l :: E) W :=
  ⟨⟨Nat.le_refl _, h.2.2, by
    have hr := Rd.of_own ho
    refine ⟨hr.1, fun hn => ?_⟩
    obtain ⟨b, off, e, h1, hc⟩ := hr.2 hn
    subst e
    exact ⟨b, off, rfl, (ho.lt b rfl).1, h1, hc⟩, h.1⟩, h.2.1⟩
end
end Go.Proofs.YtcbfchkhbngpkaaGreatDoor
namespace Go.Proofs.YtcbfchkhbngpkaaGreatDoor
open Go.RowKit

/-- the address behind i elements, as the model keeps it -/
def addrOf (A : Option Addr) (i c : Nat) : Option Addr := if c = i then A else A.map (·.add (i * 1))
theorem Rd.behind {W : World} {B n : Nat} {A : Option Addr} {l : List UInt8} (h : Rd W B A n l) (i c : Nat) (hi : i ≤ n) (hc : n ≤ c) : Rd W B (addrOf A i c) (n - i) (l.drop i) := by
  unfold addrOf
  by_cases e : c = i
  · have e0 : n - i = 0 := by omega
    rw [if_pos e, e0, List.drop_of_length_le (by have := h.1; omega)]
    exact Rd.nil _ _ _
  · rw [if_neg e]
    rcases Nat.eq_zero_or_pos (n - i) with h0 | h0
    · rw [h0, List.drop_of_length_le (by have := h.1; omega)]
      exact Rd.nil _ _ _
    · obtain ⟨b, off, rfl, _, _⟩ := h.2 (by omega)
      rw [Option.map_some, Go.WideShapes.add_plain, Nat.mul_one]
      exact h.drop i b off rfl hi
end Go.Proofs.YtcbfchkhbngpkaaGreatDoor
namespace Go.Proofs.YtcbfchkhbngpkaaGreatDoor
open Go.RowKit

theorem AddrM.six_cell (a : AddrM) : a.cells[0]? = some (.bool a.six) := rfl
/-- a prefix -/
def prefC (a : AddrM) (bits : Int) : List Value := a.cells ++ [.int .i64 bits]
theorem prefC_length (a : AddrM) (h : a.ok) (bits : Int) : (prefC a bits).length = 18 := by rw [prefC, List.length_append, AddrM.cells_length h]; rfl
theorem prefC_addr (a : AddrM) (h : a.ok) (bits : Int) : ((prefC a bits).drop 0).take 17 = a.cells := by rw [prefC, List.drop_zero, ← AddrM.cells_length h, List.take_left]
theorem prefC_bits (a : AddrM) (h : a.ok) (bits : Int) : (prefC a bits)[17]? = some (.int .i64 bits) := by
  rw [prefC, List.getElem?_append_right (by rw [AddrM.cells_length h]; omega), AddrM.cells_length h]; rfl
theorem soundM_four (a : AddrM) (h : a.ok) (h6 : a.six = false) : soundM a = true ↔ ∀ j, j < 12 → a.ip.getD (4 + j) 0 = 0 := by
  have hl : a.ip.length = 16 := h
  rw [soundM, h6, Bool.false_or, List.all_eq_true]
  constructor
  · intro hx j hj
    have := hx (a.ip[4 + j]'(by omega)) (List.mem_drop_iff_getElem.2 ⟨j, by omega, rfl⟩)
    rw [List.getD_eq_getElem?_getD, List.getElem?_eq_getElem (by omega)]
    simpa using this
  · intro hx x hm
    obtain ⟨j, hj, rfl⟩ := List.mem_drop_iff_getElem.1 hm
    have := hx j (by omega)
    rw [List.getD_eq_getElem?_getD, List.getElem?_eq_getElem (by omega)] at this
    simpa using this

theorem validM_iff (a : AddrM) (bits : Int) (hs : soundM a = true) (h0 : 0 ≤ bits) (h1 : bits ≤ (widthM a : Int)) : validM a bits = true ↔ ∀ i : Nat, bits ≤ (i : Int) → i < 128 → bitM a.ip i = 0 := by
  rw [validM, hs, decide_eq_true h0, decide_eq_true h1, Bool.true_and, Bool.true_and, Bool.true_and, List.all_eq_true]
  constructor
  · intro h i hi hlt
    have := h i (List.mem_range.2 hlt)
    rw [Bool.or_eq_true, decide_eq_true_iff, beq_iff_eq] at this
    rcases this with h2 | h2
    · omega
    · exact h2
  · intro h i hi
    rw [Bool.or_eq_true, decide_eq_true_iff, beq_iff_eq]
    by_cases h2 : (i : Int) < bits
    · exact .inl h2
    · exact .inr (h i (by omega) (List.mem_range.1 hi))
theorem widthM_le (a : AddrM) : widthM a = 32 ∨ widthM a = 128 := by unfold widthM; split <;> simp
theorem validM_bits (a : AddrM) (bits : Int) (h : validM a bits = true) : 0 ≤ bits ∧ bits ≤ 128 := by
  rw [validM, Bool.and_eq_true, Bool.and_eq_true, Bool.and_eq_true, decide_eq_true_iff, decide_eq_true_iff] at h
  have := widthM_le a
  omega
theorem pref_cellsOf (a : AddrM) (h : a.ok) (bits : Int) : (Tryz.prog.info? 60).map (·.size) = some (prefC a bits).length := by
  rw [prefC_length a h]; kernel_rfl
end Go.Proofs.YtcbfchkhbngpkaaGreatDoor
namespace Go.Proofs.YtcbfchkhbngpkaaGreatDoor
open Go.RowKit

/-- a route: the address and the bits of its prefix, and its peer -/
structure RouteM where
  a : AddrM
  bits : Int
  peer : List UInt8
def RouteM.ok (r : RouteM) : Prop := r.a.ok ∧ r.peer.length = 32 ∧ inI64 r.bits
def RouteM.cells (r : RouteM) : List Value := prefC r.a r.bits ++ r.peer.map u8v
theorem RouteM.cells_length {r : RouteM} (h : r.ok) : r.cells.length = 50 := by
  rw [RouteM.cells, List.length_append, prefC_length r.a h.1, List.length_map, h.2.1]
def RouteM.is (a : AddrM) (b : Int) (r : RouteM) : Bool := decide (r.a = a ∧ r.bits = b)
end Go.Proofs.YtcbfchkhbngpkaaGreatDoor
namespace Go.Proofs.YtcbfchkhbngpkaaGreatDoor
open Go.RowKit

structure PeerM where
  pub : List UInt8
  sha : List UInt8
  hasE : Bool
  ea : AddrM
  ep : Int
  keep : Int
  al : List (AddrM × Int)
structure ConfM where
  priv : List UInt8
  port : Int
  peers : List PeerM
def peer0 : PeerM := ⟨List.replicate 32 0, List.replicate 32 0, false, addr0, 0, 0, []⟩
def conf0 : ConfM := ⟨List.replicate 32 0, 0, []⟩
def tIface : List UInt8 := [91, 73, 110, 116, 101, 114, 102, 97, 99, 101, 93]
def tPeer : List UInt8 := [91, 80, 101, 101, 114, 93]
def tPriv : List UInt8 := [80, 114, 105, 118, 97, 116, 101, 75, 101, 121]
def tPort : List UInt8 := [76, 105, 115, 116, 101, 110, 80, 111, 114, 116]
def tPub : List UInt8 := [80, 117, 98, 108, 105, 99, 75, 101, 121]
def tSha : List UInt8 := [80, 114, 101, 115, 104, 97, 114, 101, 100, 75, 101, 121]
def tEnd : List UInt8 := [69, 110, 100, 112, 111, 105, 110, 116]
def tKeep : List UInt8 := [80, 101, 114, 115, 105, 115, 116, 101, 110, 116, 75, 101, 101, 112, 97, 108, 105, 118, 101]
def tAll : List UInt8 := [65, 108, 108, 111, 119, 101, 100, 73, 80, 115]
def bl2 : List UInt8 := [32, 9]
/-- what has been read: the configuration, and the names of the last section -/
structure PsM where
  conf : ConfM
  seen : Option (List (List UInt8))
def ps0 : PsM := ⟨conf0, none⟩
def endOk (s : PsM) : Bool := match s.seen with
  | none => false
  | some S => if s.conf.peers.isEmpty then S.contains tPriv && S.contains tPort else S.contains tPub
def ifaceM (c : ConfM) (name value : List UInt8) : Option ConfM :=
  if name = tPriv then (parseK value).map fun k => { c with priv := k }
  else if name = tPort then (if (numP value 10).2 = true then some { c with port := ((numP value 10).1 : Int) } else none)
  else none
def allM (value : List UInt8) : List (List UInt8) := (splitB 44 value).map fun x => Lib.trimS x bl2
def prefOf (x : List UInt8) : AddrM × Int := ((prefP x).1.1, ((prefP x).1.2 : Int))
def prefsM (xs : List (List UInt8)) : Option (List (AddrM × Int)) := if xs.all (fun x => (prefP x).2 == 0) = true then some (xs.map prefOf) else none
def peerM (p : PeerM) (name value : List UInt8) : Option PeerM :=
  if name = tPub then (parseK value).map fun k => { p with pub := k }
  else if name = tSha then (parseK value).map fun k => { p with sha := k }
  else if name = tEnd then (if (endP value).2 = 0 then some { p with hasE := true, ea := (endP value).1.1, ep := ((endP value).1.2 : Int) } else none)
  else if name = tKeep then (if (numP value 10).2 = true then some { p with keep := ((numP value 10).1 : Int) } else none)
  else if name = tAll then (prefsM (allM value)).map fun l => { p with al := p.al ++ l }
  else none
def entryM (s : PsM) (name value : List UInt8) : Option PsM := match s.seen with
  | none => none
  | some S => if S.contains name = true then none else match s.conf.peers.getLast? with
    | none => (ifaceM s.conf name value).map fun c => ⟨c, some (name :: S)⟩
    | some p => (peerM p name value).map fun q => ⟨{ s.conf with peers := s.conf.peers.dropLast ++ [q] }, some (name :: S)⟩
/-- a line without blanks at its ends -/
def lineM (s : PsM) (l : List UInt8) : Option PsM :=
  if l = [] ∨ l.head? = some 35 then some s
  else if l = tIface then (if s.seen.isNone = true then some { s with seen := some [] } else none)
  else if l = tPeer then (if endOk s = true then some ⟨{ s.conf with peers := s.conf.peers ++ [peer0] }, some []⟩ else none)
  else if (Lib.cut l [61]).2.2 = true then entryM s (Lib.trimRightS (Lib.cut l [61]).1 bl2) (Lib.trimLeftS (Lib.cut l [61]).2.1 bl2) else none
/-- the lines of a text -/
def linesB (l : List UInt8) : List (List UInt8) := if (splitB 10 l).getLast? = some [] then (splitB 10 l).dropLast else splitB 10 l
def runM : PsM → List (List UInt8) → Option PsM
  | s, [] => some s
  | s, a :: r => match lineM s (Lib.trimS a bl2) with
    | none => none
    | some t => runM t r
def parseCf (l : List UInt8) : Option ConfM := match runM ps0 (linesB l) with
  | none => none
  | some s => if endOk s = true then some s.conf else none
theorem linesB_nil : linesB [] = [] := rfl
theorem linesB_cons {a : List UInt8} (h : (10 : UInt8) ∉ a) (r : List UInt8) : linesB (a ++ 10 :: r) = a :: linesB r := by
  have hne := split_ne 10 r
  rw [linesB, split_at h]
  cases hr : splitB 10 r with
  | nil => exact absurd hr hne
  | cons x xs =>
    rw [linesB, hr, List.getLast?_cons_cons, List.dropLast_cons_cons]
    split <;> rfl
theorem linesB_last {a : List UInt8} (h : (10 : UInt8) ∉ a) (h0 : a ≠ []) : linesB a = [a] := by
  rw [linesB, split_none h, if_neg (by simpa using h0)]
def PeerM.ok (p : PeerM) : Prop := p.pub.length = 32 ∧ p.sha.length = 32 ∧ p.ea.ok ∧ inI64 p.ep ∧ inI64 p.keep ∧ ∀ q ∈ p.al, q.1.ok ∧ inI64 q.2
def ConfM.ok (c : ConfM) : Prop := c.priv.length = 32 ∧ inI64 c.port ∧ ∀ p ∈ c.peers, p.ok
theorem peer0_ok : peer0.ok := ⟨by simp [peer0], by simp [peer0], addr0_ok, ⟨by decide, by decide⟩, ⟨by decide, by decide⟩, by simp [peer0]⟩
theorem conf0_ok : conf0.ok := ⟨by simp [conf0], ⟨by decide, by decide⟩, by simp [conf0]⟩
def PeerM.cells (p : PeerM) (v : Value) : List Value := p.pub.map u8v ++ (p.sha.map u8v ++ (.bool p.hasE :: (prefC p.ea p.ep ++ [.int .i64 p.keep, v])))
def ConfM.cells (c : ConfM) (v : Value) : List Value := c.priv.map u8v ++ [.int .i64 c.port, v]
theorem PeerM.cells_length {p : PeerM} (h : p.ok) (v : Value) : (p.cells v).length = 85 := by
  simp only [PeerM.cells, List.length_append, List.length_map, List.length_cons, List.length_nil, prefC_length p.ea h.2.2.1, h.1, h.2.1]
theorem ConfM.cells_length {c : ConfM} (h : c.ok) (v : Value) : (c.cells v).length = 34 := by
  simp only [ConfM.cells, List.length_append, List.length_map, List.length_cons, List.length_nil, h.1]
/-! ### what Validate asks -/
def allP (c : ConfM) : List (AddrM × Int) := c.peers.flatMap fun p => p.al
def rightE (p : PeerM) : Bool := if p.hasE then !(endT p.ea p.ep).isEmpty else decide (p.ea = addr0 ∧ p.ep = 0)
def rightK (n : Int) : Bool := n == 0 || (decide (1000 ≤ n) && decide (n ≤ 1073741824))
def rightP (p : PeerM) : Bool := rightE p && rightK p.keep && p.al.all fun q => validM q.1 q.2
def hasN {α : Type} (eq : α → α → Bool) (l : List α) (x : α) (n : Nat) : Bool := (List.range n).any fun i => l[i]?.any fun z => eq x z
/-- an element is equal to one ahead of it -/
def repM {α : Type} (eq : α → α → Bool) (l : List α) : Bool := (List.range l.length).any fun i => l[i]?.any fun x => hasN eq (l.take i) x i
def eqK (a b : List UInt8) : Bool := decide (a = b)
def eqP (a b : AddrM × Int) : Bool := decide (a.1 = b.1 ∧ a.2 = b.2)
def validE (c : ConfM) : Nat :=
  if 8 < c.peers.length ∨ 16 < (allP c).length then 12
  else if c.port < 0 ∨ 65535 < c.port ∨ c.peers.all rightP = false then 1
  else if repM eqK (c.peers.map PeerM.pub) = true ∨ repM eqP (allP c) = true then 19
  else 0
end Go.Proofs.YtcbfchkhbngpkaaGreatDoor
namespace Go.Proofs.YtcbfchkhbngpkaaGreatDoor
open Go.RowKit Go.Maps

/-- what the map reads as -/
def namesV (S : List (List UInt8)) : DataW Unit := S.foldr (fun (c : List UInt8) (D : DataW Unit) => DataW.put D (.string c) (.lit (.bool true))) (.map [])
theorem namesV_isMap : ∀ S : List (List UInt8), IsMap (namesV S)
  | [] => isMap_empty
  | _ :: S => (namesV_isMap S).put _ _
theorem namesV_at (c : List UInt8) : ∀ S : List (List UInt8), (namesV S).atKey (.string c) (.lit (.bool false)) = .lit (.bool (S.contains c))
  | [] => rfl
  | d :: S => by
    show ((namesV S).put (.string d) (.lit (.bool true))).atKey _ _ = _
    by_cases h : c = d
    · subst h
      rw [atKey_put_same (namesV_isMap S) (show WideAt.IsKeyLit (.string c) from trivial)]
      simp
    · rw [atKey_put_other (by intro e; injection e with e; exact h (by first | exact e | exact e.symm)), namesV_at c S]
      simp [h]
/-- block b is the map of the texts of S -/
def NamesAt (P : Program) (k e : TypeId) (W : World) (b n : Nat) (S : List (List UInt8)) : Prop := W.ownsMap P k (plainElem P e) b n (namesV S)
theorem NamesAt.lt {P : Program} {k e : TypeId} {W : World} {b n : Nat} {S : List (List UInt8)} (h : NamesAt P k e W b n S) : b < W.heap.size := World.ownsMap.lt h
theorem NamesAt.kept {P : Program} {k e : TypeId} {W W' : World} {b n : Nat} {S : List (List UInt8)} (h : NamesAt P k e W b n S) (hb : W'.heap[b]? = W.heap[b]?) : NamesAt P k e W' b n S := by
  obtain ⟨es, clock, h1, h2⟩ := h
  exact ⟨es, clock, hb.trans h1, h2⟩
theorem plainElem_bool_inv' {P : Program} {e : TypeId} (he : P.underlying e = some .bool) {v : Value} {z : DataW Unit × List MemPlace} (h : plainElem P e v = some z) : ∃ x, v = .bool x ∧ z = (.lit (.bool x), []) := by
  unfold plainElem at h
  rw [he] at h
  cases v <;> simp at h
  subst h
  exact ⟨_, rfl, rfl⟩
theorem key_text {P : Program} {k : TypeId} (hk : P.underlying k = some .string) (c : List UInt8) (hc : c.length ≤ 1000000) : keyOf P k (.string ⟨c.toArray⟩) = some (.string c) := by
  rw [WideMaps.keyOf_string_mk hk (by have : maxLen = 9223372036854775807 := rfl; simp only [ByteArray.size, List.size_toArray]; omega)]
theorem run_lookup_names {P : Program} {w : World} {t k e : TypeId} (hk : P.underlying k = some .string) (ht : P.underlying t = some (.map k e)) (he : P.underlying e = some .bool) (hz : ∀ w, (zeroValue e).run P w = .ok (.bool false) w) {b n : Nat} {S : List (List UInt8)}
    (hown : NamesAt P k e w b n S) (c : List UInt8) (hc : c.length ≤ 1000000) : (Instr.lookup t (.map (some b)) (.string ⟨c.toArray⟩) false).run P w = .ok (.bool (S.contains c)) w := by
  obtain ⟨v, ps, hrun, hv⟩ := World.ownsMap.lookup hown (string_keyed hk) ht (hz w) (plainElem_bool he false) (key_text hk c hc)
  obtain ⟨z, rfl, hz2⟩ := plainElem_bool_inv' he hv
  rw [namesV_at] at hz2
  simp only [Prod.mk.injEq, DataW.lit.injEq, Lit.bool.injEq] at hz2
  obtain ⟨h, _⟩ := hz2
  rw [h]
  exact hrun
theorem wpList_lookup_names {P : Program} {w : World} {ops : Array Oper} {rest : List Oper} {o : Oper} {a : Act} {Q : Exit → Act → World → Prop}
    (hw : Region.wanted o (yielded ops a.tmps) = true) (m x : Operand) (t : TypeId) (hop : o.op = Op.lookup t m x false)
    (k e : TypeId) (hk : P.underlying k = some .string) (ht : P.underlying t = some (.map k e)) (he : P.underlying e = some .bool) (hz : ∀ w, (zeroValue e).run P w = .ok (.bool false) w) (b n : Nat) (S : List (List UInt8))
    (hm : a.eval m = .map (some b)) (hown : NamesAt P k e w b n S) (c : List UInt8) (hc : c.length ≤ 1000000) (hx : a.eval x = .string ⟨c.toArray⟩) (y : Bool) (hy : S.contains c = y)
    (h : wpList P ops Q rest (a.put o.dst (.bool y)) w) : wpList P ops Q (o :: rest) a w := by
  refine wpList_step fun K hK => ?_
  rw [if_pos hw]
  have hr := run_lookup_names hk ht he hz hown c hc
  rw [hy] at hr
  unfold Oper.wp
  simp [execOp, hop, hm, hx, hr, Result.andThen]
  exact hK _ _ h
theorem wpList_update_names {P : Program} {w : World} {ops : Array Oper} {rest : List Oper} {o : Oper} {a : Act} {Q : Exit → Act → World → Prop}
    (hg : o.guard = none) (m x v : Operand) (t : TypeId) (hop : o.op = Op.mapUpdate t m x v)
    (k e : TypeId) (hk : P.underlying k = some .string) (ht : P.underlying t = some (.map k e)) (he : P.underlying e = some .bool) (b n : Nat) (S : List (List UInt8))
    (hm : a.eval m = .map (some b)) (hown : NamesAt P k e w b n S) (hn : n < maxLen) (c : List UInt8) (hc : c.length ≤ 1000000) (hx : a.eval x = .string ⟨c.toArray⟩) (hv : a.eval v = .bool true)
    (h : ∀ w', NamesAt P k e w' b (n + 1) (c :: S) → w.grownBy w' (some b) → wpList P ops Q rest (a.put o.dst undef) w') : wpList P ops Q (o :: rest) a w :=
  wpList_mapUpdate_own w hg m x v t hop k e (string_keyed hk) ht (plainElem P e) b n (namesV S) hm hown hn _ _ (.string c) hx hv (key_text hk c hc) (.lit (.bool true)) [] (plainElem_bool he true) h
end Go.Proofs.YtcbfchkhbngpkaaGreatDoor
namespace Go.Proofs.YtcbfchkhbngpkaaGreatDoor
open Go.RowKit

theorem flat_length {k : Nat} : ∀ {os : List (List Value)}, (∀ o ∈ os, o.length = k) → os.flatten.length = os.length * k
  | [], _ => by simp
  | o :: r, h => by
    rw [List.flatten_cons, List.length_append, h o (List.mem_cons_self ..), flat_length (fun x hx => h x (List.mem_cons_of_mem _ hx)), List.length_cons, Nat.succ_mul, Nat.add_comm]
theorem flat_at {k : Nat} : ∀ {os : List (List Value)}, (∀ o ∈ os, o.length = k) → ∀ (i : Nat) (o : List Value), os[i]? = some o → ∀ (j : Nat) (v : Value), o[j]? = some v → os.flatten[i * k + j]? = some v
  | [], _, i, o, hi, _, _, _ => by simp at hi
  | a :: r, h, 0, o, hi, j, v, hj => by
    simp only [List.getElem?_cons_zero, Option.some.injEq] at hi
    subst hi
    rw [List.flatten_cons, Nat.zero_mul, Nat.zero_add, List.getElem?_append_left (List.getElem?_eq_some_iff.1 hj).1]
    exact hj
  | a :: r, h, i + 1, o, hi, j, v, hj => by
    have ha := h a (List.mem_cons_self ..)
    rw [List.flatten_cons, List.getElem?_append_right (by rw [ha, Nat.succ_mul]; omega), ha, show (i + 1) * k + j - k = i * k + j from by rw [Nat.succ_mul]; omega]
    exact flat_at (fun x hx => h x (List.mem_cons_of_mem _ hx)) i o (by simpa using hi) j v hj
theorem flat_drop {k : Nat} : ∀ (n : Nat) {os : List (List Value)}, (∀ o ∈ os, o.length = k) → (os.drop n).flatten = os.flatten.drop (n * k)
  | 0, os, _ => by simp
  | n + 1, [], _ => by simp
  | n + 1, a :: r, h => by
    have ha := h a (List.mem_cons_self ..)
    rw [List.drop_succ_cons, List.flatten_cons, flat_drop n (fun x hx => h x (List.mem_cons_of_mem _ hx)), List.drop_append, ha, Nat.succ_mul, List.drop_eq_nil_of_le (show a.length ≤ n * k + k by rw [ha]; omega), List.nil_append, Nat.add_sub_cancel]
theorem flat_take {k : Nat} : ∀ (n : Nat) {os : List (List Value)}, (∀ o ∈ os, o.length = k) → (os.take n).flatten = os.flatten.take (n * k)
  | 0, os, _ => by simp
  | n + 1, [], _ => by simp
  | n + 1, a :: r, h => by
    have ha := h a (List.mem_cons_self ..)
    rw [List.take_succ_cons, List.flatten_cons, List.flatten_cons, flat_take n (fun x hx => h x (List.mem_cons_of_mem _ hx)), List.take_append, ha, Nat.succ_mul, List.take_of_length_le (show a.length ≤ n * k + k by rw [ha]; omega), Nat.add_sub_cancel]
/-- n objects of k cells that lie one after the other below B -/
def RdRow (W : World) (B : Nat) (A : Option Addr) (k n : Nat) (os : List (List Value)) : Prop :=
  os.length = n ∧ (∀ o ∈ os, o.length = k) ∧ (0 < n → ∃ b off, A = some ⟨b, off, none⟩ ∧ b < B ∧ ∀ j v, os.flatten[j]? = some v → W.cell? ⟨b, off + j, none⟩ = some v)
theorem RdRow.below {w W : World} {B k n : Nat} {A : Option Addr} {os : List (List Value)} (h : RdRow w B A k n os) (hb : Below B w W) : RdRow W B A k n os :=
  ⟨h.1, h.2.1, fun hn => by
    obtain ⟨b, off, e, hlt, hc⟩ := h.2.2 hn
    exact ⟨b, off, e, hlt, fun j v hv => (World.cell?_of_block (hb.block b hlt)).trans (hc j v hv)⟩⟩
theorem RdRow.mono {W : World} {B C k n : Nat} {A : Option Addr} {os : List (List Value)} (h : RdRow W B A k n os) (hc : B ≤ C) : RdRow W C A k n os :=
  ⟨h.1, h.2.1, fun hn => by
    obtain ⟨b, off, e, hlt, hc2⟩ := h.2.2 hn
    exact ⟨b, off, e, by omega, hc2⟩⟩
theorem RdRow.nil {W : World} {B k : Nat} {A : Option Addr} : RdRow W B A k 0 [] := ⟨rfl, (by simp), fun h => by omega⟩
theorem RdRow.of_own {W : World} {B k n c : Nat} {e : TypeId} {A : Option Addr} {os : List (List Value)} (hn : os.length = n) (hk : ∀ o ∈ os, o.length = k) (h : W.ownsRow B e k (.slice A n c) n os.flatten) : RdRow W W.heap.size A k n os := by
  refine ⟨hn, hk, fun h0 => ?_⟩
  rcases h.2 with ⟨_, e⟩ | ⟨g, cap, cur, hv, hbg, hg, hcap, hm, hs, hr⟩
  · omega
  · injection hv with hA _ _
    refine ⟨g, 0, hA, ?_, fun j v hj => ?_⟩
    · rcases Nat.lt_or_ge g W.heap.size with h | h
      · exact h
      · rw [Array.getElem?_eq_none h] at hg; cases hg
    · rw [← hr, List.getElem?_take] at hj
      split at hj
      · rw [Nat.zero_add]
        simp only [World.cell?, hg]
        simpa using hj
      · cases hj
/-- the object at a place of a row -/
theorem RdRow.at {W : World} {B k n b off : Nat} {os : List (List Value)} (h : RdRow W B (some ⟨b, off, none⟩) k n os) (i : Nat) (o : List Value) (hi : os[i]? = some o) : b < B ∧ At W b (off + i * k) o := by
  have hl : i < os.length := (List.getElem?_eq_some_iff.1 hi).1
  obtain ⟨b', off', e, hlt, hc⟩ := h.2.2 (by rw [← h.1]; omega)
  injection e with e
  injection e with e1 e2 _
  subst e1 e2
  exact ⟨hlt, fun j v hj => by rw [Nat.add_assoc]; exact hc _ v (flat_at h.2.1 i o hi j v hj)⟩
theorem RdRow.addr {W : World} {B k n : Nat} {A : Option Addr} {os : List (List Value)} (h : RdRow W B A k n os) (hn : 0 < n) : ∃ b off, A = some ⟨b, off, none⟩ := by
  obtain ⟨b, off, e, _⟩ := h.2.2 hn
  exact ⟨b, off, e⟩
theorem RdRow.take {W : World} {B k n : Nat} {A : Option Addr} {os : List (List Value)} (h : RdRow W B A k n os) (i : Nat) (hi : i ≤ n) : RdRow W B A k i (os.take i) := by
  refine ⟨by rw [List.length_take, h.1]; omega, fun o ho => h.2.1 o (List.mem_of_mem_take ho), fun h0 => ?_⟩
  obtain ⟨b, off, e, hlt, hc⟩ := h.2.2 (by omega)
  refine ⟨b, off, e, hlt, fun j v hj => hc j v ?_⟩
  rw [flat_take i h.2.1, List.getElem?_take] at hj
  split at hj
  · exact hj
  · cases hj
theorem RdRow.drop {W : World} {B k n b off : Nat} {os : List (List Value)} (h : RdRow W B (some ⟨b, off, none⟩) k n os) (i : Nat) (hi : i ≤ n) : RdRow W B (some ⟨b, off + i * k, none⟩) k (n - i) (os.drop i) := by
  refine ⟨by rw [List.length_drop, h.1], fun o ho => h.2.1 o (List.mem_of_mem_drop ho), fun h0 => ?_⟩
  obtain ⟨b', off', e, hlt, hc⟩ := h.2.2 (by omega)
  injection e with e
  injection e with e1 e2 _
  subst e1 e2
  refine ⟨b, off + i * k, rfl, hlt, fun j v hj => ?_⟩
  rw [flat_drop i h.2.1, List.getElem?_drop] at hj
  rw [Nat.add_assoc]
  exact hc _ v hj
end Go.Proofs.YtcbfchkhbngpkaaGreatDoor
namespace Go.Proofs.YtcbfchkhbngpkaaGreatDoor
open Go.RowKit

theorem At.mono {w W : World} {b off B : Nat} {cs : List Value} (h : At w b off cs) (hb : Below B w W) (hlt : b < B) : At W b off cs := fun j v hv => (World.cell?_of_block (hb.block b hlt)).trans (h j v hv)
end Go.Proofs.YtcbfchkhbngpkaaGreatDoor
namespace Go.Proofs.YtcbfchkhbngpkaaGreatDoor
open Go.RowKit

def pfsV (l : List (AddrM × Int)) : List (List Value) := l.map fun p => prefC p.1 p.2
def okP (p : AddrM × Int) : Prop := p.1.ok ∧ inI64 p.2
def PfRd (W : World) (B : Nat) (A : Option Addr) (n : Nat) (l : List (AddrM × Int)) : Prop := RdRow W B A 18 n (pfsV l) ∧ ∀ p ∈ l, okP p
theorem PfRd.len {W : World} {B n : Nat} {A : Option Addr} {l : List (AddrM × Int)} (h : PfRd W B A n l) : l.length = n := by
  have := h.1.1
  simpa [pfsV] using this
theorem PfRd.below {w W : World} {B n : Nat} {A : Option Addr} {l : List (AddrM × Int)} (h : PfRd w B A n l) (hb : Below B w W) : PfRd W B A n l := ⟨h.1.below hb, h.2⟩
theorem PfRd.mono {W : World} {B C n : Nat} {A : Option Addr} {l : List (AddrM × Int)} (h : PfRd W B A n l) (hc : B ≤ C) : PfRd W C A n l := ⟨h.1.mono hc, h.2⟩
theorem PfRd.nil {W : World} {B : Nat} {A : Option Addr} : PfRd W B A 0 [] := ⟨RdRow.nil, by simp⟩
theorem PfRd.at {W : World} {B n b off : Nat} {l : List (AddrM × Int)} (h : PfRd W B (some ⟨b, off, none⟩) n l) (i : Nat) (p : AddrM × Int) (hi : l[i]? = some p) : b < B ∧ At W b (off + i * 18) (prefC p.1 p.2) :=
  h.1.at i (prefC p.1 p.2) (by rw [pfsV, List.getElem?_map, hi]; rfl)
theorem PfRd.ok {W : World} {B n : Nat} {A : Option Addr} {l : List (AddrM × Int)} (h : PfRd W B A n l) {i : Nat} {p : AddrM × Int} (hi : l[i]? = some p) : okP p := h.2 p (List.mem_of_getElem? hi)
theorem PfRd.of_own {W : World} {B n c : Nat} {e : TypeId} {A : Option Addr} {l : List (AddrM × Int)} (hn : l.length = n) (hk : ∀ p ∈ l, okP p) (h : W.ownsRow B e 18 (.slice A n c) n (pfsV l).flatten) : PfRd W W.heap.size A n l :=
  ⟨RdRow.of_own (by simpa [pfsV] using hn) (fun o ho => by
    obtain ⟨p, hp, rfl⟩ := List.mem_map.1 ho
    exact prefC_length p.1 (hk p hp).1 p.2) h, hk⟩
theorem pref_cellsOf' (a : AddrM) (h : a.ok) (i : Int) : (Tryz.prog.info? 60).map (·.size) = some (prefC a i).length := by
  rw [prefC_length a h]; kernel_rfl
end Go.Proofs.YtcbfchkhbngpkaaGreatDoor
namespace Go.Proofs.YtcbfchkhbngpkaaGreatDoor
open Go.RowKit

theorem fill_one (n : Nat) (base a : Array Value) (hb : base.size = n) (ha : a.size = n) :
    Instr.fill (fun i => some (i * n, n)) base [(0, .agg a)] = some a := by
  have hA : (a.zipIdx.foldl (fun cs (x : Value × Nat) => cs.setIfInBounds (0 * n + x.2) x.1) base).toList = base.toList.take (0 * n) ++ a.toList ++ base.toList.drop (0 * n + a.size) := by
    have := foldl_set_list (0 * n) a.toList 0 base (by simp; omega)
    rw [← Array.foldl_toList]
    simpa using this
  refine (if_neg (two_tests (fun hne => hne ha) (fun hlt : 0 * n + a.size > base.size => by omega))).trans ?_
  refine congrArg some (Array.ext' (hA.trans ?_))
  have e0 : List.drop (0 * n + a.size) base.toList = [] := List.drop_eq_nil_of_le (by simp; omega)
  rw [e0]
  simp
theorem step_buildOne {P : Program} {w : World} {ops : Array Oper} {o : Oper} {act : Act} {K : Act → World → Prop} {Q : Exit → Act → World → Prop} {E : Prop} (hgd : o.guard = none) (ty e : TypeId) (x : Operand) (ho : o.op = .buildSlice ty 1 #[(0, x)])
    (a : Array Value) (hx : act.eval x = .agg a) (n : Nat) (hu : P.underlying ty = some (.slice e)) (i : TypeInfo) (hi : P.info? e = some i) (hs : i.size = n) (z : Value) (hz : i.zero = some z) (hn0 : 0 < n) (hn1 : n ≤ 1000) (ha : a.size = n)
    (h : K (act.put o.dst (.slice (some ⟨w.heap.size, 0, none⟩) 1 1)) (w.alloc (.cells a e))) : if Region.wanted o (yielded ops act.tmps) = true then Oper.wp P o act w K Q else E := by
  have hw : Region.wanted o (yielded ops act.tmps) = true := by simp [Region.wanted, hgd]
  rw [if_pos hw]
  unfold Oper.wp execOp
  have hf := fun z : Array Value => fill_one n ((Array.range n).map (z[· % z.size]!)) a (by simp) ha
  have h24 : ¬ n > 2 ^ 24 := by omega
  have h20 : ¬ n = 0 := by omega
  simp only [ho, Instr.buildSlice, Sem.run_bind, run_underlying hu, sizeOf, zeroValue, typeInfo, Result.andThen_ok]
  simp [hi, hs, hz, hf, h24, h20, newRow, hx]
  exact h
end Go.Proofs.YtcbfchkhbngpkaaGreatDoor
namespace Go.Proofs.YtcbfchkhbngpkaaGreatDoor
open Go.RowKit

/-- the address behind i objects of k cells, as the model keeps it -/
def addrK (A : Option Addr) (i c k : Nat) : Option Addr := if c = i then A else A.map (·.add (i * k))
theorem RdRow.behind {W : World} {B k n : Nat} {A : Option Addr} {os : List (List Value)} (h : RdRow W B A k n os) (i c : Nat) (hi : i ≤ n) (hc : n ≤ c) : RdRow W B (addrK A i c k) k (n - i) (os.drop i) := by
  unfold addrK
  rcases Nat.eq_zero_or_pos (n - i) with h0 | h0
  · rw [h0, List.drop_of_length_le (by have := h.1; omega)]
    exact RdRow.nil
  · obtain ⟨b, off, rfl⟩ := h.addr (by omega)
    rw [if_neg (by omega), Option.map_some, Go.WideShapes.add_plain]
    exact h.drop i hi
theorem RdRow.src {W : World} {B k n : Nat} {os : List (List Value)} {ad : Addr} (h : RdRow W B (some ad) k n os) : ∀ j u, os.flatten[j]? = some u → W.cell? (ad.add j) = some u := by
  intro j u hj
  rcases Nat.eq_zero_or_pos n with h0 | h0
  · have : os = [] := List.eq_nil_of_length_eq_zero (by rw [h.1, h0])
    subst this
    simp at hj
  · obtain ⟨b, off, e, _, hc⟩ := h.2.2 h0
    injection e with e
    subst e
    rw [Go.WideShapes.add_plain]
    exact hc j u hj
theorem RdRow.len {W : World} {B k n : Nat} {A : Option Addr} {os : List (List Value)} (h : RdRow W B A k n os) : os.flatten.length = n * k := by rw [flat_length h.2.1, h.1]
theorem run_append_rows_none {P : Program} {w : World} (base : Nat) (t ty e : TypeId) (i : TypeInfo) (size : Nat) (ht : P.underlying t = some (.slice e)) (hi : P.info? e = some i)
    (v : Value) (n c : Nat) (xs : List Value) (hown : w.ownsRow base e size v n xs) :
    (Builtin.append_ #[t, t] ty #[v, .slice none 0 c]).run P w = .ok v w := by
  rcases hown.2 with ⟨rfl, rfl⟩ | ⟨g, cap, cur, rfl, _, _, hnc, _⟩
  · simp [Builtin.append_, run_underlying ht, sizeOf, typeInfo, hi, Builtin.lenOf, Builtin.firstCells]
  · simp [Builtin.append_, run_underlying ht, sizeOf, typeInfo, hi, Builtin.lenOf, Builtin.firstCells, hnc, storeCells]
/-- a row of objects appended to a row of the call's own -/
theorem run_append_rows {P : Program} (w : World) (base : Nat) (t ty e : TypeId) (i : TypeInfo) (z : Value) (size bytes : Nat) (ht : P.underlying t = some (.slice e)) (hi : P.info? e = some i) (hz : i.zero = some z)
    (hsize : i.size = size) (hby : i.bytes = bytes) (hzs : z.cells.size = size) (hsz : 0 < size) (v : Value) (n : Nat) (xs : List Value) (hown : w.ownsRow base e size v n xs)
    (B : Nat) (A : Option Addr) (m c : Nat) (os : List (List Value)) (hr : RdRow w B A size m os) (h1 : ∀ u ∈ os.flatten, u.oneCell' = true) (h63 : n + m ≤ maxLen) (hbytes : (n + m) * bytes ≤ 140737488355328) (hbase : base ≤ w.heap.size) :
    ∃ v' w', (Builtin.append_ #[t, t] ty #[v, .slice A m c]).run P w = .ok v' w' ∧ w'.ownsRow base e size v' (n + m) (xs ++ os.flatten) ∧ w.grownBy w' v.ownBlock ∧ (v'.ownBlock = v.ownBlock ∨ v'.ownBlock = some w.heap.size) := by
  cases A with
  | some ad =>
    obtain ⟨v', w', hrun, r1, r2, _, r4⟩ := run_append_own_at (P := P) w base t ty e i z size bytes ht hi hz hsize hby hzs hsz v n xs hown ad m c os.flatten hr.len hr.src h1 h63 hbytes hbase
    exact ⟨v', w', hrun, r1, r2, r4⟩
  | none =>
    have hm : m = 0 := by
      rcases Nat.eq_zero_or_pos m with h | h
      · exact h
      · obtain ⟨_, _, e⟩ := hr.addr h
        cases e
    subst hm
    have ho : os = [] := List.eq_nil_of_length_eq_zero hr.1
    subst ho
    exact ⟨v, w, run_append_rows_none base t ty e i size ht hi v n c xs hown, by simpa using hown, ⟨rfl, rfl, rfl, Nat.le_refl _, fun _ _ _ => rfl⟩, .inl rfl⟩
theorem wpList_append_rows {P : Program} (w : World) {ops : Array Oper} {rest : List Oper} {o : Oper} {a : Act} {Q : Exit → Act → World → Prop} (hgd : o.guard = none) (s x : Operand) (t : TypeId)
    (ho : o.op = .call { callee := .builtin .append, args := #[s, x], argTypes := #[t, t] })
    (base : Nat) (e : TypeId) (i : TypeInfo) (z : Value) (size bytes : Nat) (ht : P.underlying t = some (.slice e)) (hi : P.info? e = some i) (hz : i.zero = some z) (hsize : i.size = size) (hby : i.bytes = bytes) (hzs : z.cells.size = size) (hsz : 0 < size)
    (v : Value) (n : Nat) (xs : List Value) (hs : a.eval s = v) (hown : w.ownsRow base e size v n xs) (B : Nat) (A : Option Addr) (m c : Nat) (os : List (List Value)) (hx : a.eval x = .slice A m c) (hr : RdRow w B A size m os) (h1 : ∀ u ∈ os.flatten, u.oneCell' = true)
    (h63 : n + m ≤ maxLen) (hbytes : (n + m) * bytes ≤ 140737488355328) (hbase : base ≤ w.heap.size)
    (h : ∀ v' w', w'.ownsRow base e size v' (n + m) (xs ++ os.flatten) → w.grownBy w' v.ownBlock → (v'.ownBlock = v.ownBlock ∨ v'.ownBlock = some w.heap.size) → wpList P ops Q rest (a.put o.dst v') w') : wpList P ops Q (o :: rest) a w := by
  refine wpList_plain hgd fun K hK => ?_
  obtain ⟨v', w', hrun, h2, h3, h4⟩ := run_append_rows (P := P) w base t o.type e i z size bytes ht hi hz hsize hby hzs hsz v n xs hown B A m c os hr h1 h63 hbytes hbase
  unfold Oper.wp execOp
  simp only [ho, resolve, invoke, builtin, Sem.run_bind, Sem.run_pure, Result.andThen_ok, List.map_toArray, List.map_cons, List.map_nil, hs, hx, hrun]
  exact hK _ _ (h v' w' h2 h3 h4)
theorem step_append_rows {P : Program} (w : World) {ops : Array Oper} {o : Oper} {a : Act} {K : Act → World → Prop} {Q : Exit → Act → World → Prop} {E : Prop} (hgd : o.guard = none) (s x : Operand) (t : TypeId)
    (ho : o.op = .call { callee := .builtin .append, args := #[s, x], argTypes := #[t, t] })
    (base : Nat) (e : TypeId) (i : TypeInfo) (z : Value) (size bytes : Nat) (ht : P.underlying t = some (.slice e)) (hi : P.info? e = some i) (hz : i.zero = some z) (hsize : i.size = size) (hby : i.bytes = bytes) (hzs : z.cells.size = size) (hsz : 0 < size)
    (v : Value) (n : Nat) (xs : List Value) (hs : a.eval s = v) (hown : w.ownsRow base e size v n xs) (B : Nat) (A : Option Addr) (m c : Nat) (os : List (List Value)) (hx : a.eval x = .slice A m c) (hr : RdRow w B A size m os) (h1 : ∀ u ∈ os.flatten, u.oneCell' = true)
    (h63 : n + m ≤ maxLen) (hbytes : (n + m) * bytes ≤ 140737488355328) (hbase : base ≤ w.heap.size)
    (h : ∀ v' w', w'.ownsRow base e size v' (n + m) (xs ++ os.flatten) → w.grownBy w' v.ownBlock → (v'.ownBlock = v.ownBlock ∨ v'.ownBlock = some w.heap.size) → K (a.put o.dst v') w') : if Region.wanted o (yielded ops a.tmps) = true then Oper.wp P o a w K Q else E := by
  rw [if_pos (by simp [Region.wanted, hgd])]
  obtain ⟨v', w', hrun, h2, h3, h4⟩ := run_append_rows (P := P) w base t o.type e i z size bytes ht hi hz hsize hby hzs hsz v n xs hown B A m c os hr h1 h63 hbytes hbase
  unfold Oper.wp execOp
  simp only [ho, resolve, invoke, builtin, Sem.run_bind, Sem.run_pure, Result.andThen_ok, List.map_toArray, List.map_cons, List.map_nil, hs, hx, hrun]
  exact h v' w' h2 h3 h4
end Go.Proofs.YtcbfchkhbngpkaaGreatDoor
namespace Go.Proofs.YtcbfchkhbngpkaaGreatDoor
open Go.RowKit

theorem wpList_buildOne {P : Program} {w : World} {ops : Array Oper} {rest : List Oper} {o : Oper} {act : Act} {Q : Exit → Act → World → Prop} (hgd : o.guard = none) (ty e : TypeId) (x : Operand) (ho : o.op = .buildSlice ty 1 #[(0, x)])
    (a : Array Value) (hx : act.eval x = .agg a) (n : Nat) (hu : P.underlying ty = some (.slice e)) (i : TypeInfo) (hi : P.info? e = some i) (hs : i.size = n) (z : Value) (hz : i.zero = some z) (hn0 : 0 < n) (hn1 : n ≤ 1000) (ha : a.size = n)
    (h : wpList P ops Q rest (act.put o.dst (.slice (some ⟨w.heap.size, 0, none⟩) 1 1)) (w.alloc (.cells a e))) : wpList P ops Q (o :: rest) act w :=
  wpList_step fun _ hK => step_buildOne hgd ty e x ho a hx n hu i hi hs z hz hn0 hn1 ha (hK _ _ h)
theorem setL_all (old cs : List Value) (h : cs.length = old.length) : setL old 0 cs = cs := by
  rw [setL, List.take_zero, List.nil_append, Nat.zero_add, h, List.drop_length, List.append_nil]
theorem take_snoc {α : Type} {l : List α} {j : Nat} {r : α} (h : l[j]? = some r) : l.take (j + 1) = l.take j ++ [r] := by rw [List.take_add_one, h]; rfl
/-- an object in a block that was just laid and then written: all that was there ahead is as it was -/
theorem below_fresh {w w' : World} {o : Obj} (hg : (w.alloc o).grownBy w' (some w.heap.size)) : Below w.heap.size w w' :=
  ((Below.refl w.heap.size w).alloc (Nat.le_refl _) o).grown hg (by simp) (fun k hk => by injection hk with hk; omega)
end Go.Proofs.YtcbfchkhbngpkaaGreatDoor
namespace Go.Proofs.YtcbfchkhbngpkaaGreatDoor
open Go.RowKit

/-- what is asked of a predicate that is handed on, in every world in which what lies below B is as it was -/
def PredB (P : Program) (F : Nat) (lb : Array Value) (p : List Value → Bool) (B : Nat) (w : World) (os : List (List Value)) : Prop :=
  ∀ o ∈ os, ∀ W, Below B w W → Calls P F (#[.agg o.toArray] ++ lb) W fun e W' => e = .returned (.bool (p o)) ∧ Below W.heap.size W W'
theorem PredB.later {P : Program} {F : Nat} {lb : Array Value} {p : List Value → Bool} {B : Nat} {w w1 : World} {os : List (List Value)} (h : PredB P F lb p B w os) (hb : Below B w w1) : PredB P F lb p B w1 os :=
  fun o ho W hW => h o ho W (hb.trans hW)
theorem blk_at {w : World} {g : Nat} {t : TypeId} {k i : Nat} {cs : List (List Value)} {rest o : List Value} (h : Blk w g t (cs.flatten ++ rest)) (hk : ∀ o ∈ cs, o.length = k) (ho : cs[i]? = some o) : At w g (i * k) o := by
  intro j v hj
  rw [h.cell, List.getElem?_append_left]
  · exact flat_at hk i o ho j v hj
  · exact (List.getElem?_eq_some_iff.1 (flat_at hk i o ho j v hj)).1
theorem blk_row {w : World} {g : Nat} {t : TypeId} {k n : Nat} {cs : List (List Value)} {rest : List Value} (h : Blk w g t (cs.flatten ++ rest)) (hk : ∀ o ∈ cs, o.length = k) (hn : cs.length = n) : RdRow w w.heap.size (some ⟨g, 0, none⟩) k n cs :=
  ⟨hn, hk, fun _ => ⟨g, 0, rfl, h.lt, fun j v hj => by
    rw [h.cell, Nat.zero_add, List.getElem?_append_left (List.getElem?_eq_some_iff.1 hj).1]
    exact hj⟩⟩
theorem own_sliceK {w : World} {base e k n : Nat} {v : Value} {xs : List Value} (h : w.ownsRow base e k v n xs) : ∃ A c, v = .slice A n c ∧ n ≤ c ∧ c ≤ maxLen ∧ ∀ ad, A = some ad → base ≤ ad.block := by
  rcases h.2 with ⟨rfl, rfl⟩ | ⟨g, cap, cur, rfl, hb, _, hn, hm, _⟩
  · exact ⟨none, 0, rfl, Nat.le_refl _, by unfold maxLen; omega, fun _ h => by cases h⟩
  · exact ⟨_, _, rfl, hn, hm, fun ad h => by injection h with h; subst h; exact hb⟩
theorem addrK_zero_some (b off c k : Nat) : addrK (some ⟨b, off, none⟩) 0 c k = some ⟨b, off, none⟩ := by
  unfold addrK
  split
  · rfl
  · rw [Option.map_some, Go.WideShapes.add_plain, Nat.zero_mul, Nat.add_zero]
theorem RdRow.ahead {W : World} {B k n : Nat} {A : Option Addr} {os : List (List Value)} (h : RdRow W B A k n os) (i c : Nat) (hi : i ≤ n) : RdRow W B (addrK A 0 c k) k i (os.take i) := by
  rcases Nat.eq_zero_or_pos i with h0 | h0
  · subst h0
    rw [List.take_zero]
    exact RdRow.nil
  · obtain ⟨b, off, rfl⟩ := h.addr (by omega)
    rw [addrK_zero_some]
    exact h.take i hi
end Go.Proofs.YtcbfchkhbngpkaaGreatDoor
namespace Go.Proofs.YtcbfchkhbngpkaaGreatDoor
open Go.RowKit

end Go.Proofs.YtcbfchkhbngpkaaGreatDoor
namespace Go.Proofs.YtcbfchkhbngpkaaGreatDoor
open Go.RowKit

/-- all blocks but one are as they were -/
def KeptBut (W W' : World) (g : Nat) : Prop := W.heap.size ≤ W'.heap.size ∧ ∀ k, k < W.heap.size → k ≠ g → W'.heap[k]? = W.heap[k]?
theorem KeptBut.of_grown {W W' : World} {g : Nat} (h : W.grownBy W' (some g)) : KeptBut W W' g := ⟨h.size, fun k hk hne => h.block k hk (by intro e; injection e with e; exact hne e)⟩
theorem KeptBut.of_set {W : World} {g j : Nat} {v : Value} : KeptBut W (W.setCell ⟨g, j, none⟩ v) g := ⟨by simp, fun k _ hne => Below.heap_setCell _ _ _ _ hne⟩
theorem KeptBut.below {W W' W2 : World} {g : Nat} (h : KeptBut W W' g) (hb : Below W'.heap.size W' W2) : KeptBut W W2 g := ⟨Nat.le_trans h.1 hb.size, fun k hk hne => (hb.block k (Nat.lt_of_lt_of_le hk h.1)).trans (h.2 k hk hne)⟩
theorem own_lt {W : World} {base size n : Nat} {e : TypeId} {v : Value} {xs : List Value} (h : W.ownsRow base e size v n xs) {k : Nat} (hk : v.ownBlock = some k) : base ≤ k ∧ k < W.heap.size := by
  rcases h.2 with ⟨rfl, _⟩ | ⟨g, cap, cur, rfl, hb, hg, _⟩
  · cases hk
  · injection hk with hk
    subst hk
    exact ⟨hb, (Array.getElem?_eq_some_iff.1 hg).1⟩
theorem own_kept {W W' : World} {base size n : Nat} {e : TypeId} {v : Value} {xs : List Value} (h : W.ownsRow base e size v n xs) (hk : ∀ k, v.ownBlock = some k → W'.heap[k]? = W.heap[k]?) : W'.ownsRow base e size v n xs :=
  ⟨h.1, by
    rcases h.2 with h1 | ⟨g, cap, cur, hv, hbg, hg, hr⟩
    · exact .inl h1
    · exact .inr ⟨g, cap, cur, hv, hbg, (hk g (by rw [hv]; rfl)).trans hg, hr⟩⟩
def peersV (ps : List PeerM) (vs : List Value) : List (List Value) := List.zipWith PeerM.cells ps vs
/-- the peers and their prefixes, each list in a block of its own -/
def PeersAt (base : Nat) (W : World) (Bs : List Nat) (v : Value) (ps : List PeerM) : Prop :=
  ∃ vs : List Value, vs.length = ps.length ∧ W.ownsRow base 57 85 v ps.length (peersV ps vs).flatten ∧ (∀ (i : Nat) (p : PeerM) (x : Value), ps[i]? = some p → vs[i]? = some x → W.ownsRow base 60 18 x p.al.length (pfsV p.al).flatten) ∧ (v :: vs).filterMap Value.ownBlock = Bs
theorem PeersAt.nil (base : Nat) (W : World) : PeersAt base W [] (.slice none 0 0) [] := ⟨[], rfl, ⟨rfl, .inl ⟨rfl, rfl⟩⟩, by simp, rfl⟩
theorem PeersAt.mem {base : Nat} {W : World} {Bs : List Nat} {v : Value} {ps : List PeerM} (h : PeersAt base W Bs v ps) : ∀ k ∈ Bs, base ≤ k ∧ k < W.heap.size := by
  obtain ⟨vs, hl, h1, h2, rfl⟩ := h
  intro k hk
  obtain ⟨x, hx, hxk⟩ := List.mem_filterMap.1 hk
  rcases List.mem_cons.1 hx with rfl | hx
  · exact own_lt h1 hxk
  · obtain ⟨i, hi, rfl⟩ := List.getElem_of_mem hx
    exact own_lt (h2 i _ _ (List.getElem?_eq_getElem (by omega)) (List.getElem?_eq_getElem hi)) hxk
theorem PeersAt.kept {base : Nat} {W W' : World} {Bs : List Nat} {v : Value} {ps : List PeerM} (h : PeersAt base W Bs v ps) (hk : ∀ k ∈ Bs, W'.heap[k]? = W.heap[k]?) : PeersAt base W' Bs v ps := by
  obtain ⟨vs, hl, h1, h2, rfl⟩ := h
  refine ⟨vs, hl, own_kept h1 fun k e => hk k (List.mem_filterMap.2 ⟨v, List.mem_cons_self .., e⟩), fun i p x hp hx => own_kept (h2 i p x hp hx) fun k e => hk k (List.mem_filterMap.2 ⟨x, List.mem_cons_of_mem _ (List.mem_of_getElem? hx), e⟩), rfl⟩
/-- the names of the section: m lines were read -/
def SeenAt (base gp m : Nat) (Bs : List Nat) (W : World) (mv : Value) : Option (List (List UInt8)) → Prop
  | none => mv = .map none
  | some S => ∃ gm, mv = .map (some gm) ∧ base ≤ gm ∧ gm ≠ gp ∧ gm ∉ Bs ∧ S.length ≤ m ∧ NamesAt Tryz.prog 9 4 W gm S.length S
theorem SeenAt.kept {base gp m : Nat} {Bs : List Nat} {W W' : World} {mv : Value} {o : Option (List (List UInt8))} (h : SeenAt base gp m Bs W mv o) (hk : ∀ k, k < W.heap.size → k ≠ gp → k ∉ Bs → W'.heap[k]? = W.heap[k]?) : SeenAt base gp m Bs W' mv o := by
  cases o with
  | none => exact h
  | some S =>
    obtain ⟨gm, h1, h2, h3, h4, h5, h6⟩ := h
    exact ⟨gm, h1, h2, h3, h4, h5, h6.kept (hk gm h6.lt h3 h4)⟩
theorem SeenAt.mono {base gp m m' : Nat} {Bs : List Nat} {W : World} {mv : Value} {o : Option (List (List UInt8))} (h : SeenAt base gp m Bs W mv o) (hm : m ≤ m') : SeenAt base gp m' Bs W mv o := by
  cases o with
  | none => exact h
  | some S =>
    obtain ⟨gm, h1, h2, h3, h4, h5, h6⟩ := h
    exact ⟨gm, h1, h2, h3, h4, Nat.le_trans h5 hm, h6⟩
def psC (c : ConfM) (line : Nat) (mv v : Value) : List Value := c.cells v ++ [.int .i64 (line : Int), mv]
structure PsAt (base gp m : Nat) (W : World) (s : PsM) (line : Nat) (mv v : Value) (Bs : List Nat) : Prop where
  ok : s.conf.ok
  low : base ≤ gp
  nd : Bs.Nodup
  nin : gp ∉ Bs
  blk : Blk W gp 83 (psC s.conf line mv v)
  peers : PeersAt base W Bs v s.conf.peers
  seen : SeenAt base gp m Bs W mv s.seen
def PsA (base gp m : Nat) (W : World) (s : PsM) (line : Nat) : Prop := ∃ mv v Bs, PsAt base gp m W s line mv v Bs
section
variable {base gp m : Nat} {W W' : World} {s : PsM} {line : Nat} {mv v : Value} {Bs : List Nat}
theorem PsAt.all (h : PsAt base gp m W s line mv v Bs) (hk : ∀ k, k < W.heap.size → W'.heap[k]? = W.heap[k]?) : PsAt base gp m W' s line mv v Bs :=
  ⟨h.ok, h.low, h.nd, h.nin, by
    have := h.blk
    unfold Blk at this ⊢
    rw [hk gp h.blk.lt]
    exact this, h.peers.kept fun k hb => hk k (h.peers.mem k hb).2, h.seen.kept fun k h1 _ _ => hk k h1⟩
theorem PsAt.below (h : PsAt base gp m W s line mv v Bs) (hb : Below W.heap.size W W') : PsAt base gp m W' s line mv v Bs := h.all fun k hk => hb.block k hk
theorem PsA.below (h : PsA base gp m W s line) (hb : Below W.heap.size W W') : PsA base gp m W' s line := by
  obtain ⟨mv, v, Bs, h⟩ := h
  exact ⟨mv, v, Bs, h.below hb⟩
/-- the parser's own block is written -/
theorem PsAt.put (h : PsAt base gp m W s line mv v Bs) (hk : KeptBut W W' gp) {c : ConfM} {line' : Nat} (hc : c.ok) (hp : c.peers = s.conf.peers) (hb : Blk W' gp 83 (psC c line' mv v)) : PsAt base gp m W' ⟨c, s.seen⟩ line' mv v Bs :=
  ⟨hc, h.low, h.nd, h.nin, hb, by rw [hp]; exact h.peers.kept fun k hb => hk.2 k (h.peers.mem k hb).2 (fun e => h.nin (e ▸ hb)), h.seen.kept fun k h1 h2 _ => hk.2 k h1 h2⟩
/-- a new map -/
theorem PsAt.newMap (h : PsAt base gp m W s line mv v Bs) (hw : base ≤ W.heap.size) {gm : Nat} (hgm : gm = W.heap.size) (hk : KeptBut W W' gp) (hn : NamesAt Tryz.prog 9 4 W' gm 0 []) (hb : Blk W' gp 83 (psC s.conf line (.map (some gm)) v)) : PsAt base gp m W' ⟨s.conf, some []⟩ line (.map (some gm)) v Bs :=
  ⟨h.ok, h.low, h.nd, h.nin, hb, h.peers.kept fun k hb => hk.2 k (h.peers.mem k hb).2 (fun e => h.nin (e ▸ hb)), gm, rfl, by omega, by
    have := h.blk.lt
    omega, fun hm => by
    have := (h.peers.mem _ hm).2
    omega, Nat.zero_le _, hn⟩
/-- a name is noted -/
theorem PsAt.note {gm : Nat} {S : List (List UInt8)} {name : List UInt8} (h : PsAt base gp m W s line (.map (some gm)) v Bs) (hs : s.seen = some S) (hk : KeptBut W W' gm) (hn : NamesAt Tryz.prog 9 4 W' gm (S.length + 1) (name :: S)) : PsAt base gp (m + 1) W' ⟨s.conf, some (name :: S)⟩ line (.map (some gm)) v Bs := by
  have hseen := h.seen
  rw [hs] at hseen
  obtain ⟨g', he, h2, h3, h4, h5, h6⟩ := hseen
  injection he with he
  injection he with he
  subst he
  refine ⟨h.ok, h.low, h.nd, h.nin, ?_, h.peers.kept fun k hb => hk.2 k (h.peers.mem k hb).2 (fun e => h4 (e ▸ hb)), gm, rfl, h2, h3, h4, by simpa using h5, hn⟩
  have := h.blk
  unfold Blk at this ⊢
  rw [hk.2 gp h.blk.lt (Ne.symm h3)]
  exact this
end
theorem psC_length {c : ConfM} (h : c.ok) (line : Nat) (mv v : Value) : (psC c line mv v).length = 36 := by
  rw [psC, List.length_append, ConfM.cells_length h]; rfl
theorem psC_at {c : ConfM} (h : c.ok) (line : Nat) (mv v : Value) : (psC c line mv v)[33]? = some v ∧ (psC c line mv v)[34]? = some (.int .i64 (line : Int)) ∧ (psC c line mv v)[35]? = some mv := by
  have hl := ConfM.cells_length h v
  have hp : (c.priv.map u8v).length = 32 := by rw [List.length_map, h.1]
  refine ⟨?_, ?_, ?_⟩
  · rw [psC, List.getElem?_append_left (by omega), ConfM.cells, List.getElem?_append_right (by omega), hp]; rfl
  · rw [psC, List.getElem?_append_right (by omega), hl]; rfl
  · rw [psC, List.getElem?_append_right (by omega), hl]; rfl
theorem psC_port {c : ConfM} (h : c.ok) (line : Nat) (mv v : Value) : (psC c line mv v)[32]? = some (.int .i64 c.port) := by
  have hl := ConfM.cells_length h v
  have hp : (c.priv.map u8v).length = 32 := by rw [List.length_map, h.1]
  rw [psC, List.getElem?_append_left (by omega), ConfM.cells, List.getElem?_append_right (by omega), hp]; rfl
theorem psC_set_line {c : ConfM} (h : c.ok) (line line' : Nat) (mv v : Value) : (psC c line mv v).set 34 (.int .i64 (line' : Int)) = psC c line' mv v := by
  have hl := ConfM.cells_length h v
  rw [psC, List.set_append_right _ _ (by omega), hl]; rfl
theorem psC_set_seen {c : ConfM} (h : c.ok) (line : Nat) (mv mv' v : Value) : (psC c line mv v).set 35 mv' = psC c line mv' v := by
  have hl := ConfM.cells_length h v
  rw [psC, List.set_append_right _ _ (by omega), hl]; rfl
theorem psC_set_port {c : ConfM} (h : c.ok) (line : Nat) (mv v : Value) (q : Int) : (psC c line mv v).set 32 (.int .i64 q) = psC { c with port := q } line mv v := by
  have hl := ConfM.cells_length h v
  have hp : (c.priv.map u8v).length = 32 := by rw [List.length_map, h.1]
  rw [psC, List.set_append_left _ _ (by omega), ConfM.cells, List.set_append_right _ _ (by omega), hp]; rfl
theorem psC_set_priv {c : ConfM} (h : c.ok) (line : Nat) (mv v : Value) (k : List UInt8) (hk : k.length = 32) : setL (psC c line mv v) 0 (k.map u8v) = psC { c with priv := k } line mv v := by
  have hp : (c.priv.map u8v).length = 32 := by rw [List.length_map, h.1]
  have e : psC c line mv v = c.priv.map u8v ++ [.int .i64 c.port, v, .int .i64 (line : Int), mv] := by simp [psC, ConfM.cells]
  rw [setL, e, List.length_map, hk, List.drop_append, hp, List.drop_eq_nil_of_le (by omega)]
  simp [psC, ConfM.cells]
theorem PsAt.seenC {base gp m : Nat} {W : World} {s : PsM} {line : Nat} {mv v : Value} {Bs : List Nat} (h : PsAt base gp m W s line mv v Bs) : W.cell? ⟨gp, 35, none⟩ = some mv := by rw [h.blk.cell]; exact (psC_at h.ok line mv v).2.2
theorem PsAt.lineC {base gp m : Nat} {W : World} {s : PsM} {line : Nat} {mv v : Value} {Bs : List Nat} (h : PsAt base gp m W s line mv v Bs) : W.cell? ⟨gp, 34, none⟩ = some (.int .i64 (line : Int)) := by rw [h.blk.cell]; exact (psC_at h.ok line mv v).2.1
theorem PsAt.peersC {base gp m : Nat} {W : World} {s : PsM} {line : Nat} {mv v : Value} {Bs : List Nat} (h : PsAt base gp m W s line mv v Bs) : W.cell? ⟨gp, 33, none⟩ = some v := by rw [h.blk.cell]; exact (psC_at h.ok line mv v).1
theorem PsAt.portC {base gp m : Nat} {W : World} {s : PsM} {line : Nat} {mv v : Value} {Bs : List Nat} (h : PsAt base gp m W s line mv v Bs) : W.cell? ⟨gp, 32, none⟩ = some (.int .i64 s.conf.port) := by rw [h.blk.cell]; exact psC_port h.ok line mv v
/-- the slice of the peers has as many as there are -/
theorem PsAt.slice {base gp m : Nat} {W : World} {s : PsM} {line : Nat} {mv v : Value} {Bs : List Nat} (h : PsAt base gp m W s line mv v Bs) : ∃ A c, v = .slice A s.conf.peers.length c ∧ s.conf.peers.length ≤ c ∧ c ≤ maxLen := by
  obtain ⟨vs, _, h1, _⟩ := h.peers
  rcases h1.2 with ⟨h2, h3⟩ | ⟨g, cap, cur, h2, _, _, h3, h4, _⟩
  · exact ⟨none, 0, by rw [h2, h3], by omega, Nat.zero_le _⟩
  · exact ⟨_, cap, h2, h3, h4⟩
end Go.Proofs.YtcbfchkhbngpkaaGreatDoor
namespace Go.Proofs.YtcbfchkhbngpkaaGreatDoor
open Go.RowKit

structure Dep where
  bs : List Nat
  P : World → Prop
  loc : ∀ W W' : World, (∀ k ∈ bs, W'.heap[k]? = W.heap[k]?) → P W → P W'
def depB (E : List Dep) : List Nat := E.flatMap fun e => e.bs
/-- all facts hold, their blocks lie above base and are apart -/
def HeapD (base : Nat) (E : List Dep) (W : World) : Prop := (∀ e ∈ E, e.P W) ∧ (∀ k ∈ depB E, base ≤ k ∧ k < W.heap.size) ∧ (depB E).Nodup
/-- a block -/
def blkD (g : Nat) (t : TypeId) (cs : List Value) : Dep := ⟨[g], fun W => Blk W g t cs, fun W W' h hp => by
  unfold Blk at *
  rw [h g (List.mem_singleton.2 rfl)]
  exact hp⟩
/-- a row of the call's own -/
def ownD (base : Nat) (e : TypeId) (size : Nat) (v : Value) (n : Nat) (xs : List Value) : Dep := ⟨v.ownBlock.toList, fun W => W.ownsRow base e size v n xs, fun _ _ h hp => own_kept hp fun k e => h k (by rw [e]; simp)⟩
def peersD (base : Nat) (Bs : List Nat) (v : Value) (ps : List PeerM) : Dep := ⟨Bs, fun W => PeersAt base W Bs v ps, fun _ _ h hp => hp.kept h⟩
theorem pull_perm {α : Type} : ∀ (E : List α) (i : Nat) (e : α), E[i]? = some e → E.Perm (e :: E.eraseIdx i)
  | [], i, e, h => by simp at h
  | x :: r, 0, e, h => by
    have : x = e := by simpa using h
    subst this
    exact List.Perm.refl _
  | x :: r, i + 1, e, h => by
    rw [List.eraseIdx_cons_succ]
    exact ((pull_perm r i e (by simpa using h)).cons x).trans (List.Perm.swap e x _)
section
variable {base : Nat} {E : List Dep} {W W' : World}
theorem HeapD.nil (base : Nat) (W : World) : HeapD base [] W := ⟨by simp, by simp [depB], by simp [depB]⟩
theorem HeapD.get (h : HeapD base E W) (i : Nat) {e : Dep} (he : E[i]? = some e) : e.P W := h.1 e (List.mem_of_getElem? he)
theorem HeapD.blk (h : HeapD base E W) (i : Nat) {g : Nat} {t : TypeId} {cs : List Value} (he : E[i]? = some (blkD g t cs)) : Blk W g t cs := h.get i he
theorem HeapD.own (h : HeapD base E W) (i : Nat) {b : Nat} {e : TypeId} {size n : Nat} {v : Value} {xs : List Value} (he : E[i]? = some (ownD b e size v n xs)) : W.ownsRow b e size v n xs := h.get i he
theorem HeapD.peers (h : HeapD base E W) (i : Nat) {b : Nat} {Bs : List Nat} {v : Value} {ps : List PeerM} (he : E[i]? = some (peersD b Bs v ps)) : PeersAt b W Bs v ps := h.get i he
theorem HeapD.at (h : HeapD base E W) (i : Nat) {e : Dep} (he : E[i]? = some e) {k : Nat} (hk : k ∈ e.bs) : base ≤ k ∧ k < W.heap.size := h.2.1 k (List.mem_flatMap.2 ⟨e, List.mem_of_getElem? he, hk⟩)
theorem HeapD.perm {E' : List Dep} (h : HeapD base E W) (hp : E.Perm E') : HeapD base E' W :=
  ⟨fun e he => h.1 e (hp.mem_iff.2 he), fun k hk => h.2.1 k ((hp.flatMap_right _).mem_iff.2 hk), (hp.flatMap_right _).nodup_iff.1 h.2.2⟩
/-- a fact comes to the front -/
theorem HeapD.pull (h : HeapD base E W) (i : Nat) {e : Dep} (he : E[i]? = some e) : HeapD base (e :: E.eraseIdx i) W := by
  exact h.perm (pull_perm E i e he)
theorem HeapD.below (h : HeapD base E W) (hb : Below W.heap.size W W') : HeapD base E W' :=
  ⟨fun e he => e.loc W W' (fun k hk => hb.block k (h.2.1 k (List.mem_flatMap.2 ⟨e, he, hk⟩)).2) (h.1 e he), fun k hk => ⟨(h.2.1 k hk).1, Nat.lt_of_lt_of_le (h.2.1 k hk).2 hb.size⟩, h.2.2⟩
/-- the facts of T are turned into those of T' -/
theorem HeapD.re {T F : List Dep} (h : HeapD base (T ++ F) W) (T' : List Dep) (hsz : W.heap.size ≤ W'.heap.size) (hbw : base ≤ W.heap.size) (hk : ∀ k, k < W.heap.size → k ∉ depB T → W'.heap[k]? = W.heap[k]?) (hP : ∀ e ∈ T', e.P W')
    (hb : ∀ k ∈ depB T', k ∈ depB T ∨ (W.heap.size ≤ k ∧ k < W'.heap.size)) (hn : (depB T').Nodup) : HeapD base (T' ++ F) W' := by
  obtain ⟨h1, h2, h3⟩ := h
  have e1 : depB (T ++ F) = depB T ++ depB F := List.flatMap_append
  have e2 : depB (T' ++ F) = depB T' ++ depB F := List.flatMap_append
  rw [e1] at h2 h3
  rw [List.nodup_append] at h3
  refine ⟨fun e he => ?_, fun k hk2 => ?_, ?_⟩
  · rcases List.mem_append.1 he with he | he
    · exact hP e he
    · refine e.loc W W' (fun k hke => hk k (h2 k (List.mem_append_right _ (List.mem_flatMap.2 ⟨e, he, hke⟩))).2 fun hkT => ?_) (h1 e (List.mem_append_right _ he))
      exact h3.2.2 k hkT k (List.mem_flatMap.2 ⟨e, he, hke⟩) rfl
  · rw [e2] at hk2
    rcases List.mem_append.1 hk2 with hk2 | hk2
    · rcases hb k hk2 with h | h
      · have := h2 k (List.mem_append_left _ h)
        exact ⟨this.1, Nat.lt_of_lt_of_le this.2 hsz⟩
      · exact ⟨Nat.le_trans hbw h.1, h.2⟩
    · have := h2 k (List.mem_append_right _ hk2)
      exact ⟨this.1, Nat.lt_of_lt_of_le this.2 hsz⟩
  · rw [e2, List.nodup_append]
    refine ⟨hn, h3.2.1, fun a ha b hb2 e => ?_⟩
    subst e
    rcases hb a ha with h | h
    · exact h3.2.2 a h a hb2 rfl
    · have := (h2 a (List.mem_append_right _ hb2)).2
      omega
/-- the first fact is a block that is written -/
theorem HeapD.put {F : List Dep} {g : Nat} {t : TypeId} {cs : List Value} (h : HeapD base (blkD g t cs :: F) W) (hbw : base ≤ W.heap.size) (hk : KeptBut W W' g) {cs' : List Value} (hb : Blk W' g t cs') : HeapD base (blkD g t cs' :: F) W' :=
  HeapD.re (T := [blkD g t cs]) (F := F) h [blkD g t cs'] hk.1 hbw (fun k h1 h2 => hk.2 k h1 (fun e => h2 (by simp [depB, blkD, e]))) (by intro e he; rw [List.mem_singleton] at he; subst he; exact hb) (fun k hk => .inl (by simpa [depB, blkD] using hk)) (by simp [depB, blkD])
theorem HeapD.set {F : List Dep} {g : Nat} {t : TypeId} {cs : List Value} (h : HeapD base (blkD g t cs :: F) W) (hbw : base ≤ W.heap.size) (j : Nat) (u : Value) : HeapD base (blkD g t (cs.set j u) :: F) (W.setCell ⟨g, j, none⟩ u) :=
  h.put hbw .of_set ((h.blk 0 rfl).set_ j u)
/-- the first fact is a row that grows -/
theorem HeapD.grow {F : List Dep} {e : TypeId} {size n m : Nat} {v v' : Value} {xs ys : List Value} (h : HeapD base (ownD base e size v n xs :: F) W) (hbw : base ≤ W.heap.size) (ho : W'.ownsRow base e size v' m ys) (hg : W.grownBy W' v.ownBlock) (hv : v'.ownBlock = v.ownBlock ∨ v'.ownBlock = some W.heap.size) : HeapD base (ownD base e size v' m ys :: F) W' :=
  HeapD.re (T := [ownD base e size v n xs]) (F := F) h [ownD base e size v' m ys] hg.size hbw (fun k h1 h2 => hg.block k h1 (fun e => h2 (by simp [depB, ownD, ← e]))) (by intro e he; rw [List.mem_singleton] at he; subst he; exact ho)
    (fun k hk => by
      have hk2 : v'.ownBlock = some k := by simpa [depB, ownD] using hk
      rcases hv with hv | hv
      · exact .inl (by simp [depB, ownD, ← hv, hk2])
      · rw [hv] at hk2
        injection hk2 with hk2
        have := (own_lt ho (by rw [hv, hk2] : v'.ownBlock = some k)).2
        exact .inr ⟨by omega, this⟩)
    (by simp only [depB, ownD, List.flatMap_cons, List.flatMap_nil, List.append_nil]; cases v'.ownBlock <;> simp)
/-- a new block -/
theorem HeapD.alloc (h : HeapD base E W) (hbw : base ≤ W.heap.size) (t : TypeId) (arr : Array Value) (cs : List Value) (ha : arr = cs.toArray) : HeapD base (blkD W.heap.size t cs :: E) (W.alloc (.cells arr t)) := by
  subst ha
  refine HeapD.re (T := []) (F := E) h [blkD W.heap.size t cs] (by simp) hbw (fun k h1 _ => ((Below.refl W.heap.size W).alloc (Nat.le_refl _) _).block k h1) (by intro e he; rw [List.mem_singleton] at he; subst he; exact Blk.new W t cs) (fun k hk => .inr ?_) (by simp [depB, blkD])
  have : k = W.heap.size := by simpa [depB, blkD] using hk
  simp [this]
/-- a fact of what a call has made -/
theorem HeapD.made (h : HeapD base E W) (hbw : base ≤ W.heap.size) (hb : Below W.heap.size W W') (e : Dep) (he : ∀ k ∈ e.bs, W.heap.size ≤ k ∧ k < W'.heap.size) (hn : e.bs.Nodup) (hp : e.P W') : HeapD base (e :: E) W' :=
  HeapD.re (T := []) (F := E) h [e] hb.size hbw (fun k h1 _ => hb.block k h1) (by intro x hx; rw [List.mem_singleton] at hx; subst hx; exact hp) (fun k hk => .inr (he k (by simpa [depB] using hk))) (by simpa [depB] using hn)
theorem HeapD.drop {F : List Dep} {e : Dep} (h : HeapD base (e :: F) W) : HeapD base F W :=
  ⟨fun x hx => h.1 x (List.mem_cons_of_mem _ hx), fun k hk => h.2.1 k (by simp only [depB, List.flatMap_cons, List.mem_append]; exact .inr hk), by have := h.2.2; simp only [depB, List.flatMap_cons, List.nodup_append] at this; exact this.2.1⟩
end
end Go.Proofs.YtcbfchkhbngpkaaGreatDoor
namespace Go.Proofs.YtcbfchkhbngpkaaGreatDoor
open Go.RowKit

theorem prefC_one (a : AddrM) (bits : Int) : ∀ v ∈ prefC a bits, v.oneCell' = true := by
  intro v hv
  rw [prefC, List.mem_append, List.mem_singleton] at hv
  rcases hv with hv | rfl
  · exact a.one v hv
  · rfl
end Go.Proofs.YtcbfchkhbngpkaaGreatDoor
namespace Go.Proofs.YtcbfchkhbngpkaaGreatDoor
open Go.RowKit

theorem prefInfo : ∃ i, Tryz.prog.info? 60 = some i ∧ i.zero = some (.agg (prefC addr0 0).toArray) ∧ i.size = 18 ∧ i.bytes = 32 := by
  have h : (Tryz.prog.info? 60).map (fun i => (i.zero, i.size, i.bytes)) = some (some (.agg (prefC addr0 0).toArray), 18, 32) := by kernel_rfl
  cases hi : Tryz.prog.info? 60 with
  | none => rw [hi] at h; cases h
  | some i =>
    rw [hi] at h
    simp only [Option.map_some, Option.some.injEq, Prod.mk.injEq] at h
    exact ⟨i, rfl, h.1, h.2.1, h.2.2⟩
theorem pref_oneR (a : AddrM) (b : Int) : ∀ v ∈ prefC a b, v.oneCell' = true := by
  intro v hv
  rw [prefC, AddrM.cells] at hv
  simp only [List.cons_append, List.mem_cons, List.mem_append, List.mem_map, List.not_mem_nil, or_false] at hv
  rcases hv with rfl | ⟨x, _, rfl⟩ | rfl <;> rfl
theorem pfsV_snoc (l : List (AddrM × Int)) (p : AddrM × Int) : (pfsV (l ++ [p])).flatten = (pfsV l).flatten ++ prefC p.1 p.2 := by simp [pfsV]
end Go.Proofs.YtcbfchkhbngpkaaGreatDoor
namespace Go.Proofs.YtcbfchkhbngpkaaGreatDoor
open Go.RowKit

theorem keyInfo : ∃ i, Tryz.prog.info? 24 = some i ∧ i.zero = some (.agg (aeZ 32).toArray) ∧ i.size = 32 ∧ i.bytes = 32 := by
  have h : (Tryz.prog.info? 24).map (fun i => (i.zero, i.size, i.bytes)) = some (some (.agg (aeZ 32).toArray), 32, 32) := by kernel_rfl
  cases hi : Tryz.prog.info? 24 with
  | none => rw [hi] at h; cases h
  | some i =>
    rw [hi] at h
    simp only [Option.map_some, Option.some.injEq, Prod.mk.injEq] at h
    exact ⟨i, rfl, h.1, h.2.1, h.2.2⟩
end Go.Proofs.YtcbfchkhbngpkaaGreatDoor
