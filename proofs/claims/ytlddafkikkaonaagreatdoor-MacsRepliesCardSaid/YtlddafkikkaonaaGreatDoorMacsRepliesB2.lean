/-
  What is asked of the functions of layer 12, by a function's number (the program's or the reference's). What a walk keeps of what lies under the world's size, whoever made it: a list of facts that whatever is made above leaves alone. A slice of zeros that is made in a drawn region, under a guard. Pieces of a slice of bytes whose address is not known: what x[i:j] and x[i:] give, and what they read as. Slices of bytes with three indices. Building an array of arrays, stated over a list of its parts. The cells of a key. The cells of a tag. The load of a whole array that lies at an offset inside a block of several. A slice built of two arrays: its block holds the one behind the other. Structs and arrays in memory: loads and stores of a whole one at an offset, and that one is found equal to itself. The sanity check of layer 12's laws: the example of the chapter. The contract of the reference's Join: the parts one after the other. One round of reading a number: bits joined. The contract of the reference's Little. The contract of the reference's ReadLittle. The reference's Join of a list of slices; its numbers of four bytes; the fields of a message as slices. No statement is proved here.
-/
import Derived.Outline
import Derived.DeepKeys
import Derived.Deep.QuietTactic
import Derived.BigQuiet
import Derived.RegionTactic
import Derived.BigRegion
import Derived.Deep.RegionWith
import Derived.Deep.DeepCutAuto
import Derived.Maps.AppendAt
import Derived.Laws.Bits64
import Derived.Laws.BitsAllLaws
import Derived.Test.YtlddafkikkaonaaGreatDoorMacsRepliesB1
namespace Go.Proofs.YtlddafkikkaonaaGreatDoor
open Go.RowKit
def McMac1C (F : Nat) : Prop := ∀ (p : List UInt8), p.length = 32 → ∀ (A : Option Addr) (n c : Nat) (part : List UInt8), n ≤ c → c ≤ maxLen → n ≤ 100000 → ∀ w : World, LvBlake w → Rd w w.heap.size A n part →
 Calls Tryz.prog F #[.agg (p.map u8v).toArray, .slice A n c] w fun e w' => e = .returned (.agg ((mac1B p part).map u8v).toArray) ∧ Below w.heap.size w w'
def McSealC (F k : Nat) : Prop := ∀ (p ck : List UInt8), p.length = 32 → ck.length = 16 → ∀ (has : Bool) (m : MsgM), m.ok k → ∀ w : World, LvBlake w →
 Calls Tryz.prog F #[.agg (p.map u8v).toArray, .bool has, .agg (ck.map u8v).toArray, .agg m.cells.toArray] w fun e w' => ∃ A c, e = .returned (.tuple #[.slice A (msLen k) c, .agg ((macM p k m).map u8v).toArray]) ∧ msLen k ≤ c ∧ c ≤ maxLen ∧ RdIn w.heap.size w'.heap.size A (msLen k) (encB k (sealM p has ck k m)) w' ∧ Below w.heap.size w w'
def McCheck1C (F : Nat) : Prop := ∀ (p : List UInt8), p.length = 32 → ∀ (A : Option Addr) (n c : Nat) (l : List UInt8), n ≤ c → c ≤ maxLen → n ≤ 100000 → ∀ w : World, LvBlake w → Rd w w.heap.size A n l →
 Calls Tryz.prog F #[.agg (p.map u8v).toArray, .slice A n c] w fun e w' => e = .returned (.bool (check1B p l)) ∧ Below w.heap.size w w'
structure Low where
 P : World → Prop
 keep : ∀ W W' : World, Below W.heap.size W W' → P W → P W'
/-- bytes that a slice reads as -/
def rdL (A : Option Addr) (n : Nat) (l : List UInt8) : Low := ⟨fun W => Rd W W.heap.size A n l, fun _ _ hb h => (h.below hb).mono hb.size⟩
/-- a block -/
def blkL (g : Nat) (t : TypeId) (cs : List Value) : Low := ⟨fun W => Blk W g t cs, fun _ _ hb h => h.below hb h.lt⟩
/-- a row of bytes that was made above base -/
def ownL (base : Nat) (v : Value) (n : Nat) (xs : List Value) : Low := ⟨fun W => W.ownsRow base 5 1 v n xs, fun _ _ hb h => ⟨h.1, by
 rcases h.2 with h1 | ⟨g, cap, cur, hv, hbg, hg, hr⟩
 · exact .inl h1
 · exact .inr ⟨g, cap, cur, hv, hbg, (hb.block g (h.lt g (by rw [hv]; rfl)).2).trans hg, hr⟩⟩⟩
def Lows (w0 : World) (E : List Low) (W : World) : Prop := (∀ f ∈ E, f.P W) ∧ Below w0.heap.size w0 W
section
variable {w0 W W' : World} {E : List Low}
theorem Lows.nil (w0 : World) : Lows w0 [] w0 := ⟨fun f hf => absurd hf (by simp), Below.refl _ _⟩
theorem Lows.bel (h : Lows w0 E W) : Below w0.heap.size w0 W := h.2
theorem Lows.size (h : Lows w0 E W) : w0.heap.size ≤ W.heap.size := h.2.size
theorem Lows.below (h : Lows w0 E W) (hb : Below W.heap.size W W') : Lows w0 E W' := ⟨fun f hf => f.keep _ _ hb (h.1 f hf), h.2.trans (hb.mono h.2.size)⟩
theorem Lows.drew (h : Lows w0 E W) : Lows w0 E W.drew := h.below ((Below.refl _ _).drew)
theorem Lows.cons (h : Lows w0 E W) (f : Low) (hf : f.P W) : Lows w0 (f :: E) W :=
 ⟨fun g hg => by
  rcases List.mem_cons.1 hg with rfl | hg
  · exact hf
  · exact h.1 g hg, h.2⟩
theorem Lows.get (h : Lows w0 E W) (i : Nat) {f : Low} (he : E[i]? = some f) : f.P W := h.1 _ (List.mem_of_getElem? he)
theorem Lows.rd (h : Lows w0 E W) (i : Nat) {A : Option Addr} {n : Nat} {l : List UInt8} (he : E[i]? = some (rdL A n l)) : Rd W W.heap.size A n l := h.get i he
theorem Lows.blk (h : Lows w0 E W) (i : Nat) {g : Nat} {t : TypeId} {cs : List Value} (he : E[i]? = some (blkL g t cs)) : Blk W g t cs := h.get i he
theorem Lows.own (h : Lows w0 E W) (i : Nat) {base : Nat} {v : Value} {n : Nat} {xs : List Value} (he : E[i]? = some (ownL base v n xs)) : W.ownsRow base 5 1 v n xs := h.get i he
theorem Lows.tail (h : Lows w0 E W) (i : Nat) : Lows w0 (E.eraseIdx i) W := ⟨fun f hf => h.1 f (List.mem_of_mem_eraseIdx hf), h.2⟩
/-- a new block -/
theorem Lows.alloc (h : Lows w0 E W) (t : TypeId) (arr : Array Value) (cs : List Value) (ha : arr = cs.toArray) : Lows w0 (blkL W.heap.size t cs :: E) (W.alloc (.cells arr t)) := by
 subst ha
 exact (h.below ((Below.refl _ _).alloc (Nat.le_refl _) _)).cons (blkL _ _ _) (Blk.new W t cs)
/-- a block above is written -/
theorem Lows.grown (h : Lows w0 E W) {W2 : World} (hb : Below W.heap.size W W') {row : Option Nat} (hg : W'.grownBy W2 row) (hr : ∀ k, row = some k → W.heap.size ≤ k) : Lows w0 E W2 := h.below (hb.grown hg hb.size hr)
/-- a new block that is written at once -/
theorem Lows.stored (h : Lows w0 E W) {t : TypeId} {arr : Array Value} {cs : List Value} {W2 : World} (hg : (W.alloc (.cells arr t)).grownBy W2 (some W.heap.size)) (hb : Blk W2 W.heap.size t cs) : Lows w0 (blkL W.heap.size t cs :: E) W2 :=
 (h.grown ((Below.refl _ _).alloc (Nat.le_refl _) _) hg (by intro k hk; injection hk with hk; omega)).cons (blkL _ _ _) hb
end
theorem step_make_full_g {P : Program} (w : World) {ops : Array Oper} {o : Oper} {a : Act} {K : Act → World → Prop} {Q : Exit → Act → World → Prop} {E : Prop} (hw : Region.wanted o (yielded ops a.tmps) = true) (l c : Operand) (t : TypeId) (ho : o.op = Op.makeSlice t l c)
 (base : Nat) (e : TypeId) (i : TypeInfo) (z : Value) (size : Nat) (h1 : P.underlying t = some (.slice e)) (h2 : P.info? e = some i) (h3 : i.zero = some z) (h4 : i.size = size)
 (kl kc : IntKind) (n : Nat) (hl : a.eval l = .int kl (n : Int)) (hc : a.eval c = .int kc (n : Int)) (b2 : i.bytes * n ≤ 281474976710656) (b3 : n ≤ maxLen) (b4 : base ≤ w.heap.size)
 (h : ∀ w', w'.ownsRow base e size (.slice (some ⟨w.heap.size, 0, none⟩) n n) n (madeCells z.cells (n * size)).toList → w.grownBy w' none → K (a.put o.dst (.slice (some ⟨w.heap.size, 0, none⟩) n n)) w') :
 if Region.wanted o (yielded ops a.tmps) = true then Oper.wp P o a w K Q else E := by
 rw [if_pos hw]
 obtain ⟨w', hrun, r1, r2⟩ := run_make_full (P := P) w base t e i z size h1 h2 h3 h4 kl kc n b2 b3 b4
 unfold Oper.wp
 simp [execOp, ho, hl, hc, hrun, Result.andThen]
 exact h w' r1 r2
theorem made_in (n : Nat) : (madeCells (Value.int IntKind.u8 0).cells (n * 1)).toList = (List.replicate n (0 : UInt8)).map u8v := by
 rw [show (Value.int IntKind.u8 0).cells = #[.int .u8 0] from rfl, toList_madeCells_one, Nat.mul_one, List.map_replicate]
 rfl
theorem bytes_under : Tryz.prog.underlying 29 = some (.slice (Tryz.prog.elem 29)) := by kernel_rfl
theorem bytes_size (w : World) : (sizeOf (Tryz.prog.elem 29)).run Tryz.prog w = .ok 1 w := by
 obtain ⟨i0, hi, hz0, hz1, hz2⟩ := info_parts Tryz.info5
 have e : Tryz.prog.elem 29 = 5 := by kernel_rfl
 rw [e]
 simp [sizeOf, typeInfo, hi, hz1]
/-- the address behind i elements, as the model keeps it -/
def addrOf (A : Option Addr) (i c : Nat) : Option Addr := if c = i then A else A.map (·.add (i * 1))
theorem Rd.behind {W : World} {B n : Nat} {A : Option Addr} {l : List UInt8} (h : Rd W B A n l) (i c : Nat) (hi : i ≤ n) (hc : n ≤ c) : Rd W B (addrOf A i c) (n - i) (l.drop i) := by
 unfold addrOf
 by_cases e : c = i
 ·
  have e0 : n - i = 0 := by omega
  rw [if_pos e, e0, List.drop_of_length_le (by have := h.1; omega)]
  exact Rd.nil _ _ _
 ·
  rw [if_neg e]
  rcases Nat.eq_zero_or_pos (n - i) with h0 | h0
  ·
   rw [h0, List.drop_of_length_le (by have := h.1; omega)]
   exact Rd.nil _ _ _
  ·
   obtain ⟨b, off, rfl, _, _⟩ := h.2 (by omega)
   rw [Option.map_some, Go.WideShapes.add_plain, Nat.mul_one]
   exact h.drop i b off rfl hi
set_option maxRecDepth 100000 in
theorem slice_lh (A : Option Addr) (n c i j : Nat) (h1 : i ≤ j) (h2 : j ≤ n) (h3 : n ≤ c) (w : World) : (Instr.sliceAt 29 (.slice A n c) (some (.int .i64 (i : Int))) (some (.int .i64 (j : Int))) none).run Tryz.prog w = .ok (.slice (addrOf A i c) (j - i) (c - i)) w := by
 rw [run_sliceAt_slice (P := Tryz.prog) (w := w) 29 _ _ _ _ bytes_under, run_slice_lh (P := Tryz.prog) (w := w) 29 A n c bytes_under .i64 .i64 i j (by omega) (by omega) (by omega), bytes_size]
 simp only [Result.andThen, sliced, Int.toNat_natCast]
 rfl
set_option maxRecDepth 100000 in
theorem slice_l (A : Option Addr) (n c i : Nat) (h2 : i ≤ n) (w : World) : (Instr.sliceAt 29 (.slice A n c) (some (.int .i64 (i : Int))) none none).run Tryz.prog w = .ok (.slice (addrOf A i c) (n - i) (c - i)) w := by
 rw [run_sliceAt_slice (P := Tryz.prog) (w := w) 29 _ _ _ _ bytes_under, run_slice_l (P := Tryz.prog) (w := w) 29 A n c bytes_under .i64 i (by omega) (by omega), bytes_size]
 simp only [Result.andThen, sliced, Int.toNat_natCast]
 rfl
set_option maxRecDepth 100000 in
theorem slice_h (A : Option Addr) (hA : ∃ b off, A = some ⟨b, off, none⟩) (n c j : Nat) (h2 : j ≤ c) (w : World) : (Instr.sliceAt 29 (.slice A n c) none (some (.int .i64 (j : Int))) none).run Tryz.prog w = .ok (.slice A j c) w := by
 obtain ⟨b, off, rfl⟩ := hA
 rw [run_sliceAt_slice (P := Tryz.prog) (w := w) 29 _ _ _ _ bytes_under, run_slice_h (P := Tryz.prog) (w := w) 29 _ n c bytes_under .i64 j (by omega) (by omega), bytes_size]
 simp only [Result.andThen, sliced, Int.toNat_natCast, Option.map_some, Go.WideShapes.add_plain, Nat.zero_mul, Nat.add_zero, Nat.sub_zero, ite_self]
set_option maxRecDepth 100000 in
theorem slice_lhm (A : Option Addr) (n c i j m : Nat) (h1 : i ≤ j) (h2 : j ≤ m) (h3 : m ≤ c) (w : World) : (Instr.sliceAt 29 (.slice A n c) (some (.int .i64 (i : Int))) (some (.int .i64 (j : Int))) (some (.int .i64 (m : Int)))).run Tryz.prog w = .ok (.slice (addrOf A i m) (j - i) (m - i)) w := by
 rw [run_sliceAt_slice (P := Tryz.prog) (w := w) 29 _ _ _ _ bytes_under, run_slice_lhm (P := Tryz.prog) (w := w) 29 A n c bytes_under .i64 .i64 .i64 i j m (by omega) (by omega) (by omega) (by omega), bytes_size]
 simp only [Result.andThen, sliced, Int.toNat_natCast]
 rfl
set_option maxRecDepth 100000 in
theorem slice_hm (b off n c j m : Nat) (h2 : j ≤ m) (h3 : m ≤ c) (w : World) : (Instr.sliceAt 29 (.slice (some ⟨b, off, none⟩) n c) none (some (.int .i64 (j : Int))) (some (.int .i64 (m : Int)))).run Tryz.prog w = .ok (.slice (some ⟨b, off, none⟩) j m) w := by
 rw [run_sliceAt_slice (P := Tryz.prog) (w := w) 29 _ _ _ _ bytes_under, run_slice_hm (P := Tryz.prog) (w := w) 29 _ n c bytes_under .i64 .i64 j m (by omega) (by omega) (by omega), bytes_size]
 simp only [Result.andThen, sliced, Int.toNat_natCast, Option.map_some, Go.WideShapes.add_plain, Nat.zero_mul, Nat.add_zero, Nat.sub_zero, ite_self]
theorem addrOf_lt (b off i m : Nat) (h : i < m) : addrOf (some ⟨b, off, none⟩) i m = some ⟨b, off + i, none⟩ := by
 rw [addrOf, if_neg (by omega), Option.map_some, Go.WideShapes.add_plain, Nat.mul_one]
theorem wpList_build_as {P : Program} {ops : Array Oper} {rest : List Oper} {o : Oper} {a : Act} {w : World} {Q : Exit → Act → World → Prop} (hg : o.guard = none) (t : TypeId) (parts : List (Nat × Operand)) (ho : o.op = .build t parts.toArray) (v : Array Value)
 (hb : P.built t (parts.map fun p => (p.1, a.eval p.2)) = some v) (h : wpList P ops Q rest (a.put o.dst (.agg v)) w) : wpList P ops Q (o :: rest) a w :=
 have e : (parts.toArray.map fun (i, x) => (i, a.eval x)).toList = parts.map fun p => (p.1, a.eval p.2) := by simp
 wpList_build hg t parts.toArray ho (by rw [e, hb]; rfl) (by rw [e, hb]; exact h)
theorem cells32 (l : List UInt8) (h : l.length = 32) : (Tryz.prog.info? 23).map (·.size) = some (l.map u8v).length := by
 rw [List.length_map, h]; kernel_rfl
theorem ae_cellsT (l : List UInt8) (h : l.length = 16) : (Tryz.prog.info? 27).map (·.size) = some (l.map u8v).length := by
 rw [List.length_map, h]; kernel_rfl
/-- row i of a block of rows of n cells -/
theorem Blk.row {w : World} {g : Nat} {t : TypeId} {xs : List Value} (h : Blk w g t xs) (off n : Nat) : ∀ j v, ((xs.drop off).take n)[j]? = some v → w.cell? ⟨g, off + j, none⟩ = some v := fun j v hv => by
 rw [h.cell]
 rw [List.getElem?_take] at hv
 split at hv
 · rwa [List.getElem?_drop] at hv
 · cases hv
theorem foldl_set_list (off : Nat) (xs : List Value) : ∀ (k : Nat) (cs : Array Value), off + k + xs.length ≤ cs.size →
 ((xs.zipIdx k).foldl (fun cs (x : Value × Nat) => cs.setIfInBounds (off + x.2) x.1) cs).toList = cs.toList.take (off + k) ++ xs ++ cs.toList.drop (off + k + xs.length) := by
 induction xs with
 | nil => intro k cs h; simp
 | cons x xs ih =>
  intro k cs h
  rw [List.zipIdx_cons, List.foldl_cons, ih (k + 1) _ (by simp at h ⊢; omega)]
  have hl : off + k < cs.toList.length := by simp at h ⊢; omega
  simp only [Array.toList_setIfInBounds, List.length_cons]
  rw [List.drop_set_of_lt (by omega), show off + (k + 1) = off + k + 1 by omega, List.take_set, List.take_succ_eq_append_getElem hl, List.set_append_right _ _ (by simp; omega)]
  simp [show min (off + k) cs.size = off + k by simp at h; omega, show off + k + 1 + xs.length = off + k + (xs.length + 1) by omega]
theorem two_tests {p q : Prop} [Decidable p] [Decidable q] (hp : ¬p) (hq : ¬q) : ¬(decide p || decide q) = true := by simp [hp, hq]
theorem fill_two (n : Nat) (base a b : Array Value) (hb : base.size = 2 * n) (ha : a.size = n) (hb2 : b.size = n) :
 Instr.fill (fun i => some (i * n, n)) base [(0, .agg a), (1, .agg b)] = some (a ++ b) := by
 have h1 : ∀ (off : Nat) (v cs : Array Value), off + v.size ≤ cs.size → (v.zipIdx.foldl (fun cs (x : Value × Nat) => cs.setIfInBounds (off + x.2) x.1) cs).toList = cs.toList.take off ++ v.toList ++ cs.toList.drop (off + v.size) := by
  intro off v cs h
  have := foldl_set_list off v.toList 0 cs (by simpa using h)
  rw [← Array.foldl_toList]
  simpa using this
 have hA := h1 (0 * n) a base (by omega)
 have hAs : (a.zipIdx.foldl (fun cs (x : Value × Nat) => cs.setIfInBounds (0 * n + x.2) x.1) base).size = 2 * n := by
  rw [← Array.length_toList, hA]; simp; omega
 have hB := h1 (1 * n) b _ (by rw [hAs]; omega)
 refine (if_neg (two_tests (fun hne => hne ha) (fun hlt : 0 * n + a.size > base.size => by omega))).trans ?_
 refine (if_neg (two_tests (fun hne => hne hb2) (fun hlt : 1 * n + b.size > (Array.foldl (fun cs (x : Value × Nat) => cs.setIfInBounds (0 * n + x.2) x.1) base a.zipIdx).size => by rw [hAs] at hlt; omega))).trans ?_
 refine congrArg some (Array.ext' (hB.trans ?_))
 rw [hA]
 have e0 : List.drop (n + n) base.toList = [] := List.drop_eq_nil_of_le (by simp; omega)
 simp [ha, hb2, e0, List.drop_append]
theorem wpList_buildTwo {P : Program} {w : World} {ops : Array Oper} {rest : List Oper} {o : Oper} {act : Act} {Q : Exit → Act → World → Prop} (hgd : o.guard = none) (ty e : TypeId) (x y : Operand) (ho : o.op = .buildSlice ty 2 #[(0, x), (1, y)])
 (a b : Array Value) (hx : act.eval x = .agg a) (hy : act.eval y = .agg b) (n : Nat) (hu : P.underlying ty = some (.slice e)) (i : TypeInfo) (hi : P.info? e = some i) (hs : i.size = n) (z : Value) (hz : i.zero = some z) (hn0 : 0 < n) (hn1 : n ≤ 1000) (ha : a.size = n) (hb : b.size = n)
 (h : wpList P ops Q rest (act.put o.dst (.slice (some ⟨w.heap.size, 0, none⟩) 2 2)) (w.alloc (.cells (a ++ b) e))) : wpList P ops Q (o :: rest) act w :=
 wpList_plain hgd fun K hK => by
  unfold Oper.wp execOp
  have hf := fun z : Array Value => fill_two n ((Array.range (2 * n)).map (z[· % z.size]!)) a b (by simp) ha hb
  have h24 : ¬ 2 * n > 2 ^ 24 := by omega
  have h20 : ¬ 2 * n = 0 := by omega
  simp only [ho, Instr.buildSlice, Sem.run_bind, run_underlying hu, sizeOf, zeroValue, typeInfo, Result.andThen_ok]
  simp [hi, hs, hz, hf, h24, h20, newRow, hx, hy]
  exact hK _ _ h
/-- a struct or an array -/
def isObj (d : TypeDesc) : Bool := match d with | .struct _ | .array _ _ => true | _ => false
/-- the cells at an address -/
def At (w : World) (g off : Nat) (cs : List Value) : Prop := ∀ j v, cs[j]? = some v → w.cell? ⟨g, off + j, none⟩ = some v
theorem Blk.sub {w : World} {g : Nat} {t : TypeId} {xs : List Value} (h : Blk w g t xs) (off n : Nat) : At w g off ((xs.drop off).take n) := fun j v hv => by
 rw [h.cell]
 rw [List.getElem?_take] at hv
 split at hv
 · rwa [List.getElem?_drop] at hv
 · cases hv
theorem Blk.all {w : World} {g : Nat} {t : TypeId} {xs : List Value} (h : Blk w g t xs) : At w g 0 xs := fun j v hv => by
 rw [Nat.zero_add, h.cell]; exact hv
theorem Rd.byt {w : World} {B b off n : Nat} {l : List UInt8} (h : Rd w B (some ⟨b, off, none⟩) n l) (j : Nat) (hj : j < n) : w.cell? ⟨b, off + j, none⟩ = some (.int .u8 ((l.getD j 0).toNat : Int)) := by
 obtain ⟨b', off', e, _, hc⟩ := h.at_ (by omega)
 injection e with e
 injection e with e1 e2
 subst e1
 subst e2
 rw [hc j (by rw [h.1]; exact hj), List.getD_eq_getElem?_getD, List.getElem?_eq_getElem (by rw [h.1]; exact hj)]
 rfl
theorem run_load_obj {P : Program} (w : World) (g off : Nat) (ty : TypeId) (cs : List Value) (hc : At w g off cs) (d : TypeDesc) (hu : P.underlying ty = some d) (hd : isObj d = true) (hi : (P.info? ty).map (·.size) = some cs.length) :
 (loadVar ty ⟨g, off, none⟩).run P w = .ok (.agg cs.toArray) w := by
 have hl := run_loadCells_list (P := P) w ⟨g, off, none⟩ cs (fun j v hv => by
  rw [Go.WideShapes.add_plain]
  exact hc j v hv)
 cases hq : P.info? ty with
 | none => simp [hq] at hi
 | some i =>
  have hs : i.size = cs.length := by simpa [hq] using hi
  have hagg : (isAgg ty).run P w = .ok true w := by
   unfold isAgg
   rw [Sem.run_bind, run_underlying hu w]
   cases d <;> simp_all [isObj]
  simp [loadVar, Sem.run_bind, hagg, sizeOf, typeInfo, hq, hs, hl]
theorem wpList_load_obj {P : Program} {w : World} {ops : Array Oper} {rest : List Oper} {o : Oper} {a : Act} {Q : Exit → Act → World → Prop} (hgd : o.guard = none) (ty : TypeId) (x : Operand) (ho : o.op = .load ty x)
 (g off : Nat) (hx : a.eval x = .pointer (some ⟨g, off, none⟩)) (cs : List Value) (hc : At w g off cs) (d : TypeDesc) (hu : P.underlying ty = some d) (hd : isObj d = true) (hi : (P.info? ty).map (·.size) = some cs.length)
 (h : wpList P ops Q rest (a.put o.dst (.agg cs.toArray)) w) : wpList P ops Q (o :: rest) a w :=
 wpList_plain hgd fun K hK => by
  unfold Oper.wp execOp
  simp only [ho, hx, Instr.loadAt, Instr.sureAddr, Sem.run_bind, Sem.run_pure, Result.andThen_ok, run_load_obj w g off ty cs hc d hu hd hi]
  exact hK _ _ h
theorem yields_load_obj {P : Program} {ops : Array Oper} {S : World → Prop} {o : Oper} {a : Act} (hw : Region.wanted o (yielded ops a.tmps) = true) (ty : TypeId) (x : Operand) (ho : o.op = .load ty x)
 (g off : Nat) (hx : a.eval x = .pointer (some ⟨g, off, none⟩)) (cs : List Value) (hS : ∀ w, S w → At w g off cs) (d : TypeDesc) (hu : P.underlying ty = some d) (hd : isObj d = true) (hi : (P.info? ty).map (·.size) = some cs.length) :
 YieldsIf P ops S o (.agg cs.toArray) a := by
 refine .inl ⟨hw, fun w h => ?_⟩
 unfold execOp
 simp only [ho, hx, Instr.loadAt, Instr.sureAddr, Sem.run_bind, Sem.run_pure, Result.andThen_ok, run_load_obj w g off ty cs (hS w h) d hu hd hi]
/-- what lies at off of a list is replaced -/
def setL {α : Type} (l : List α) (off : Nat) (xs : List α) : List α := l.take off ++ xs ++ l.drop (off + xs.length)
theorem run_store_obj {P : Program} (w : World) (g off : Nat) (t ty : TypeId) (old cs : List Value) (hg : Blk w g t old) (hi : (P.info? ty).map (·.size) = some cs.length) (ho : off + cs.length ≤ old.length) (h1 : ∀ v ∈ cs, v.oneCell' = true) :
 ∃ w', (storeVar ty ⟨g, off, none⟩ (.agg cs.toArray)).run P w = .ok () w' ∧ Blk w' g t (setL old off cs) ∧ w.grownBy w' (some g) := by
 have hst := run_storeCells_at P g off t cs 0 old.toArray w hg (by simpa using ho) h1
 rw [Nat.add_zero] at hst
 refine ⟨w.setRow g (old.toArray.toList.take off ++ cs ++ old.toArray.toList.drop (off + cs.length)).toArray, ?_, ?_, ⟨rfl, rfl, rfl, by simp, fun k _ hk => setRow_other w g k _ (fun e => hk (by simp [e]))⟩⟩
 ·
  cases hq : P.info? ty with
  | none => simp [hq] at hi
  | some i =>
   have hs : cs.length = i.size := by simp [hq] at hi; omega
   simp [storeVar, sizeOf, typeInfo, hq, Value.cells, hs]
   simpa [hs] using hst
 · exact setRow_heap w g old.toArray _ t _ hg
theorem step_store_obj {P : Program} {w : World} {ops : Array Oper} {o : Oper} {a : Act} {K : Act → World → Prop} {Q : Exit → Act → World → Prop} {E : Prop} (hgd : o.guard = none) (ty : TypeId) (x y : Operand) (ho : o.op = .store ty x y)
 (g off : Nat) (cs : List Value) (hx : a.eval x = .pointer (some ⟨g, off, none⟩)) (hy : a.eval y = .agg cs.toArray)
 (t : TypeId) (old : List Value) (hg : Blk w g t old) (hi : (P.info? ty).map (·.size) = some cs.length) (hold : off + cs.length ≤ old.length) (h1 : ∀ v ∈ cs, v.oneCell' = true)
 (h : ∀ w', Blk w' g t (setL old off cs) → w.grownBy w' (some g) → K (a.put o.dst undef) w') : if Region.wanted o (yielded ops a.tmps) = true then Oper.wp P o a w K Q else E := by
 have hw : Region.wanted o (yielded ops a.tmps) = true := by simp [Region.wanted, hgd]
 rw [if_pos hw]
 obtain ⟨w', hrun, h2, h3⟩ := run_store_obj (P := P) w g off t ty old cs hg hi hold h1
 unfold Oper.wp execOp
 simp only [ho, hx, hy, Instr.storeAt, Instr.sureAddr, Sem.run_bind, Sem.run_pure, Result.andThen_ok, hrun]
 exact h w' h2 h3
theorem results_obj_tmp {P : Program} {fn : Func} {p q : Tmp} {ty : TypeId} (h : fn.results = #[.cell p ty, .tmp q]) (tmps : Array Value) (w : World) (g : Nat) (t : TypeId) (cs : List Value) (d : TypeDesc)
 (hp : tmps.getD p undef = .pointer (some ⟨g, 0, none⟩)) (hg : Blk w g t cs) (hu : P.underlying ty = some d) (hd : isObj d = true) (hi : (P.info? ty).map (·.size) = some cs.length) :
 (results fn tmps).run P w = .ok (.tuple #[.agg cs.toArray, tmps.getD q undef]) w := by
 have hp' : tmps[p]?.getD undef = .pointer (some ⟨g, 0, none⟩) := by simpa using hp
 simp [results, h, hp', asAddr, run_load_obj w g 0 ty cs hg.all d hu hd hi]
theorem yields_build_obj {P : Program} {ops : Array Oper} {S : World → Prop} {o : Oper} {a : Act} (hw : Region.wanted o (yielded ops a.tmps) = true) (t : TypeId) (parts : List (Nat × Operand)) (ho : o.op = .build t parts.toArray) (v : Array Value)
 (hb : P.built t (parts.map fun p => (p.1, a.eval p.2)) = some v) : YieldsIf P ops S o (.agg v) a := by
 refine Or.inl ⟨hw, fun w _ => ?_⟩
 have e : (parts.toArray.map fun (i, x) => (i, a.eval x)).toList = parts.map fun p => (p.1, a.eval p.2) := by simp
 have hr := run_build (P := P) w t (parts.toArray.map fun (i, x) => (i, a.eval x)) v (by rw [e]; exact hb)
 simp only [execOp, ho, Sem.run_bind, hr, Result.andThen_ok, Sem.run_pure]
theorem fill_seg (place : Nat → Option (Nat × Nat)) (segs : List (List Value)) (i : Nat) (hi : i < segs.length) (v : Value) (rest : List (Nat × Value)) (hp : place i = some ((segs.take i).flatten.length, segs[i].length)) (hv : v.cells.size = segs[i].length) :
 Instr.fill place segs.flatten.toArray ((i, v) :: rest) = Instr.fill place (segs.set i v.cells.toList).flatten.toArray rest := by
 have hs : segs = segs.take i ++ (segs[i] :: segs.drop (i + 1)) := by rw [← List.drop_eq_getElem_cons hi, List.take_append_drop]
 have hfl : segs.flatten = (segs.take i).flatten ++ (segs[i] ++ (segs.drop (i + 1)).flatten) := by
  conv => lhs; rw [hs]
  rw [List.flatten_append, List.flatten_cons]
 have hA := foldl_set_list (segs.take i).flatten.length v.cells.toList 0 segs.flatten.toArray (by rw [hfl]; simp [hv])
 simp only [Instr.fill, hp]
 refine (if_neg (two_tests (fun hne => hne hv) (fun hlt : (segs.take i).flatten.length + v.cells.size > segs.flatten.toArray.size => by rw [hfl] at hlt; simp [hv] at hlt; omega))).trans ?_
 congr 1
 apply Array.ext'
 rw [← Array.foldl_toList]
 simp only [Array.toList_zipIdx]
 rw [hA]
 have hset : (segs.set i v.cells.toList).flatten = (segs.take i).flatten ++ (v.cells.toList ++ (segs.drop (i + 1)).flatten) := by
  rw [List.set_eq_take_append_cons_drop, if_pos hi, List.flatten_append, List.flatten_cons]
 have hl : v.cells.toList.length = segs[i].length := by rw [Array.length_toList, hv]
 rw [hset]
 simp only [Nat.add_zero]
 rw [hfl, List.take_left, hl, ← List.drop_drop, List.drop_left, List.drop_left, List.append_assoc]
theorem sum_len : ∀ l : List (List Value), l.flatten.length = (l.map List.length).sum
 | [] => rfl
 | x :: l => by rw [List.flatten_cons, List.length_append, sum_len l, List.map_cons, List.sum_cons]
theorem fill_segs (place : Nat → Option (Nat × Nat)) (lens : List Nat) (hp : ∀ i, (h : i < lens.length) → place i = some ((lens.take i).sum, lens[i])) : ∀ (parts : List (Nat × Value)) (segs : List (List Value)), segs.map List.length = lens → (∀ p ∈ parts, lens[p.1]? = some p.2.cells.size) →
 Instr.fill place segs.flatten.toArray parts = some (parts.foldl (fun s p => s.set p.1 p.2.cells.toList) segs).flatten.toArray
 | [], segs, _, _ => rfl
 | (i, v) :: parts, segs, hl, hc => by
  have h0 := hc (i, v) (by simp)
  obtain ⟨hi, he⟩ := List.getElem?_eq_some_iff.1 h0
  have hi2 : i < segs.length := by rw [← hl, List.length_map] at hi; exact hi
  have hsi : segs[i].length = lens[i] := by subst hl; simp
  rw [fill_seg place segs i hi2 v parts (by rw [hp i hi, sum_len, List.map_take, hl, hsi]) (by rw [hsi, he])]
  rw [fill_segs place lens hp parts (segs.set i v.cells.toList) (by
   rw [List.map_set, hl, Array.length_toList]
   apply List.ext_getElem?
   intro j
   rw [List.getElem?_set]
   split
   · rename_i hj; subst hj; exact h0.symm
   · rfl) (fun p hp' => hc p (by simp [hp'])), List.foldl_cons]
/-- what is built: the parts in place of the zero ones -/
theorem built_of {P : Program} (t : TypeId) (lens : List Nat) (zs : List (List Value)) (hz : zs.map List.length = lens) (places : Array (Nat × Nat)) (hb : ∀ parts, P.built t parts = Instr.fill (places[·]?) zs.flatten.toArray parts) (hp : ∀ i, (h : i < lens.length) → places[i]? = some ((lens.take i).sum, lens[i])) (parts : List (Nat × Value)) (hc : ∀ p ∈ parts, lens[p.1]? = some p.2.cells.size) :
 P.built t parts = some (parts.foldl (fun s p => s.set p.1 p.2.cells.toList) zs).flatten.toArray := by
 rw [hb, fill_segs _ lens hp parts zs hz hc]
/-! ### equality -/
section
variable {P : Program}
end
theorem Lows.allocAt {w0 W : World} {E : List Low} (h : Lows w0 E W) {g : Nat} (hg : g = W.heap.size) (t : TypeId) (arr : Array Value) (cs : List Value) (ha : arr = cs.toArray) : Lows w0 (blkL g t cs :: E) (W.alloc (.cells arr t)) := by
 subst hg
 exact h.alloc t arr cs ha
def exP : List UInt8 := 1 :: List.replicate 31 0
def exC : List UInt8 := 2 :: List.replicate 15 0
def exM : MsgM := ⟨[3], List.replicate 140 0⟩
theorem exM_ok : exM.ok 1 := ⟨rfl, by simp [exM, msB], by intro v hv; simp [exM] at hv; omega⟩
theorem seal_back {k : Nat} (hk : k = 1 ∨ k = 2) (p : List UInt8) (has : Bool) (ck : List UInt8) {m : MsgM} (h : m.ok k) : ((encB k (sealM p has ck k m)).drop (msLen k - 32)).take 16 = macM p k m ∧ (encB k (sealM p has ck k m)).drop (msLen k - 16) = mac2M p has ck k m := by
 have hl := two_len hk
 have hpl := pre_length h
 have h2 : ((encB k m).take (msLen k - 32) ++ macM p k m).length = msLen k - 16 := by rw [List.length_append, hpl, macM_length]; omega
 constructor
 · rw [seal_parts hk p has ck h, List.drop_left' hpl, List.take_left' (macM_length p k m)]
 · rw [seal_parts hk p has ck h, ← List.append_assoc, List.drop_left' h2]
set_option maxRecDepth 100000 in
set_option maxHeartbeats 8000000 in
set_option linter.unusedSimpArgs false in
theorem mc_begun_any (HSI : McSealC 20 1) (HC1 : McCheck1C 21) (w : World) (hlv : LvBlake w) : Calls Tryz.prog 9 #[] w fun e w' => e = .returned (.bool true) ∧ Below w.heap.size w w' := by
 obtain ⟨i0, hi, hz0, hz1, hz2⟩ := info_parts Tryz.info5
 have HLV := Lib.hid hlv
 have hp : exP.length = 32 := rfl
 have hc : exC.length = 16 := rfl
 have hcall := HSI exP exC hp hc false exM exM_ok
 have hback := seal_back (k := 1) (by omega) exP false exC exM_ok
 have hchk := seal_check1 (k := 1) (by omega) exP false exC exM_ok
 have hxl : (encB 1 (sealM exP false exC 1 exM)).length = 148 := encB_length (sealM_ok (by omega) exP false exC exM_ok)
 rw [show msLen 1 - 32 = 116 from rfl, show msLen 1 - 16 = 132 from rfl, show mac2M exP false exC 1 exM = List.replicate 16 0 from rfl] at hback
 have hmz : (macM exP 1 exM).length = 16 := macM_length _ _ _
 generalize encB 1 (sealM exP false exC 1 exM) = X at hcall hback hchk hxl
 generalize macM exP 1 exM = mt at hcall hback hmz
 obtain ⟨zl, hzl⟩ : ∃ z, List.replicate 16 (0 : UInt8) = z := ⟨_, rfl⟩
 rw [hzl] at hback
 have HZL := Lib.hid hzl
 have HML := Lib.hid hmz
 have HD116 := Lib.hid hback.1
 have HD132 := Lib.hid hback.2
 have hbk : Tryz.prog.built 23 [(0, .int .u8 1)] = some (exP.map u8v).toArray := by kernel_rfl
 have hbt : Tryz.prog.built 27 [(0, .int .u8 2)] = some (exC.map u8v).toArray := by kernel_rfl
 have hbm : Tryz.prog.built 54 [(0, .int .u32 3)] = some exM.cells.toArray := by kernel_rfl
 have hck := HC1 exP hp
 obtain ⟨cp, hcp⟩ : ∃ z, (exP.map u8v).toArray = z := ⟨_, rfl⟩
 obtain ⟨cc, hcc⟩ : ∃ z, (exC.map u8v).toArray = z := ⟨_, rfl⟩
 obtain ⟨cm, hcm⟩ : ∃ z, exM.cells.toArray = z := ⟨_, rfl⟩
 obtain ⟨ct, hct⟩ : ∃ z, (mt.map u8v).toArray = z := ⟨_, rfl⟩
 rw [hcp] at hbk hck
 rw [hcc] at hbt
 rw [hcm] at hbm
 rw [hcp, hcc, hcm, hct] at hcall
 have HCT := Lib.hid hct
 have HBK := Lib.hid hbk
 have HBT := Lib.hid hbt
 have HBM := Lib.hid hbm
 have HCL := Lib.hid hcall
 have HXL := Lib.hid hxl
 have HCH := Lib.hid hchk
 have HC0 := Lib.hid hck
 clear hcall hback hchk hxl hmz hbk hbt hbm hck hcp hcc hcm hct hp hc hlv HSI HC1 hzl
 go_enter Tryz.func9, Tryz.ntmps9
 go_wp2_with (first | (refine wpList_build_as rfl 23 [(0, .const (.int .u8 1))] rfl cp ?_ ?_; exact HBK.out) | (refine wpList_build_as rfl 27 [(0, .const (.int .u8 2))] rfl cc ?_ ?_; exact HBT.out) | (refine wpList_build_as rfl 54 [(0, .const (.int .u32 3))] rfl cm ?_ ?_; exact HBM.out))
 refine (HCL.out w HLV.out).mono ?_
 rintro e w3 ⟨A, cx, rfl, hx1, hx2, hrx, hb⟩
 replace hrx := hrx.rd
 rw [show msLen 1 = 148 from rfl] at hx1 hrx ⊢
 have HM := Lib.hid (show Lows w [rdL A 148 X] w3 from (((Lows.nil w).below hb).cons (rdL A 148 X) hrx))
 have hnew : Blk (w3.alloc (.cells zb16 27)) w3.heap.size 27 ((List.replicate 16 (0 : UInt8)).map u8v) := Blk.new w3 27 ((List.replicate 16 (0 : UInt8)).map u8v)
 have HX2 := Lib.hid hx2
 clear hrx hb hx2
 go_upto_region 2 with (refine wpList_store_blk rfl 27 (.tmp 2) (.tmp 9) rfl w3.heap.size (mt.map u8v) rfl (by show Value.agg ct = _; rw [HCT.out]) 27 ((List.replicate 16 (0 : UInt8)).map u8v) hnew (ae_cellsT mt HML.out) (by rw [List.length_map, List.length_map, HML.out]; rfl) (u8v_one _) ?_; intro w5 hb5 hg5)
 (try simp only [Act.put])
 have hm9 := HM.out.stored (arr := zb16) hg5 hb5
 generalize w3.heap.size = G at hm9 ⊢
 replace HM := Lib.hid (show Lows w [blkL G 27 (mt.map u8v), rdL A 148 X] w5 from hm9)
 clear hm9 hb5 hg5 hnew
 obtain ⟨gx, ox, rfl, -, -⟩ := (HM.out.rd 1 rfl).at_ (by omega)
 have hs132 := slice_l (some ⟨gx, ox, none⟩) 148 cx 132 (by omega)
 rw [addrOf_lt gx ox 132 cx (by omega), show 148 - 132 = 16 from rfl, show ((132 : Nat) : Int) = 132 from rfl] at hs132
 have hs116 := slice_lh (some ⟨gx, ox, none⟩) 148 cx 116 132 (by omega) (by omega) (by omega)
 rw [addrOf_lt gx ox 116 cx (by omega), show 132 - 116 = 16 from rfl, show ((116 : Nat) : Int) = 116 from rfl, show ((132 : Nat) : Int) = 132 from rfl] at hs116
 have HS132 := Lib.hid hs132
 have HS116 := Lib.hid hs116
 have hck := HC0.out (some ⟨gx, ox, none⟩) 148 cx X (by omega) HX2.out (by omega)
 rw [HCH.out] at hck
 have HCK := Lib.hid hck
 clear hs132 hs116 hck HC0 HCL
 refine wp_region_held_drew (S := fun W' => Lows w [blkL G 27 (mt.map u8v), rdL (some ⟨gx, ox, none⟩) 148 X] W') (by kernel_rfl) (HM.out.drew) (fun hHeld => ?_)
 replace HM := Lib.hid HM.out.drew
 generalize w5.drew = wd1 at HM hHeld ⊢
 refine tf (v := ?_) 0 rfl (Or.inl ⟨by rfl, ?_⟩) ?_
 rotate_left
 · (intro w hSw; (try dsimp only at hSw); go_simp; try with_reducible rfl)
 (try simp only [Act.put, sA, s0, s1])
 refine tf (v := ?_) 1 rfl (Or.inl ⟨by rfl, ?_⟩) ?_
 rotate_left
 · (intro w hSw; (try dsimp only at hSw); go_simp; try with_reducible rfl)
 (try simp only [Act.put, sA, s0, s1])
 refine tf (v := ?_) 2 rfl (Or.inl ⟨by rfl, ?_⟩) ?_
 rotate_left
 · (intro w hSw; (try dsimp only at hSw); go_simp; try with_reducible rfl)
 (try simp only [Act.put, sA, s0, s1])
 refine tf (v := ?_) 3 rfl (Or.inl ⟨by rfl, ?_⟩) ?_
 rotate_left
 · (intro w hSw; (try dsimp only at hSw); go_simp; try with_reducible rfl)
 (try simp only [Act.put, sA, s0, s1])
 refine tf (v := ?_) 4 rfl (Or.inl ⟨by rfl, ?_⟩) ?_
 rotate_left
 · (intro w hSw; (try dsimp only at hSw); go_simp; try with_reducible rfl)
 (try simp only [Act.put, sA, s0, s1])
 refine tf (v := ?_) 5 rfl (Or.inl ⟨by rfl, ?_⟩) ?_
 rotate_left
 · (intro w hSw; (try dsimp only at hSw); have hs := HS132.out w; go_simp; try with_reducible rfl)
 (try simp only [Act.put, sA, s0, s1])
 refine tf (v := ?_) 6 rfl (Or.inl ⟨by rfl, ?_⟩) ?_
 rotate_left
 · (intro w hSw; (try dsimp only at hSw); have cv := show (convert 29 9 (.slice (some ⟨gx, ox + 132, none⟩) 16 (cx - 132))).run Tryz.prog w = .ok (.string ⟨(zl).toArray⟩) w from run_string_of_rd (P := Tryz.prog) 29 9 5 (cx - 132) Tryz.underlying29 Tryz.underlying5 Tryz.underlying9 (by have h := (Lows.rd hSw 1 rfl).drop 132 gx ox rfl (by omega); rw [HD132.out] at h; exact h); go_simp; try with_reducible rfl)
 (try simp only [Act.put, sA, s0, s1])
 refine so 7 rfl fun K hK => ?_
 clear hHeld
 refine step_make_full_g _ (by rfl) (.const (.int .i64 16)) (.const (.int .i64 16)) 29 rfl wd1.heap.size 5 i0 (.int .u8 0) 1 Tryz.underlying29 hi hz0 hz1 .i64 .i64 16 rfl rfl (by rw [hz2]; omega) (by unfold maxLen; omega) (Nat.le_refl _) ?_
 intro wy2 hown hg
 rw [made_in, HZL.out] at hown
 have hb9 : Below wd1.heap.size wd1 wy2 := (Below.refl _ _).grown hg (Nat.le_refl _) (by simp)
 have hm9 := (HM.out.below hb9).cons (rdL (some ⟨wd1.heap.size, 0, none⟩) 16 zl) (Rd.of_own hown)
 generalize wd1.heap.size = Z at hm9 ⊢
 replace HM := Lib.hid (show Lows w [rdL (some ⟨Z, 0, none⟩) 16 zl, blkL G 27 (mt.map u8v), rdL (some ⟨gx, ox, none⟩) 148 X] wy2 from hm9)
 clear hm9 hown hg hb9
 refine hK.out _ _ (HM.out.tail 0) (fun hHeld => ?_)
 clear hK K
 (try simp only [Act.put, sA, s0, s1])
 refine wpAnyH_stronger (T := fun W' => Lows w [rdL (some ⟨Z, 0, none⟩) 16 zl, blkL G 27 (mt.map u8v), rdL (some ⟨gx, ox, none⟩) 148 X] W') (fun _ h' => (h'.tail 0)) _ _ _ _ ?_
 replace hHeld := HM.out
 refine tf (v := ?_) 8 rfl (Or.inl ⟨by rfl, ?_⟩) ?_
 rotate_left
 · (intro w hSw; (try dsimp only at hSw); have cv := show (convert 29 9 (.slice (some ⟨Z, 0, none⟩) 16 16)).run Tryz.prog w = .ok (.string ⟨(zl).toArray⟩) w from run_string_of_rd (P := Tryz.prog) 29 9 5 16 Tryz.underlying29 Tryz.underlying5 Tryz.underlying9 (Lows.rd hSw 0 rfl); go_simp; try with_reducible rfl)
 (try simp only [Act.put, sA, s0, s1])
 refine tf (v := ?_) 9 rfl (Or.inl ⟨by rfl, ?_⟩) ?_
 rotate_left
 · (intro w hSw; (try dsimp only at hSw); go_simp; try with_reducible rfl)
 (try simp only [Act.put, sA, s0, s1])
 refine tf (v := ?_) 10 rfl (Or.inl ⟨by rfl, ?_⟩) ?_
 rotate_left
 · (intro w hSw; (try dsimp only at hSw); go_simp; try with_reducible rfl)
 (try simp only [Act.put, sA, s0, s1])
 refine tf (v := ?_) 11 rfl (Or.inl ⟨by rfl, ?_⟩) ?_
 rotate_left
 · (intro w hSw; (try dsimp only at hSw); go_simp; try with_reducible rfl)
 (try simp only [Act.put, sA, s0, s1])
 refine tf (v := ?_) 12 rfl (Or.inl ⟨by rfl, ?_⟩) ?_
 rotate_left
 · (intro w hSw; (try dsimp only at hSw); go_simp; try with_reducible rfl)
 (try simp only [Act.put, sA, s0, s1])
 refine tf (v := ?_) 13 rfl (Or.inl ⟨by rfl, ?_⟩) ?_
 rotate_left
 · (intro w hSw; (try dsimp only at hSw); have hs := HS116.out w; go_simp; try with_reducible rfl)
 (try simp only [Act.put, sA, s0, s1])
 refine tf (v := ?_) 14 rfl (Or.inl ⟨by rfl, ?_⟩) ?_
 rotate_left
 · (intro w hSw; (try dsimp only at hSw); have cv := show (convert 29 9 (.slice (some ⟨gx, ox + 116, none⟩) 16 (cx - 116))).run Tryz.prog w = .ok (.string ⟨(mt).toArray⟩) w from run_string_of_rd (P := Tryz.prog) 29 9 5 (cx - 116) Tryz.underlying29 Tryz.underlying5 Tryz.underlying9 (by have h := ((Lows.rd hSw 2 rfl).drop 116 gx ox rfl (by omega)).take (m := 16) (by omega); rw [HD116.out] at h; exact h); go_simp; try with_reducible rfl)
 (try simp only [Act.put, sA, s0, s1])
 refine tf (v := ?_) 15 rfl (Or.inl ⟨by rfl, ?_⟩) ?_
 rotate_left
 · (intro w hSw; (try dsimp only at hSw); go_simp; try with_reducible rfl)
 (try simp only [Act.put, sA, s0, s1])
 refine tf (v := ?_) 16 rfl (Or.inl ⟨by rfl, ?_⟩) ?_
 rotate_left
 · (intro w hSw; (try dsimp only at hSw); have cv := show (convert 29 9 (.slice (some ⟨G, 0, none⟩) 16 16)).run Tryz.prog w = .ok (.string ⟨(mt).toArray⟩) w from run_string_of_rd (P := Tryz.prog) 29 9 5 16 Tryz.underlying29 Tryz.underlying5 Tryz.underlying9 (blk_all (Lows.blk hSw 1 rfl) HML.out); go_simp; try with_reducible rfl)
 (try simp only [Act.put, sA, s0, s1])
 refine tf (v := ?_) 17 rfl (Or.inl ⟨by rfl, ?_⟩) ?_
 rotate_left
 · (intro w hSw; (try dsimp only at hSw); go_simp; try with_reducible rfl)
 (try simp only [Act.put, sA, s0, s1])
 refine tf (v := ?_) 18 rfl (Or.inl ⟨by rfl, ?_⟩) ?_
 rotate_left
 · (intro w hSw; (try dsimp only at hSw); go_simp; try with_reducible rfl)
 (try simp only [Act.put, sA, s0, s1])
 refine tf (v := ?_) 19 rfl (Or.inl ⟨by rfl, ?_⟩) ?_
 rotate_left
 · (intro w hSw; (try dsimp only at hSw); go_simp; try with_reducible rfl)
 (try simp only [Act.put, sA, s0, s1])
 refine tf (v := .agg cp) 20 rfl (yields_build_obj (by rfl) 23 [(0, .const (.int .u8 1))] rfl cp HBK.out) ?_
 (try simp only [Act.put, sA, s0, s1])
 refine tf (v := ?_) 21 rfl (Or.inl ⟨by rfl, ?_⟩) ?_
 rotate_left
 · (intro w hSw; (try dsimp only at hSw); go_simp; try with_reducible rfl)
 (try simp only [Act.put, sA, s0, s1])
 refine so 22 rfl fun K hK => ?_
 clear hHeld
 go_simp
 refine (HCK.out _ (HLV.out.below HM.out.bel) (HM.out.rd 2 rfl)).mono ?_
 rintro e wy3 ⟨rfl, hb⟩
 replace HM := Lib.hid (show Lows w [rdL (some ⟨Z, 0, none⟩) 16 zl, blkL G 27 (mt.map u8v), rdL (some ⟨gx, ox, none⟩) 148 X] wy3 from HM.out.below hb)
 clear hb
 go_wp2_with fail
 refine hK.out _ _ (HM.out) (fun hHeld => ?_)
 clear hK K
 (try simp only [Act.put, sA, s0, s1])
 refine tf (v := ?_) 23 rfl (Or.inl ⟨by rfl, ?_⟩) ?_
 rotate_left
 · (intro w hSw; (try dsimp only at hSw); go_simp; try with_reducible rfl)
 (try simp only [Act.put, sA, s0, s1])
 refine tf (v := ?_) 24 rfl (Or.inl ⟨by rfl, ?_⟩) ?_
 rotate_left
 · (intro w hSw; (try dsimp only at hSw); go_simp; try with_reducible rfl)
 (try simp only [Act.put, sA, s0, s1])
 refine wpAnyH_done (by kernel_rfl) ?_ _
 have HF := Lib.hid HM.out.bel
 clear HM hHeld
 go_wp2_with fail
 go_ret
 exact ⟨rfl, HF.out⟩
set_option maxHeartbeats 400000 in
set_option maxRecDepth 100000 in
theorem refJoin_any (B c : Nat) (A : Option Addr) (ps : List Part) (hm : ps.length ≤ 1000000) (ht : (flat ps ps.length).length ≤ 1000000) (w : World) (hB : B ≤ w.heap.size) (hp : PartsRd w B A ps) :
 Calls Tryz.prog 25 #[.slice A ps.length c] w fun e w' => ∃ A' c', e = .returned (.slice A' (flat ps ps.length).length c') ∧ w'.ownsRow w.heap.size 5 1 (.slice A' (flat ps ps.length).length c') (flat ps ps.length).length ((flat ps ps.length).map u8v) ∧ Below w.heap.size w w' := by
 obtain ⟨i0, hi, hz0, hz1, hz2⟩ := info_parts Tryz.info5
 have HP := Lib.hid hp
 clear hp
 obtain ⟨n, hn⟩ : ∃ n, ps.length = n := ⟨_, rfl⟩
 have HN := Lib.hid hn
 have hfl := flat_le ps
 rw [hn] at hm ht hfl ⊢
 have HFL := Lib.hid hfl
 clear hn hfl
 go_enter Tryz.func25, Tryz.ntmps25
 go_wp2
 go_loopw [3, 8, 5] (fun v i _ wr => ∃ k : Nat, k ≤ n ∧ i = .int .i64 k ∧ wr.ownsRow w.heap.size 5 1 v (flat ps k).length ((flat ps k).map u8v) ∧ Below w.heap.size w wr) (fun _ i _ _ => n - (intOf i).toNat)
 case atStart => exact ⟨0, by omega, rfl, World.ownsRow_nil _ _ _ _, Below.refl _ _⟩
 case round =>
  obtain ⟨k, hk, rfl, hown, hb⟩ := hrel
  by_cases hlt : k < n
  ·
   have hjp : k < ps.length := by have := HN.out; omega
   obtain ⟨g, rfl, hgB, hc⟩ := HP.out (by omega)
   obtain ⟨hc0, hr0⟩ := hc k hjp
   have hc1 := (hb.cell (p := ⟨g, k, none⟩) (Nat.lt_of_lt_of_le hgB hB)).trans hc0
   have hr := Lib.hid (hr0.below (hb.mono hB))
   have hl : (flat ps (k + 1)).length = (flat ps k).length + ps[k].n := by rw [flat_succ ps k hjp, List.length_append, hr0.1]
   have b3 : (flat ps k).length + ps[k].n ≤ 1000000 := by have := HFL.out (k + 1); omega
   have HL := Lib.hid hl
   have hsz := hb.size
   clear hc hc0 hr0 hl
   go_wp2_with (at_builtin; refine wpList_append_rd _ rfl (.tmp 12) (.tmp 13) 29 rfl w.heap.size 5 i0 (.int .u8 0) Tryz.underlying29 hi hz0 hz1 hz2 rfl u3 (flat ps k).length _ rfl hown _ _ _ _ _ rfl hr.out (by omega) hsz ?_; intro v' w' hown' hg')
   have HO := Lib.hid hown'
   clear hown'
   go_wp2
   go_roundw
   case rel =>
    refine ⟨k + 1, by omega, by go_num, ?_, hb.grown hg' hsz (own_from hown)⟩
    have h := HO.out
    rw [HL.out, flat_succ ps k hjp, List.map_append]
    exact h
   case measure => simp [intOf]; omega
  ·
   obtain rfl : k = n := by omega
   obtain ⟨A', c', rfl, _⟩ := own_slice hown
   have HO := Lib.hid hown
   clear hown
   go_wp2
   go_ret
   exact ⟨A', c', rfl, HO.out, hb⟩
/-- one round of ReadBig -/
theorem or64_big (a : Nat) (b : UInt8) : bits BinOp.or IntKind.u64 (IntKind.u64.wrap ((a : Int) % 18446744073709551616 * 256)) (IntKind.u64.wrap (b.toNat : Int)) = (((a * 256 + b.toNat) % 18446744073709551616 : Nat) : Int) := by
 have hb := b.toNat_lt
 have e1 : IntKind.u64.wrap ((a : Int) % 18446744073709551616 * 256) = (((a % 18446744073709551616 * 256) % 18446744073709551616 : Nat) : Int) := by
  rw [IntKind.wrap_u64]; omega
 have e2 : IntKind.u64.wrap (b.toNat : Int) = (b.toNat : Int) := by
  rw [IntKind.wrap_u64]; omega
 rw [e1, e2, u64_or_nat _ _ (by omega) (by omega), nat_join 8 _ _ (by omega) (by omega)]
 congr 1
 omega
/-- one round of ReadLittle -/
theorem or64_little (a j : Nat) (b : UInt8) (hj : j < 8) (ha : a < 2 ^ (8 * j)) : bits BinOp.or IntKind.u64 (a : Int) (IntKind.u64.wrap (IntKind.u64.wrap (b.toNat : Int) * 2 ^ (8 * j))) = ((a + 2 ^ (8 * j) * b.toNat : Nat) : Int) := by
 have hb := b.toNat_lt
 have e2 : IntKind.u64.wrap (b.toNat : Int) = (b.toNat : Int) := by
  rw [IntKind.wrap_u64]; omega
 have hp : 2 ^ (8 * j) ≤ 2 ^ 56 := Nat.pow_le_pow_right (by omega) (by omega)
 have hm : b.toNat * 2 ^ (8 * j) ≤ 255 * 2 ^ 56 := Nat.mul_le_mul (by omega) hp
 have e3 : IntKind.u64.wrap ((b.toNat : Int) * 2 ^ (8 * j)) = ((2 ^ (8 * j) * b.toNat : Nat) : Int) := by
  have : ((b.toNat : Int) * 2 ^ (8 * j)) = ((b.toNat * 2 ^ (8 * j) : Nat) : Int) := by rw [Int.natCast_mul, Int.natCast_pow]; rfl
  rw [this, IntKind.wrap_u64, Nat.mul_comm]
  rw [Nat.mul_comm] at hm
  omega
 rw [e2, e3, u64_or_nat _ _ (by omega) (by rw [Nat.mul_comm]; omega), or_low _ _ _ ha]
set_option maxRecDepth 100000 in
theorem refLittle_any (n : Nat) (_hn : n < 18446744073709551616) (k : Nat) (h1 : 1 ≤ k) (h8 : k ≤ 8) (w : World) :
 Calls Tryz.prog 50 #[.int .u64 n, .int .i64 k] w fun e w' => ∃ A c, e = .returned (.slice A k c) ∧ w'.ownsRow w.heap.size 5 1 (.slice A k c) k ((littleL n k).map u8v) ∧ Below w.heap.size w w' := by
 obtain ⟨i0, hi, hz0, hz1, hz2⟩ := info_parts Tryz.info5
 go_enter Tryz.func50, Tryz.ntmps50
 go_wp2
 go_loopw [5, 6] (fun v i wr => ∃ j : Nat, j ≤ k ∧ i = .int .i64 j ∧ wr.ownsRow w.heap.size 5 1 v j ((littleL n j).map u8v) ∧ Below w.heap.size w wr) (fun _ i _ => k - (intOf i).toNat)
 case atStart => exact ⟨0, by omega, rfl, World.ownsRow_nil _ _ _ _, Below.refl _ _⟩
 case round =>
  obtain ⟨j, hj, rfl, hown, hb⟩ := hrel
  by_cases hlt : j < k
  ·
   have hsz := hb.size
   have HB := Lib.hid (byteOf_cast n j)
   go_wp2_with (at_builtin; refine wpList_append_bytes _ rfl (.tmp 18) (.tmp 24) 29 rfl w.heap.size 5 i0 (.int .u8 0) Tryz.underlying29 hi hz0 hz1 hz2 rfl u5 j _ rfl (hown.alloc _) ⟨wr.heap.size, 0, none⟩ 1 1 [.int .u8 ((n : Int) / 2 ^ (8 * j) % 256)] rfl rfl (cell_one_new _ _ _) (by rw [← HB.out]; exact one_u8 _) (by omega) (by simp; omega) ?_; intro v' w' hown' hg')
   have HO := Lib.hid hown'
   clear hown'
   go_wp2
   go_roundw
   case rel =>
    refine ⟨j + 1, by omega, by go_num, ?_, (hb.alloc (by omega) _).grown hg' (by simp; omega) (own_from hown)⟩
    have h := HO.out
    rw [littleL_succ, List.map_append]
    rw [← HB.out] at h
    exact h
   case measure => simp [intOf]; omega
  ·
   obtain rfl : j = k := by omega
   obtain ⟨A, c, rfl, _⟩ := own_slice hown
   have HO := Lib.hid hown
   clear hown
   go_wp2
   go_ret
   exact ⟨A, c, rfl, HO.out, hb⟩
set_option maxRecDepth 100000 in
theorem readRefLittle_any (B : Nat) (A : Option Addr) (n cap : Nat) (l : List UInt8) (hn : n ≤ 1000000) (w : World) (hr : Rd w B A n l) :
 Calls Tryz.prog 58 #[.slice A n cap] w fun e w' => e = .returned (.int .u64 (numL (l.take 8) : Nat)) ∧ w = w' := by
 have hl : l.length = n := hr.1
 have HR := Lib.hid hr
 have HL := Lib.hid hl
 clear hr hl
 go_enter Tryz.func58, Tryz.ntmps58
 go_wp2
 go_loop [3, 4] (fun v i => ∃ j : Nat, j ≤ n ∧ i = .int .i64 ((j : Int) - 1) ∧ v = .int .u64 (numL (l.drop j) % 18446744073709551616 : Nat)) (fun _ i => (intOf i + 1).toNat)
 case atStart => exact ⟨n, by omega, rfl, by rw [List.drop_of_length_le (by have := HL.out; omega)]; rfl⟩
 case round =>
  obtain ⟨j, hj, rfl, rfl⟩ := hrel
  by_cases hlt : 0 < j
  ·
   obtain ⟨j, rfl⟩ : ∃ i, j = i + 1 := ⟨j - 1, by omega⟩
   obtain ⟨b, off, rfl, _, hc⟩ := HR.out.at_ (by omega)
   have hlj : j < l.length := by have := HL.out; omega
   have hc1 := hc j hlj
   clear hc
   go_wp2
   go_round
   case rel => exact ⟨j, by omega, by go_num, by rw [or64_big, numL_drop l j hlj, Nat.mul_comm, Nat.add_comm]⟩
   case measure => simp [intOf]
  ·
   obtain rfl : j = 0 := by omega
   go_wp2
   go_ret
   exact ⟨ret_int (by rw [← numL_take_mod]; simp), rfl⟩
def Part.v (p : Part) : Value := .slice p.A p.n p.c
theorem parts_rd {w : World} {g : Nat} {t : TypeId} {ps : List Part} (hb : Blk w g t (ps.map Part.v)) (hr : ∀ p ∈ ps, Rd w w.heap.size p.A p.n p.l) : PartsRd w w.heap.size (some ⟨g, 0, none⟩) ps := fun _ =>
 ⟨g, rfl, hb.lt, fun j hj => ⟨by rw [hb.cell, List.getElem?_map, List.getElem?_eq_getElem hj]; rfl, hr _ (List.getElem_mem hj)⟩⟩
set_option maxRecDepth 100000 in
theorem refU32_any (v : Nat) (hv : v < 4294967296) (w : World) :
 Calls Tryz.prog 26 #[.int .u32 (v : Int)] w fun e w' => ∃ A c, e = .returned (.slice A 4 c) ∧ Rd w' w'.heap.size A 4 (littleL v 4) ∧ Below w.heap.size w w' := by
 have HC := Lib.hid (refLittle_any v (by omega) 4 (by omega) (by omega) w)
 have h1 : IntKind.u64.wrap (v : Int) = (v : Int) := by rw [IntKind.wrap_u64]; omega
 have h2 : (v : Int) % 18446744073709551616 = (v : Int) := by omega
 go_enter Tryz.func26, Tryz.ntmps26
 go_wp2_with fail
 refine HC.out.mono ?_
 rintro e w1 ⟨A, c, rfl, ho, hb⟩
 have HO := Lib.hid (And.intro (Rd.of_own ho) hb)
 clear ho hb
 go_wp2_with fail
 go_ret
 exact ⟨A, c, rfl, HO.out.1, HO.out.2⟩
/-- a field of a message -/
theorem msg_rd {W : World} {P : Nat} {ty : TypeId} {k : Nat} {m : MsgM} (h : Blk W P ty m.cells) (hm : m.ok k) (q o n : Nat) (hq : msN k + o = q) (hn : o + n ≤ msB k) : Rd W W.heap.size (some ⟨P, q, none⟩) n ((m.bs.drop o).take n) := by
 subst hq
 have hl : ((m.bs.drop o).take n).length = n := by rw [List.length_take, List.length_drop, hm.2.1]; omega
 refine ⟨hl, fun _ => ⟨P, _, rfl, h.lt, fun j hj => ?_⟩⟩
 rw [hl] at hj
 rw [h.cell, MsgM.cells, List.getElem?_append_right (by rw [List.length_map, hm.1]; omega), List.length_map, hm.1, List.getElem?_map, List.getElem?_eq_getElem (by rw [hm.2.1]; omega)]
 simp only [Option.map_some, u8v, List.getElem_take, List.getElem_drop]
 congr 4
 congr 1
 omega
theorem msg_num {W : World} {P : Nat} {ty : TypeId} {m : MsgM} (h : Blk W P ty m.cells) (i v : Nat) (hv : m.nums[i]? = some v) : W.cell? ⟨P, i, none⟩ = some (.int .u32 (v : Int)) := by
 have hi : i < m.nums.length := (List.getElem?_eq_some_iff.1 hv).1
 rw [h.cell, MsgM.cells, List.getElem?_append_left (by rw [List.length_map]; exact hi), List.getElem?_map, hv]
 rfl
end Go.Proofs.YtlddafkikkaonaaGreatDoor
