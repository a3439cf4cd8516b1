/-
  The contracts of the reference's sound, bit, width, Valid. What is asked of the functions of layer 13 that read and write addresses, endpoints and prefixes, by a function's number. An endpoint and a prefix with a number of their own are found equal to themselves. A row that was made is a block; bytes that were read stay. What a walk keeps of the memory that it has made, where the call changes one block of its caller's. The contracts of the choices that the statements are made of: Left, Next. The contracts of the choices that the statements are made of: Bytes, New, Cut. An address with another byte. A slice built of arrays of one size: its block holds them one behind the other. The contracts of the choices that the statements are made of: Addr, Prefix. The contracts of the choices that the statements are made of: Masked, Addr, Prefix. The contract of an address that the statements are made of: Host. The contracts of the choices that the statements are made of: Prefix. The sanity check of layer 13 holds, over what is asked of FormatPrefix and ParsePrefix. Parts of a text, each behind a byte; how long the text of an address is. The bits of an exclusive or of two bytes. When an address lies in a prefix. Prefixes that are addresses with bits cleared: valid, and what they contain. No statement is proved here.
-/
import Derived.Laws.ShiftsVarLaws
import Derived.Deep.DeepCutAuto
import Derived.RegionTactic
import Derived.BigRegion
import Derived.Laws.BitsAllLaws
import Derived.Deep.QuietTactic
import Derived.BigQuiet
import Derived.Outline
import Derived.Lib.Strings
import Derived.Laws.Concat
import Derived.Test.YtkhghmmgegkiiaaGreatDoorConfigAddressesReturnB1
namespace Go.Proofs.YtkhghmmgegkiiaaGreatDoor
open Go.RowKit

theorem AddrM.six_cell (a : AddrM) : a.cells[0]? = some (.bool a.six) := rfl
/-- a prefix -/
def prefC (a : AddrM) (bits : Int) : List Value := a.cells ++ [.int .i64 bits]
theorem prefC_length (a : AddrM) (h : a.ok) (bits : Int) : (prefC a bits).length = 18 := by rw [prefC, List.length_append, AddrM.cells_length h]; rfl
theorem prefC_addr (a : AddrM) (h : a.ok) (bits : Int) : ((prefC a bits).drop 0).take 17 = a.cells := by rw [prefC, List.drop_zero, ← AddrM.cells_length h, List.take_left]
theorem prefC_bits (a : AddrM) (h : a.ok) (bits : Int) : (prefC a bits)[17]? = some (.int .i64 bits) := by
  rw [prefC, List.getElem?_append_right (by rw [AddrM.cells_length h]; omega), AddrM.cells_length h]; rfl
theorem soundM_four (a : AddrM) (h : a.ok) (h6 : a.six = false) : soundM a = true ↔ ∀ j, j < 12 → a.ip.getD (4 + j) 0 = 0 := by
  have hl : a.ip.length = 16 := h
  rw [soundM, h6, Bool.false_or, List.all_eq_true]
  constructor
  · intro hx j hj
    have := hx (a.ip[4 + j]'(by omega)) (List.mem_drop_iff_getElem.2 ⟨j, by omega, rfl⟩)
    rw [List.getD_eq_getElem?_getD, List.getElem?_eq_getElem (by omega)]
    simpa using this
  · intro hx x hm
    obtain ⟨j, hj, rfl⟩ := List.mem_drop_iff_getElem.1 hm
    have := hx j (by omega)
    rw [List.getD_eq_getElem?_getD, List.getElem?_eq_getElem (by omega)] at this
    simpa using this

theorem validM_iff (a : AddrM) (bits : Int) (hs : soundM a = true) (h0 : 0 ≤ bits) (h1 : bits ≤ (widthM a : Int)) : validM a bits = true ↔ ∀ i : Nat, bits ≤ (i : Int) → i < 128 → bitM a.ip i = 0 := by
  rw [validM, hs, decide_eq_true h0, decide_eq_true h1, Bool.true_and, Bool.true_and, Bool.true_and, List.all_eq_true]
  constructor
  · intro h i hi hlt
    have := h i (List.mem_range.2 hlt)
    rw [Bool.or_eq_true, decide_eq_true_iff, beq_iff_eq] at this
    rcases this with h2 | h2
    · omega
    · exact h2
  · intro h i hi
    rw [Bool.or_eq_true, decide_eq_true_iff, beq_iff_eq]
    by_cases h2 : (i : Int) < bits
    · exact .inl h2
    · exact .inr (h i (by omega) (List.mem_range.1 hi))
theorem widthM_le (a : AddrM) : widthM a = 32 ∨ widthM a = 128 := by unfold widthM; split <;> simp
theorem validM_bits (a : AddrM) (bits : Int) (h : validM a bits = true) : 0 ≤ bits ∧ bits ≤ 128 := by
  rw [validM, Bool.and_eq_true, Bool.and_eq_true, Bool.and_eq_true, decide_eq_true_iff, decide_eq_true_iff] at h
  have := widthM_le a
  omega
theorem pref_cellsOf (a : AddrM) (h : a.ok) (bits : Int) : (Tryz.prog.info? 29).map (·.size) = some (prefC a bits).length := by
  rw [prefC_length a h]; kernel_rfl
end Go.Proofs.YtkhghmmgegkiiaaGreatDoor
namespace Go.Proofs.YtkhghmmgegkiiaaGreatDoor
open Go.RowKit

def CfFmtAddrC (F : Nat) : Prop := ∀ a : AddrM, a.ok → ∀ w : World, LvCf w →
  Calls Tryz.prog F #[.agg a.cells.toArray] w fun e w' => e = .returned (.string ⟨(addrT a).toArray⟩) ∧ Below w.heap.size w w'
def CfParseAddrC (F : Nat) : Prop := ∀ l : List UInt8, l.length ≤ 100000 → ∀ w : World, LvCf w →
  Calls Tryz.prog F #[.string ⟨l.toArray⟩] w fun e w' => e = .returned (.tuple #[.agg (addrP l).1.cells.toArray, .int .i64 ((addrP l).2 : Int)]) ∧ Below w.heap.size w w'
def CfFmtEndC (F : Nat) : Prop := ∀ a : AddrM, a.ok → ∀ port : Int, -9223372036854775808 ≤ port → port ≤ 9223372036854775807 → ∀ w : World, LvCf w →
  Calls Tryz.prog F #[.agg (prefC a port).toArray] w fun e w' => e = .returned (.string ⟨(endT a port).toArray⟩) ∧ Below w.heap.size w w'
def CfParseEndC (F : Nat) : Prop := ∀ l : List UInt8, l.length ≤ 100000 → ∀ w : World, LvCf w →
  Calls Tryz.prog F #[.string ⟨l.toArray⟩] w fun e w' => e = .returned (.tuple #[.agg (prefC (endP l).1.1 ((endP l).1.2 : Int)).toArray, .int .i64 ((endP l).2 : Int)]) ∧ Below w.heap.size w w'
def CfFmtPrefC (F : Nat) : Prop := ∀ a : AddrM, a.ok → ∀ bits : Int, -9223372036854775808 ≤ bits → bits ≤ 9223372036854775807 → ∀ w : World, LvCf w →
  Calls Tryz.prog F #[.agg (prefC a bits).toArray] w fun e w' => e = .returned (.string ⟨(prefT a bits).toArray⟩) ∧ Below w.heap.size w w'
def CfParsePrefC (F : Nat) : Prop := ∀ l : List UInt8, l.length ≤ 100000 → ∀ w : World, LvCf w →
  Calls Tryz.prog F #[.string ⟨l.toArray⟩] w fun e w' => e = .returned (.tuple #[.agg (prefC (prefP l).1.1 ((prefP l).1.2 : Int)).toArray, .int .i64 ((prefP l).2 : Int)]) ∧ Below w.heap.size w w'

theorem end_cellsOf (a : AddrM) (h : a.ok) (q : Int) : (Tryz.prog.info? 27).map (·.size) = some (prefC a q).length := by
  rw [prefC_length a h q]; kernel_rfl
theorem end_noguard : Tryz.prog.eqGuardType Tryz.prog.depth 27 = false := by kernel_rfl
theorem pref_noguard : Tryz.prog.eqGuardType Tryz.prog.depth 29 = false := by kernel_rfl
theorem end_same (a : AddrM) (h : a.ok) (q : Int) (h1 : -9223372036854775808 ≤ q) (h2 : q ≤ 9223372036854775807) (w : World) : (Op.equalIn 10000 27 (.agg (prefC a q).toArray) (.agg (prefC a q).toArray)).run Tryz.prog w = .ok true w := by
  refine same_obj 6 4 27 (by omega) (by kernel_rfl) (prefC a q) ?_ _ Tryz.underlying27 rfl (by rw [prefC_length a h q]; kernel_rfl) w
  refine lits_struct Tryz.underlying27 (prefC a q) ?_ (by simp) ?_
  · rw [prefC_length a h q]; kernel_rfl
  · intro f hf
    simp only [List.mem_cons, List.not_mem_nil, or_false] at hf
    rcases hf with rfl | rfl
    · have e : ((prefC a q).drop 0).take (Tryz.prog.cellsOf 25) = a.cells := by
        rw [show Tryz.prog.cellsOf 25 = 17 by kernel_rfl]
        exact prefC_addr a h q
      exact e ▸ addr_lits 0 _ h
    · have e : ((prefC a q).drop 17).take (Tryz.prog.cellsOf 3) = [.int .i64 q] := by
        rw [show Tryz.prog.cellsOf 3 = 1 by kernel_rfl, prefC, List.drop_left' (AddrM.cells_length h)]; rfl
      exact e ▸ lits_int Tryz.underlying3 _ ⟨by simp [IntKind.min, IntKind.signed, IntKind.bits]; omega, by simp [IntKind.max, IntKind.signed, IntKind.bits]; omega⟩
theorem pref_same (a : AddrM) (h : a.ok) (q : Int) (h1 : -9223372036854775808 ≤ q) (h2 : q ≤ 9223372036854775807) (w : World) : (Op.equalIn 10000 29 (.agg (prefC a q).toArray) (.agg (prefC a q).toArray)).run Tryz.prog w = .ok true w := by
  refine same_obj 6 4 29 (by omega) (by kernel_rfl) (prefC a q) ?_ _ Tryz.underlying29 rfl (by rw [prefC_length a h q]; kernel_rfl) w
  refine lits_struct Tryz.underlying29 (prefC a q) ?_ (by simp) ?_
  · rw [prefC_length a h q]; kernel_rfl
  · intro f hf
    simp only [List.mem_cons, List.not_mem_nil, or_false] at hf
    rcases hf with rfl | rfl
    · have e : ((prefC a q).drop 0).take (Tryz.prog.cellsOf 25) = a.cells := by
        rw [show Tryz.prog.cellsOf 25 = 17 by kernel_rfl]
        exact prefC_addr a h q
      exact e ▸ addr_lits 0 _ h
    · have e : ((prefC a q).drop 17).take (Tryz.prog.cellsOf 3) = [.int .i64 q] := by
        rw [show Tryz.prog.cellsOf 3 = 1 by kernel_rfl, prefC, List.drop_left' (AddrM.cells_length h)]; rfl
      exact e ▸ lits_int Tryz.underlying3 _ ⟨by simp [IntKind.min, IntKind.signed, IntKind.bits]; omega, by simp [IntKind.max, IntKind.signed, IntKind.bits]; omega⟩
end Go.Proofs.YtkhghmmgegkiiaaGreatDoor
namespace Go.Proofs.YtkhghmmgegkiiaaGreatDoor
open Go.RowKit

theorem row_blk {w : World} {base e g n : Nat} {xs : List Value} (h : w.ownsRow base e 1 (.slice (some ⟨g, 0, none⟩) n n) n xs) : Blk w g e xs := by
  rcases h.2 with ⟨h0, _⟩ | ⟨g', cap, cur, hv, _, hg, _, _, hcs, ht⟩
  · cases h0
  · simp only [Value.slice.injEq, Option.some.injEq, Addr.mk.injEq, and_true, true_and] at hv
    obtain ⟨rfl, rfl⟩ := hv
    have : cur.toList = xs := by
      rw [← ht, List.take_of_length_le (by simp; omega)]
    unfold Blk
    rw [hg, ← this]

theorem Rd.kept {w w' : World} {B g n : Nat} {A : Option Addr} {l : List UInt8} (h : Rd w B A n l) (hB : B ≤ g) (hg : g < w.heap.size) (hb : w.grownBy w' (some g)) : Rd w' B A n l :=
  h.keep fun q hq => World.cell?_of_block (hb.block q.block (by omega) (fun e => by injection e with e; omega))
theorem Rd.below2 {w w' : World} {B n : Nat} {A : Option Addr} {l : List UInt8} (h : Rd w B A n l) (hB : B ≤ w.heap.size) (hb : Below w.heap.size w w') : Rd w' B A n l := h.below (hb.mono hB)
end Go.Proofs.YtkhghmmgegkiiaaGreatDoor
namespace Go.Proofs.YtkhghmmgegkiiaaGreatDoor
open Go.RowKit

theorem grownD {a w : World} {row : Option Nat} (h : a.grownBy w row) : a.grownBy w.drew row := ⟨h.os, h.tape, h.output, h.size, h.block⟩
theorem grownB {a w w' : World} {row : Option Nat} (h : a.grownBy w row) (hb : Below w.heap.size w w') : a.grownBy w' row :=
  grownBy_trans h ⟨hb.os, hb.tape, hb.output, hb.size, fun k hk _ => hb.block k hk⟩
theorem grown_refl (w : World) (k : Option Nat) : w.grownBy w k := ⟨rfl, rfl, rfl, Nat.le_refl _, fun _ _ _ => rfl⟩
/-- a change above w is none below it -/
theorem grownA {w W W' : World} {g : Nat} {row : Option Nat} (h : w.grownBy W (some g)) (hb : W.grownBy W' row) (hr : ∀ k, row = some k → w.heap.size ≤ k) : w.grownBy W' (some g) :=
  ⟨hb.os.trans h.os, hb.tape.trans h.tape, hb.output.trans h.output, Nat.le_trans h.size hb.size, fun k hk hne => (hb.block k (Nat.lt_of_lt_of_le hk h.size) (fun e => absurd (hr k e.symm) (by omega))).trans (h.block k hk hne)⟩
/-- the entries, and that of what was there ahead of w0 only the block g has changed -/
def MemG (w0 : World) (g : Nat) (E : List Ent) (W : World) : Prop := MemE w0.heap.size E W.heap.size W ∧ w0.grownBy W (some g)
section
variable {w0 W W' : World} {g : Nat} {E : List Ent}
theorem MemG.nil (w0 : World) (g : Nat) : MemG w0 g [] w0 := ⟨Nat.le_refl _, grown_refl _ _⟩
theorem MemG.get (h : MemG w0 g E W) (i : Nat) {e : Ent} (he : E[i]? = some e) : e.P W := h.1.get i e he
theorem MemG.blk (h : MemG w0 g E W) (i : Nat) {b : Nat} {t : TypeId} {cs : List Value} (he : E[i]? = some (blkE b t cs)) : Blk W b t cs := h.1.get i _ he
theorem MemG.rd (h : MemG w0 g E W) (i : Nat) {lo hi : Nat} {A : Option Addr} {n : Nat} {l : List UInt8} (he : E[i]? = some (rdE lo hi A n l)) : Rd W W.heap.size A n l :=
  (RdIn.rd (h.1.get i _ he)).mono (MemE.put.MemE.under h.1 i _ he)
theorem MemG.below (h : MemG w0 g E W) (hb : Below W.heap.size W W') : MemG w0 g E W' := ⟨h.1.keep hb.size (fun k _ hk => hb.block k hk), grownB h.2 hb⟩
theorem MemG.drew (h : MemG w0 g E W) : MemG w0 g E W.drew := h.below ((Below.refl _ _).drew)
/-- the block g changes -/
theorem MemG.next (h : MemG w0 g E W) (hg : g < w0.heap.size) (hb : W.grownBy W' (some g)) : MemG w0 g E W' :=
  ⟨h.1.keep hb.size (fun k h1 hk => hb.block k hk (fun e => by injection e with e; omega)), grownBy_trans h.2 hb⟩
theorem MemG.alloc (h : MemG w0 g E W) {b : Nat} (hb0 : b = W.heap.size) (t : TypeId) (arr : Array Value) (cs : List Value) (ha : arr = cs.toArray) : MemG w0 g (blkE b t cs :: E) (W.alloc (.cells arr t)) := by
  subst hb0 ha
  have hb : Below W.heap.size W (W.alloc (.cells cs.toArray t)) := (Below.refl _ _).alloc (Nat.le_refl _) _
  refine ⟨⟨?_, Nat.le_succ _, Blk.new W t cs, h.1.keep (Nat.le_refl _) (fun k _ hk => hb.block k hk)⟩, grownB h.2 hb⟩
  show W.heap.size + 1 ≤ _
  simp
theorem MemG.call (h : MemG w0 g E W) (hb : Below W.heap.size W W') (e : Ent) (hl : e.lo = W.heap.size) (hh : e.hi = W'.heap.size) (hp : e.P W') : MemG w0 g (e :: E) W' :=
  ⟨⟨by rw [hh]; exact Nat.le_refl _, by rw [hl, hh]; exact hb.size, hp, by rw [hl]; exact h.1.keep (Nat.le_refl _) (fun k _ hk => hb.block k hk)⟩, grownB h.2 hb⟩
theorem MemG.put (h : MemG w0 g E W) (i : Nat) {b : Nat} {t : TypeId} {cs : List Value} (he : E[i]? = some (blkE b t cs)) (cs' : List Value) (hg : W.grownBy W' (some b)) (hb : Blk W' b t cs') : MemG w0 g (E.set i (blkE b t cs')) W' := by
  have hlow : w0.heap.size ≤ b := MemE.low h.1 i _ he
  refine ⟨(MemE.put h.1 i _ (blkE b t cs') he rfl rfl (fun k hk hne => hg.block k hk (fun e => hne ?_)) hb).keep hg.size (fun _ _ _ => rfl), grownA h.2 hg (fun k hk => by injection hk with hk; omega)⟩
  injection e with e
  subst e
  exact ⟨Nat.le_refl _, Nat.lt_succ_self _⟩
theorem MemG.setCell (h : MemG w0 g E W) (i : Nat) {b : Nat} {t : TypeId} {cs : List Value} (he : E[i]? = some (blkE b t cs)) (j : Nat) (u : Value) : MemG w0 g (E.set i (blkE b t (cs.set j u))) (W.setCell ⟨b, j, none⟩ u) :=
  h.put i he _ ⟨rfl, rfl, rfl, by simp [World.setCell], fun k _ hne => Below.heap_setCell _ _ _ _ (fun e => hne (by rw [e]))⟩ ((h.blk i he).set_ j u)
end
end Go.Proofs.YtkhghmmgegkiiaaGreatDoor
namespace Go.Proofs.YtkhghmmgegkiiaaGreatDoor
open Go.RowKit

/-- the list of choices that lies at A, p of them taken -/
def codesC (A : Option Addr) (n c p : Nat) : List Value := [.slice A n c, .int .i64 (p : Int)]
def nextV (l : List UInt8) (p m : Nat) : Nat := if p < l.length ∧ 1 ≤ m then (l.getD p 0).toNat % m else 0
def nextP (l : List UInt8) (p m : Nat) : Nat := if p < l.length ∧ 1 ≤ m then p + 1 else p
theorem nextP_le (l : List UInt8) (p m : Nat) (h : p ≤ l.length) : nextP l p m ≤ l.length := by unfold nextP; split <;> omega
theorem nextV_lt (l : List UInt8) (p m : Nat) (h : 1 ≤ m) : nextV l p m < m := by unfold nextV; split; exact Nat.mod_lt _ h; omega
set_option maxRecDepth 100000 in
theorem caseLeft_any (g : Nat) (A : Option Addr) (n c : Nat) (p : Nat) (w : World) (hg : Blk w g 71 (codesC A n c p)) :
    Calls Tryz.prog 74 #[.pointer (some ⟨g, 0, none⟩)] w fun e w' => e = .returned (.bool (decide (p < n))) ∧ Below w.heap.size w w' := by
  have HG := Lib.hid hg
  have hd : decide ((p : Int) < (n : Int)) = decide (p < n) := by simp
  obtain ⟨q, hq⟩ : ∃ q, decide (p < n) = q := ⟨_, rfl⟩
  rw [hq] at hd
  have HQ := Lib.hid hq
  clear hg hq
  go_enter Tryz.func74, Tryz.ntmps74
  have f0 := HG.out.cell 0
  have f1 := HG.out.cell 1
  rw [show (codesC A n c p)[0]? = some (.slice A n c) from rfl] at f0
  rw [show (codesC A n c p)[1]? = some (.int .i64 (p : Int)) from rfl] at f1
  go_upto_region 1 with fail
  go_region
  go_wp2
  go_ret
  exact ⟨by rw [HQ.out]; rfl, (Below.refl _ _).drew⟩
set_option maxRecDepth 100000 in
set_option maxHeartbeats 2000000 in
theorem caseNext_any (g : Nat) (A : Option Addr) (n c : Nat) (l : List UInt8) (p : Nat) (hn : n ≤ 100000) (hp : p ≤ n) (m : Nat) (hm : m ≤ 1000000) (B : Nat) (hB : B ≤ g) (w : World) (hg : Blk w g 71 (codesC A n c p)) (hr : Rd w B A n l) :
    Calls Tryz.prog 34 #[.pointer (some ⟨g, 0, none⟩), .int .i64 (m : Int)] w fun e w' => e = .returned (.int .i64 (nextV l p m : Int)) ∧ Blk w' g 71 (codesC A n c (nextP l p m)) ∧ w.grownBy w' (some g) := by
  have hl := hr.1
  have LC := caseLeft_any g A n c p w hg
  have HG := Lib.hid hg
  have HR := Lib.hid hr
  have HLC := Lib.hid LC
  clear hg hr LC
  by_cases hpn : p < n
  · by_cases hm1 : 1 ≤ m
    · have HV := Lib.hid (show nextV l p m = (l.getD p 0).toNat % m ∧ nextP l p m = p + 1 from ⟨if_pos ⟨by omega, hm1⟩, if_pos ⟨by omega, hm1⟩⟩)
      obtain ⟨b, off, rfl, hb0, _⟩ := HR.out.at_ (by omega)
      go_enter Tryz.func34, Tryz.ntmps34
      go_upto_region 1 with fail
      go_wp2_with fail
      refine HLC.out.mono ?_
      rintro e w1 ⟨rfl, hb⟩
      rw [decide_eq_true hpn]
      have HG1 := Lib.hid (HG.out.below hb HG.out.lt)
      have HR1 := Lib.hid ((HR.out.mono (Nat.le_trans hB (Nat.le_of_lt HG.out.lt))).below hb)
      have HW := Lib.hid (grownB (grown_refl w (some g)) hb)
      clear hb HLC
      have dm : decide ((m : Int) < 1) = false := by simp; omega
      have f0 := HG1.out.cell 0
      have f1 := HG1.out.cell 1
      rw [show (codesC (some ⟨b, off, none⟩) n c p)[0]? = some (.slice (some ⟨b, off, none⟩) n c) from rfl] at f0
      rw [show (codesC (some ⟨b, off, none⟩) n c p)[1]? = some (.int .i64 (p : Int)) from rfl] at f1
      have z1 := HG1.out.frozen 1
      have hw1 : IntKind.i64.wrap ((p : Int) + 1) = ((p + 1 : Nat) : Int) := by rw [IntWalk.i64_in _ (by omega)]; omega
      obtain ⟨p1, hp1⟩ : ∃ q, p + 1 = q := ⟨_, rfl⟩
      rw [hp1] at hw1
      have hs := HG1.out.set_ 1 (.int .i64 (p1 : Int))
      have HS := Lib.hid (show Blk (w1.setCell ⟨g, 1, none⟩ (.int .i64 (p1 : Int))) g 71 (codesC (some ⟨b, off, none⟩) n c p1) from hs)
      have HW2 := Lib.hid (show w.grownBy (w1.setCell ⟨g, 1, none⟩ (.int .i64 (p1 : Int))) (some g) from grown_set HW.out 1 _)
      have hfx : (w1.setCell ⟨g, 1, none⟩ (.int .i64 (p1 : Int))).cell? ⟨b, off + p, none⟩ = some (.int .u8 ((l.getD p 0).toNat : Int)) := by
        rw [World.cell?_of_block (w := w1) (Below.heap_setCell _ _ _ _ (by dsimp only; omega))]
        exact HR1.out.byt p hpn
      have HFX := Lib.hid hfx
      clear hs hfx
      go_upto_region 4 with fail
      clear f0 f1 z1 dm
      (try simp only [hw1])
      generalize w1.setCell ⟨g, 1, none⟩ (.int .i64 (p1 : Int)) = w2 at HS HW2 HFX ⊢
      clear hw1
      have f0 := HS.out.cell 0
      have f1 := HS.out.cell 1
      rw [show (codesC (some ⟨b, off, none⟩) n c p1)[0]? = some (.slice (some ⟨b, off, none⟩) n c) from rfl] at f0
      rw [show (codesC (some ⟨b, off, none⟩) n c p1)[1]? = some (.int .i64 (p1 : Int)) from rfl] at f1
      have fx := HFX.out
      generalize l.getD p 0 = x at fx HV
      have hw2 : IntKind.i64.wrap ((p1 : Int) - 1) = (p : Int) := by rw [IntWalk.i64_in _ (by omega)]; omega
      have hw3 : (p1 : Int) - 1 = (p : Int) := by omega
      have hw4 : IntKind.i64.wrap (p : Int) = (p : Int) := IntWalk.i64_in _ (by omega)
      have hx256 := x.toNat_lt
      have hw5 : IntKind.i64.wrap (x.toNat : Int) = (x.toNat : Int) := IntWalk.i64_in _ (by omega)
      have bp : (p : Int) < (n : Int) := by omega
      have hmz : ((m : Int) == 0) = false := by rw [beq_eq_false_iff_ne]; omega
      have hmz' : ¬ (m : Int) = 0 := by omega
      obtain ⟨r, hr⟩ : ∃ r, x.toNat % m = r := ⟨_, rfl⟩
      have hmod : (x.toNat : Int).tmod (m : Int) = (r : Int) := by rw [← hr, Int.tmod_eq_emod_of_nonneg (by omega), Int.natCast_emod]
      have hmod2 : (x.toNat : Int) % (m : Int) = (r : Int) := by rw [← hr, Int.natCast_emod]
      rw [hr, hp1] at HV
      have hwr : IntKind.i64.wrap (r : Int) = (r : Int) := IntWalk.i64_in _ (by rw [← hr]; have := Nat.mod_le x.toNat m; omega)
      clear hr
      go_region
      go_wp2
      go_ret
      exact ⟨by rw [HV.out.1]; rfl, by rw [HV.out.2]; exact HS.out.drew, grownD HW2.out⟩
    · have HV := Lib.hid (show nextV l p m = 0 ∧ nextP l p m = p from ⟨if_neg (by omega), if_neg (by omega)⟩)
      go_enter Tryz.func34, Tryz.ntmps34
      go_upto_region 1 with fail
      go_wp2_with fail
      refine HLC.out.mono ?_
      rintro e w1 ⟨rfl, hb⟩
      rw [decide_eq_true hpn]
      have HG1 := Lib.hid (HG.out.below hb HG.out.lt)
      have HW := Lib.hid (grownB (grown_refl w (some g)) hb)
      clear hb HLC
      have dm : decide ((m : Int) < 1) = true := by simp; omega
      go_wp2
      go_ret
      exact ⟨by rw [HV.out.1]; rfl, by rw [HV.out.2]; exact HG1.out, HW.out⟩
  · have HV := Lib.hid (show nextV l p m = 0 ∧ nextP l p m = p from ⟨if_neg (by omega), if_neg (by omega)⟩)
    go_enter Tryz.func34, Tryz.ntmps34
    go_upto_region 1 with fail
    go_wp2_with fail
    refine HLC.out.mono ?_
    rintro e w1 ⟨rfl, hb⟩
    rw [decide_eq_false hpn]
    have HG1 := Lib.hid (HG.out.below hb HG.out.lt)
    have HW := Lib.hid (grownB (grown_refl w (some g)) hb)
    clear hb HLC
    go_wp2
    go_ret
    exact ⟨by rw [HV.out.1]; rfl, by rw [HV.out.2]; exact HG1.out, HW.out⟩
end Go.Proofs.YtkhghmmgegkiiaaGreatDoor
namespace Go.Proofs.YtkhghmmgegkiiaaGreatDoor
open Go.RowKit

theorem codeByte_wrap (v : Nat) : IntKind.u8.wrap (v : Int) = ((UInt8.ofNat v).toNat : Int) := by
  rw [IntKind.wrap_u8, UInt8.toNat_ofNat']
  omega
def codeByte (x p1 i : Nat) : UInt8 := UInt8.ofNat (x + i * (2 * p1 + 1))
/-- k bytes of choices -/
def pickB (l : List UInt8) (p k : Nat) : List UInt8 := (List.range k).map (codeByte (nextV l p 256) (nextP l p 256))
theorem pickB_length (l : List UInt8) (p k : Nat) : (pickB l p k).length = k := by simp [pickB]
def codeJ (l : List UInt8) (p k j : Nat) : List UInt8 := (pickB l p k).take j ++ List.replicate (k - j) 0
theorem codeJ_length (l : List UInt8) (p k j : Nat) (h : j ≤ k) : (codeJ l p k j).length = k := by simp [codeJ, pickB_length]; omega
theorem codeJ_step (l : List UInt8) (p k j : Nat) (h : j < k) : (codeJ l p k j).set j (codeByte (nextV l p 256) (nextP l p 256) j) = codeJ l p k (j + 1) := by
  have hl := pickB_length l p k
  have hj : (pickB l p k)[j]'(by omega) = codeByte (nextV l p 256) (nextP l p 256) j := by simp [pickB]
  rw [codeJ, codeJ, List.set_append_right _ _ (by rw [List.length_take]; omega), List.length_take, Nat.min_eq_left (by omega), Nat.sub_self, show k - j = (k - (j + 1)) + 1 by omega, List.replicate_succ, List.set_cons_zero, List.take_succ_eq_append_getElem (by omega), hj, List.append_assoc]
  rfl
set_option maxRecDepth 100000 in
set_option maxHeartbeats 2000000 in
theorem caseBytes_any (g : Nat) (A : Option Addr) (n c : Nat) (l : List UInt8) (p : Nat) (hn : n ≤ 100000) (hp : p ≤ n) (k : Nat) (hk : k ≤ 1000) (B : Nat) (hB : B ≤ g) (w : World) (hg : Blk w g 71 (codesC A n c p)) (hr : Rd w B A n l) :
    Calls Tryz.prog 35 #[.pointer (some ⟨g, 0, none⟩), .int .i64 (k : Int)] w fun e w' => e = .returned (.slice (some ⟨w.heap.size, 0, none⟩) k k) ∧ Blk w' g 71 (codesC A n c (nextP l p 256)) ∧ MemG w g [blkE w.heap.size 5 ((pickB l p k).map u8v)] w' := by
  obtain ⟨i0, hi, hz0, hz1, hz2⟩ := info_parts Tryz.info5
  have hgl := hg.lt
  have hl := hr.1
  have HG := Lib.hid hg
  have HR := Lib.hid hr
  clear hg hr
  go_enter Tryz.func35, Tryz.ntmps35
  go_upto_region 2 with (refine wpList_make_full _ rfl (.tmp 9) (.tmp 9) 22 rfl w.heap.size 5 i0 (.int .u8 0) 1 Tryz.underlying22 hi hz0 hz1 .i64 .i64 k k k rfl rfl rfl rfl (by rw [hz2]; omega) (by unfold maxLen; omega) (Nat.le_refl _) ?_; intro w1 hown1 hg1)
  rw [show (Value.int IntKind.u8 0).cells = #[.int .u8 0] from rfl, toList_madeCells_one, Nat.mul_one] at hown1
  have hM1 : MemG w g [blkE w.heap.size 5 ((codeJ l p k 0).map u8v)] w1 := by
    have hb1 := row_blk hown1
    have h2 : (codeJ l p k 0).map u8v = List.replicate k (.int .u8 0) := by simp [codeJ, u8v]
    refine ⟨⟨hb1.lt, Nat.le_succ _, by rw [h2]; exact hb1, Nat.le_refl _⟩, ⟨hg1.os, hg1.tape, hg1.output, hg1.size, fun q hq _ => hg1.block q hq (by simp)⟩⟩
  have HM := Lib.hid hM1
  have HG1 := Lib.hid (HG.out.grown hg1 (by simp))
  have HR1 := Lib.hid (HR.out.below2 (by omega) (⟨hg1.os, hg1.tape, hg1.output, hg1.size, fun q hq => hg1.block q hq (by simp)⟩ : Below w.heap.size w w1))
  clear hM1 hown1 hg1
  go_wp2_with fail
  refine (caseNext_any g A n c l p hn hp 256 (by omega) B hB w1 HG1.out HR1.out).mono ?_
  rintro e w2 ⟨rfl, hG2, hgr⟩
  have hp1 := nextP_le l p 256 (by omega)
  have hxl := nextV_lt l p 256 (by omega)
  replace HM := Lib.hid (HM.out.next hgl hgr)
  have HG2 := Lib.hid hG2
  clear hG2 hgr HG1 HR1
  have HJ := Lib.hid (codeJ_step l p k)
  generalize nextV l p 256 = x at hxl HJ ⊢
  obtain ⟨p1, hp1e⟩ : ∃ q, nextP l p 256 = q := ⟨_, rfl⟩
  rw [hp1e] at hp1 HG2 HJ
  have HP1 := Lib.hid hp1e
  clear hp1e
  have f1 := HG2.out.cell 1
  rw [show (codesC A n c p1)[1]? = some (.int .i64 (p1 : Int)) from rfl] at f1
  obtain ⟨s2, hs2⟩ : ∃ q, 2 * p1 = q := ⟨_, rfl⟩
  have hw1 : IntKind.i64.wrap (2 * (p1 : Int)) = (s2 : Int) := by rw [IntWalk.i64_in _ (by omega)]; omega
  obtain ⟨s3, hs3⟩ : ∃ q, s2 + 1 = q := ⟨_, rfl⟩
  have hw2 : IntKind.i64.wrap ((s2 : Int) + 1) = (s3 : Int) := by rw [IntWalk.i64_in _ (by omega)]; omega
  have HS := Lib.hid (show 2 * p1 + 1 = s3 by omega)
  have hs3l : s3 ≤ 200001 := by omega
  clear hs2 hs3
  go_upto_region 4 with fail
  clear f1 hw1 hw2
  go_wp2_with fail
  go_loopw [21, 8] (fun z _ wr => ∃ j : Nat, j ≤ k ∧ z = .int .i64 (j : Int) ∧ Blk wr g 71 (codesC A n c p1) ∧ MemG w g [blkE w.heap.size 5 ((codeJ l p k j).map u8v)] wr) (fun z _ _ => k - (intOf z).toNat)
  case atStart => exact ⟨0, by omega, rfl, HG2.out, HM.out⟩
  case round =>
    clear HM HG2
    obtain ⟨j, hj, rfl, hgb, hM⟩ := hrel
    have HM := Lib.hid hM
    have HGB := Lib.hid hgb
    clear hM hgb
    by_cases hlt : j < k
    · have dl : decide ((j : Int) < (k : Int)) = true := by simp; omega
      have bj : (j : Int) < (k : Int) := by omega
      have hcl := codeJ_length l p k j hj
      have hlk : ((codeJ l p k j).map u8v)[j]? = some (u8v ((codeJ l p k j).getD j 0)) := by rw [List.getElem?_map, List.getD_eq_getElem?_getD, List.getElem?_eq_getElem (by omega)]; rfl
      have fx := ((HM.out.blk 0 rfl).cell j).trans hlk
      generalize u8v ((codeJ l p k j).getD j 0) = y at fx
      have zx := (HM.out.blk 0 rfl).frozen j
      obtain ⟨m1, hm1⟩ : ∃ q, j * s3 = q := ⟨_, rfl⟩
      have hmb : m1 ≤ 1000 * 200001 := by rw [← hm1]; exact Nat.mul_le_mul (by omega) hs3l
      have hm2 : (j : Int) * (s3 : Int) = (m1 : Int) := by rw [← hm1, Int.natCast_mul]
      have hw3 : IntKind.i64.wrap ((j : Int) * (s3 : Int)) = (m1 : Int) := by rw [hm2]; exact IntWalk.i64_in _ (by omega)
      obtain ⟨v, hv⟩ : ∃ q, x + m1 = q := ⟨_, rfl⟩
      have hw4 : IntKind.i64.wrap ((x : Int) + (m1 : Int)) = (v : Int) := by rw [IntWalk.i64_in _ (by omega)]; omega
      have hw5 := codeByte_wrap v
      have hst : (codeJ l p k j).set j (UInt8.ofNat v) = codeJ l p k (j + 1) := by rw [← HJ.out j hlt, codeByte, HS.out, hm1, hv]
      generalize UInt8.ofNat v = u at hw5 hst
      have HN := Lib.hid (show MemG w g [blkE w.heap.size 5 ((codeJ l p k (j + 1)).map u8v)] (wr.setCell ⟨w.heap.size, j, none⟩ (.int .u8 (u.toNat : Int))) from by have h := HM.out.setCell 0 rfl j (u8v u); rw [← List.map_set, hst] at h; exact h)
      have HGN := Lib.hid (show Blk (wr.setCell ⟨w.heap.size, j, none⟩ (.int .u8 (u.toNat : Int))) g 71 (codesC A n c p1) from HGB.out.far (by dsimp only; omega) _)
      clear hst hm1 hmb hm2 hv hcl hlk HM HGB
      go_wp2
      go_roundw
      case rel => exact ⟨j + 1, by omega, by go_num, HGN.out, HN.out⟩
      case measure => simp [intOf]; omega
    · obtain rfl : j = k := by omega
      have dl : decide ((j : Int) < (j : Int)) = false := by simp
      have he : codeJ l p j j = pickB l p j := by rw [codeJ, Nat.sub_self, List.replicate_zero, List.append_nil, List.take_of_length_le (by rw [pickB_length]; omega)]
      rw [he] at HM
      go_wp2
      go_ret
      exact ⟨rfl, by rw [HP1.out]; exact HGB.out, HM.out⟩
set_option maxRecDepth 100000 in
theorem caseNew_any (A : Option Addr) (n c m k : Nat) (hm : m ≤ 1000000) (hnc : n ≤ c) (hcm : c ≤ maxLen) (hk : min n m = k) (w : World) :
    Calls Tryz.prog 8 #[.slice A n c, .int .i64 (m : Int)] w fun e w' => e = .returned (.pointer (some ⟨w.heap.size, 0, none⟩)) ∧ Mem w [blkE w.heap.size 71 (codesC A k c 0)] w' := by
  have hc63 : (c : Int) ≤ 9223372036854775807 := by unfold maxLen at hcm; omega
  have HM := Lib.hid ((Mem.nil w).alloc rfl 71 #[.slice A k c, .int .i64 0] (codesC A k c 0) rfl)
  by_cases h : n ≤ m
  · obtain rfl : k = n := by omega
    have h1 : ¬ (m : Int) < (k : Int) := by omega
    have h2 : (k : Int) ≤ (m : Int) := by omega
    have h3 : (k : Int) ≤ (c : Int) := by omega
    have h4 : (if (m : Int) < (k : Int) then (m : Int) else (k : Int)) = (k : Int) := if_neg h1
    clear hk
    go_enter Tryz.func8, Tryz.ntmps8
    go_wp2
    go_ret
    exact ⟨rfl, HM.out⟩
  · obtain rfl : k = m := by omega
    have h1 : (k : Int) < (n : Int) := by omega
    have h2 : ¬ (n : Int) ≤ (k : Int) := by omega
    have h3 : (k : Int) ≤ (c : Int) := by omega
    have h4 : (if (k : Int) < (n : Int) then (k : Int) else (n : Int)) = (k : Int) := if_pos h1
    clear hk
    go_enter Tryz.func8, Tryz.ntmps8
    go_wp2
    go_ret
    exact ⟨rfl, HM.out⟩
end Go.Proofs.YtkhghmmgegkiiaaGreatDoor
namespace Go.Proofs.YtkhghmmgegkiiaaGreatDoor
open Go.RowKit

theorem AddrM.set_cell (a : AddrM) (q : Nat) (y : UInt8) : a.cells.set (1 + q) (u8v y) = (AddrM.mk a.six (a.ip.set q y)).cells := by
  rw [AddrM.cells, AddrM.cells, Nat.add_comm, List.set_cons_succ, ← List.map_set]
end Go.Proofs.YtkhghmmgegkiiaaGreatDoor
namespace Go.Proofs.YtkhghmmgegkiiaaGreatDoor
open Go.RowKit

end Go.Proofs.YtkhghmmgegkiiaaGreatDoor
namespace Go.Proofs.YtkhghmmgegkiiaaGreatDoor
open Go.RowKit

theorem MemE.join {b m : Nat} : ∀ {E2 E : List Ent} {top : Nat} {W : World}, MemE m E2 top W → MemE b E m W → MemE b (E2 ++ E) top W
  | [], _, _, _, h, k => MemE.keep k h (fun _ _ _ => rfl)
  | _ :: _, _, _, _, h, k => ⟨h.1, h.2.1, h.2.2.1, MemE.join h.2.2.2 k⟩
theorem MemG.join {w0 W W' : World} {g : Nat} {E E2 : List Ent} (h : MemG w0 g E W) (hg : g < w0.heap.size) (k : MemG W g E2 W') : MemG w0 g (E2 ++ E) W' :=
  ⟨MemE.join k.1 (h.1.keep (Nat.le_refl _) (fun q h1 hq => k.2.block q hq (fun e => by injection e with e; omega))), grownBy_trans h.2 k.2⟩
/-- the choices at a world: p of them taken -/
structure CodesAt (W : World) (g : Nat) (A : Option Addr) (n c : Nat) (l : List UInt8) (B : Nat) (p : Nat) : Prop where
  blk : Blk W g 71 (codesC A n c p)
  rd : Rd W B A n l
  le : B ≤ g
  lt : g < W.heap.size
  small : n ≤ 100000
  pos : p ≤ n
section
variable {W W' : World} {g : Nat} {A : Option Addr} {n c : Nat} {l : List UInt8} {B p : Nat}
theorem CodesAt.below (h : CodesAt W g A n c l B p) (hb : Below W.heap.size W W') : CodesAt W' g A n c l B p :=
  ⟨h.blk.below hb h.lt, h.rd.below2 (by have := h.le; have := h.lt; omega) hb, h.le, Nat.lt_of_lt_of_le h.lt hb.size, h.small, h.pos⟩
theorem CodesAt.put (h : CodesAt W g A n c l B p) {b : Nat} (hg : W.grownBy W' (some b)) (hb : g < b) : CodesAt W' g A n c l B p :=
  ⟨h.blk.grown hg (fun e => by injection e with e; omega), h.rd.keep (fun q hq => World.cell?_of_block (hg.block q.block (by have := h.le; have := h.lt; omega) (fun e => by injection e with e; have := h.le; omega))), h.le, Nat.lt_of_lt_of_le h.lt hg.size, h.small, h.pos⟩
theorem CodesAt.next (h : CodesAt W g A n c l B p) {q : Nat} (hq : q ≤ n) (hb : Blk W' g 71 (codesC A n c q)) (hg : W.grownBy W' (some g)) : CodesAt W' g A n c l B q :=
  ⟨hb, h.rd.kept h.le h.lt hg, h.le, Nat.lt_of_lt_of_le h.lt hg.size, h.small, hq⟩
theorem CodesAt.nextLe (h : CodesAt W g A n c l B p) (m : Nat) : nextP l p m ≤ n := by have := nextP_le l p m (by rw [h.rd.1]; exact h.pos); rw [h.rd.1] at this; exact this
theorem CodesAt.callNext (h : CodesAt W g A n c l B p) (m : Nat) (hm : m ≤ 1000000) :
    Calls Tryz.prog 34 #[.pointer (some ⟨g, 0, none⟩), .int .i64 (m : Int)] W fun e w' => e = .returned (.int .i64 (nextV l p m : Int)) ∧ CodesAt w' g A n c l B (nextP l p m) ∧ W.grownBy w' (some g) :=
  (caseNext_any g A n c l p h.small h.pos m hm B h.le W h.blk h.rd).mono fun _ _ k => ⟨k.1, h.next (h.nextLe m) k.2.1 k.2.2, k.2.2⟩
theorem CodesAt.callBytes (h : CodesAt W g A n c l B p) (m : Nat) (hm : m ≤ 1000) :
    Calls Tryz.prog 35 #[.pointer (some ⟨g, 0, none⟩), .int .i64 (m : Int)] W fun e w' => e = .returned (.slice (some ⟨W.heap.size, 0, none⟩) m m) ∧ CodesAt w' g A n c l B (nextP l p 256) ∧ MemG W g [blkE W.heap.size 5 ((pickB l p m).map u8v)] w' :=
  (caseBytes_any g A n c l p h.small h.pos m hm B h.le W h.blk h.rd).mono fun _ _ k => ⟨k.1, h.next (h.nextLe 256) k.2.1 k.2.2.2, k.2.2⟩
end
/-- an address of choices -/
def sixV (l : List UInt8) (p : Nat) : Bool := nextV l p 3 == 1
def fourB (l : List UInt8) (p : Nat) : List UInt8 := [10, UInt8.ofNat (nextV l p 4), UInt8.ofNat (nextV l (nextP l p 4) 4), UInt8.ofNat (nextV l (nextP l (nextP l p 4) 4) 256)]
def codeA (l : List UInt8) (p : Nat) : AddrM := ⟨sixV l p, if sixV l p then (pickB l (nextP l p 3) 16).set 0 253 else putL (List.replicate 16 0) 0 (fourB l (nextP l p 3))⟩
def codeAP (l : List UInt8) (p : Nat) : Nat := if sixV l p then nextP l (nextP l p 3) 256 else nextP l (nextP l (nextP l (nextP l p 3) 4) 4) 256
theorem codeA_ok (l : List UInt8) (p : Nat) : (codeA l p).ok := by
  unfold AddrM.ok codeA
  dsimp only
  split
  · rw [List.length_set, pickB_length]
  · rfl
theorem addr_put16 (b : Bool) (l : List UInt8) (h : l.length = 16) : setL (.bool b :: (List.replicate 16 (0 : UInt8)).map u8v) 1 (l.map u8v) = (AddrM.mk b l).cells := by
  rw [addr_put, AddrM.cells, putL, List.take_zero, List.nil_append, List.drop_of_length_le (by simp [h]), List.append_nil]
set_option maxRecDepth 100000 in
set_option maxHeartbeats 4000000 in
theorem caseAddr_any (g : Nat) (A : Option Addr) (n c : Nat) (l : List UInt8) (B : Nat) (p : Nat) (w : World) (hc : CodesAt w g A n c l B p) :
    Calls Tryz.prog 9 #[.pointer (some ⟨g, 0, none⟩)] w fun e w' => e = .returned (.agg (codeA l p).cells.toArray) ∧ CodesAt w' g A n c l B (codeAP l p) ∧ w.grownBy w' (some g) := by
  have hgl := hc.lt
  have HM := Lib.hid (show MemG w g [blkE w.heap.size 25 addr0.cells] (w.alloc (.cells #[.bool false, .int .u8 0, .int .u8 0, .int .u8 0, .int .u8 0, .int .u8 0, .int .u8 0, .int .u8 0, .int .u8 0, .int .u8 0, .int .u8 0, .int .u8 0, .int .u8 0, .int .u8 0, .int .u8 0, .int .u8 0, .int .u8 0] 25)) from (MemG.nil w g).alloc rfl 25 #[.bool false, .int .u8 0, .int .u8 0, .int .u8 0, .int .u8 0, .int .u8 0, .int .u8 0, .int .u8 0, .int .u8 0, .int .u8 0, .int .u8 0, .int .u8 0, .int .u8 0, .int .u8 0, .int .u8 0, .int .u8 0, .int .u8 0] addr0.cells rfl)
  have HC := Lib.hid (hc.below ((Below.refl _ _).alloc (Nat.le_refl _) (.cells #[.bool false, .int .u8 0, .int .u8 0, .int .u8 0, .int .u8 0, .int .u8 0, .int .u8 0, .int .u8 0, .int .u8 0, .int .u8 0, .int .u8 0, .int .u8 0, .int .u8 0, .int .u8 0, .int .u8 0, .int .u8 0, .int .u8 0] 25)))
  have HAO := Lib.hid (codeA_ok l p)
  have HCA := Lib.hid (show codeA l p = _ ∧ codeAP l p = _ from ⟨rfl, rfl⟩)
  clear hc
  go_enter Tryz.func9, Tryz.ntmps9
  go_upto_region 1 with fail
  generalize w.alloc (.cells #[.bool false, .int .u8 0, .int .u8 0, .int .u8 0, .int .u8 0, .int .u8 0, .int .u8 0, .int .u8 0, .int .u8 0, .int .u8 0, .int .u8 0, .int .u8 0, .int .u8 0, .int .u8 0, .int .u8 0, .int .u8 0, .int .u8 0] 25) = w1 at HM HC ⊢
  go_wp2_with fail
  refine (HC.out.callNext 3 (by omega)).mono ?_
  rintro e w2 ⟨rfl, hc2, hg2⟩
  have hsx : ((nextV l p 3 : Int) == 1) = sixV l p := by rw [sixV, Bool.eq_iff_iff, beq_iff_eq, beq_iff_eq]; omega
  replace HM := Lib.hid (HM.out.next hgl hg2)
  have HC := Lib.hid hc2
  clear hc2 hg2
  have HA := Lib.hid (show MemG w g [blkE w2.heap.size 25 addr0.cells, blkE w.heap.size 25 addr0.cells] (w2.alloc (.cells #[.bool false, .int .u8 0, .int .u8 0, .int .u8 0, .int .u8 0, .int .u8 0, .int .u8 0, .int .u8 0, .int .u8 0, .int .u8 0, .int .u8 0, .int .u8 0, .int .u8 0, .int .u8 0, .int .u8 0, .int .u8 0, .int .u8 0] 25)) from HM.out.alloc rfl 25 #[.bool false, .int .u8 0, .int .u8 0, .int .u8 0, .int .u8 0, .int .u8 0, .int .u8 0, .int .u8 0, .int .u8 0, .int .u8 0, .int .u8 0, .int .u8 0, .int .u8 0, .int .u8 0, .int .u8 0, .int .u8 0, .int .u8 0] addr0.cells rfl)
  have HC3 := Lib.hid (HC.out.below ((Below.refl _ _).alloc (Nat.le_refl _) (.cells #[.bool false, .int .u8 0, .int .u8 0, .int .u8 0, .int .u8 0, .int .u8 0, .int .u8 0, .int .u8 0, .int .u8 0, .int .u8 0, .int .u8 0, .int .u8 0, .int .u8 0, .int .u8 0, .int .u8 0, .int .u8 0, .int .u8 0] 25)))
  have hP3 := HC.out.lt
  obtain ⟨sx, hsxe⟩ : ∃ q, sixV l p = q := ⟨_, rfl⟩
  rw [hsxe] at hsx
  have HSX := Lib.hid hsxe
  clear hsxe
  go_upto_region 2 with (refine wpList_store_blk rfl 25 (.tmp 3) (.tmp 7) rfl w2.heap.size (.bool sx :: (List.replicate 16 (0 : UInt8)).map u8v) rfl rfl 25 addr0.cells (HA.out.blk 0 rfl) (by kernel_rfl) rfl (addr_one sx _) ?_; intro w3 hb hg)
  clear hsx
  (try simp only [Act.put])
  replace HM := Lib.hid (show MemG w g [blkE w2.heap.size 25 (.bool sx :: (List.replicate 16 (0 : UInt8)).map u8v), blkE w.heap.size 25 addr0.cells] w3 from HA.out.put 0 rfl _ hg hb)
  replace HC := Lib.hid (HC3.out.put hg hP3)
  clear HA HC3 hb hg
  have HPG := Lib.hid hP3
  clear hP3
  generalize w2.heap.size = P3 at HM HPG ⊢
  have f6 := (HM.out.blk 0 rfl).cell 0
  rw [show (.bool sx :: (List.replicate 16 (0 : UInt8)).map u8v : List Value)[0]? = some (.bool sx) from rfl] at f6
  cases sx with
  | true =>
    have HR := Lib.hid (show (AddrM.mk true ((pickB l (nextP l p 3) 16).set 0 253)) = codeA l p ∧ nextP l (nextP l p 3) 256 = codeAP l p from by rw [codeA, codeAP, HSX.out]; exact ⟨rfl, rfl⟩)
    have HBL := Lib.hid (pickB_length l (nextP l p 3) 16)
    have HPUT := Lib.hid (addr_put16 true (pickB l (nextP l p 3) 16) HBL.out)
    go_upto_region 3 with fail
    clear f6
    refine wp_region_held_drew (S := fun _ => True) (by kernel_rfl) (trivial) (fun hHeld => ?_)
    replace HM := Lib.hid HM.out.drew
    replace HC := Lib.hid (HC.out.below ((Below.refl _ _).drew))
    generalize w3.drew = wd1 at HM HC hHeld ⊢
    refine take_first (v := ?_) 0 rfl (by kernel_rfl) (by kernel_rfl) (by kernel_rfl) (fun _ _ _ h => h) (Or.inl ⟨by rfl, ?_⟩) (by assumption) ?_
    rotate_left
    · (intro w hSw; (try dsimp only at hSw); go_simp; try with_reducible rfl)
    (try simp only [Act.put, List.setIfInBounds_toArray, List.set_cons_zero, List.set_cons_succ])
    refine take_first (v := ?_) 1 rfl (by kernel_rfl) (by kernel_rfl) (by kernel_rfl) (fun _ _ _ h => h) (Or.inl ⟨by rfl, ?_⟩) (by assumption) ?_
    rotate_left
    · (intro w hSw; (try dsimp only at hSw); go_simp; try with_reducible rfl)
    (try simp only [Act.put, List.setIfInBounds_toArray, List.set_cons_zero, List.set_cons_succ])
    refine take_first (v := ?_) 2 rfl (by kernel_rfl) (by kernel_rfl) (by kernel_rfl) (fun _ _ _ h => h) (Or.inl ⟨by rfl, ?_⟩) (by assumption) ?_
    rotate_left
    · (intro w hSw; (try dsimp only at hSw); go_simp; try with_reducible rfl)
    (try simp only [Act.put, List.setIfInBounds_toArray, List.set_cons_zero, List.set_cons_succ])
    refine step_one 3 rfl (by kernel_rfl) (fun K hK => ?_)
    clear hHeld
    go_simp
    refine (HC.out.callBytes 16 (by omega)).mono ?_
    rintro e wy2 ⟨rfl, hc2, hm2⟩
    replace HM := Lib.hid (show MemG w g [blkE wd1.heap.size 5 ((pickB l (nextP l p 3) 16).map u8v), blkE P3 25 (.bool true :: (List.replicate 16 (0 : UInt8)).map u8v), blkE w.heap.size 25 addr0.cells] wy2 from HM.out.join hgl hm2)
    replace HC := Lib.hid hc2
    clear hc2 hm2
    generalize wd1.heap.size = PB at HM ⊢
    go_wp2_with fail
    refine hK.out _ _ (trivial) (fun hHeld => ?_)
    clear hK K
    (try simp only [Act.put, List.setIfInBounds_toArray, List.set_cons_zero, List.set_cons_succ])
    refine step_one 4 rfl (by kernel_rfl) (fun K hK => ?_)
    clear hHeld
    refine step_copy_bytes _ rfl (.tmp 11) (.tmp 13) 22 22 (by rfl) 5 Tryz.underlying22 (by kernel_rfl) P3 1 16 16 ⟨PB, 0, none⟩ 16 16 (by rfl) (by rfl) (.bool true :: (List.replicate 16 (0 : UInt8)).map u8v) 25 (HM.out.blk 1 rfl) ((pickB l (nextP l p 3) 16).map u8v) (by rw [List.length_map, HBL.out]; rfl) (fun q v hv => by rw [Go.WideShapes.add_plain]; exact (HM.out.blk 0 rfl).all q v hv) (by rw [List.length_map, HBL.out]; simp) (u8v_one _) ?_
    intro wy3 hb hg
    replace hb : Blk wy3 P3 25 (AddrM.mk true (pickB l (nextP l p 3) 16)).cells := by rw [← HPUT.out]; exact hb
    replace HM := Lib.hid (show MemG w g [blkE PB 5 ((pickB l (nextP l p 3) 16).map u8v), blkE P3 25 (AddrM.mk true (pickB l (nextP l p 3) 16)).cells, blkE w.heap.size 25 addr0.cells] wy3 from HM.out.put 1 rfl _ hg hb)
    replace HC := Lib.hid (HC.out.put hg HPG.out)
    clear hb hg
    refine hK.out _ _ (trivial) (fun hHeld => ?_)
    clear hK K
    (try simp only [Act.put, List.setIfInBounds_toArray, List.set_cons_zero, List.set_cons_succ])
    refine wpAnyH_done (by kernel_rfl) ?_ _
    clear hHeld
    revert wy3
    intro wq HM HC
    have HOK := Lib.hid (show (AddrM.mk true (pickB l (nextP l p 3) 16)).ok from HBL.out)
    have fx := ((HM.out.blk 1 rfl).cell (1 + 0)).trans (AddrM.ip_cell _ HOK.out 0 (by omega))
    have zx := (HM.out.blk 1 rfl).frozen (1 + 0)
    generalize ((AddrM.mk true (pickB l (nextP l p 3) 16)).ip.getD 0 0) = x0 at fx
    have HN := Lib.hid (show MemG w g [blkE PB 5 ((pickB l (nextP l p 3) 16).map u8v), blkE P3 25 (AddrM.mk true ((pickB l (nextP l p 3) 16).set 0 253)).cells, blkE w.heap.size 25 addr0.cells] (wq.setCell ⟨P3, 1 + 0, none⟩ (.int .u8 253)) from by have h := HM.out.setCell 1 rfl (1 + 0) (u8v 253); rw [AddrM.set_cell] at h; exact h)
    replace HC := Lib.hid (show CodesAt (wq.setCell ⟨P3, 1 + 0, none⟩ (.int .u8 253)) g A n c l B (nextP l (nextP l p 3) 256) from HC.out.put (W' := wq.setCell ⟨P3, 1 + 0, none⟩ (.int .u8 253)) (b := P3) ⟨rfl, rfl, rfl, by simp [World.setCell], fun k _ hne => Below.heap_setCell _ _ _ _ (fun e => hne (by rw [e]))⟩ HPG.out)
    rw [Nat.add_zero] at fx zx HN HC
    clear HM
    go_upto_region 5 with fail
    generalize wq.setCell ⟨P3, 1, none⟩ (.int .u8 253) = w5 at HN HC ⊢
    clear fx zx
    rw [HR.out.1] at HN
    rw [HR.out.2] at HC
    have HCL := Lib.hid (addr_cellsOf _ HAO.out)
    have HAL := Lib.hid (AddrM.cells_length HAO.out)
    obtain ⟨ca, hca⟩ : ∃ x, (codeA l p).cells.toArray = x := ⟨_, rfl⟩
    have HCC := Lib.hid hca
    clear hca
    go_wp2_with (first | (refine wpList_load_obj rfl 25 (.tmp 3) rfl P3 0 rfl (codeA l p).cells (HN.out.blk 1 rfl).all _ Tryz.underlying25 rfl HCL.out ?_; rw [HCC.out]) | (refine wpList_store_blk rfl 25 (.tmp 2) (.tmp 17) rfl w.heap.size (codeA l p).cells rfl (by show Value.agg ca = _; rw [HCC.out]) 25 addr0.cells (HN.out.blk 2 rfl) HCL.out (by rw [HAL.out]; rfl) (AddrM.one _) ?_; intro w9 hb9 hg9))
    exact bodyPost_ret (results_obj rfl _ _ w.heap.size 25 (codeA l p).cells _ rfl hb9 Tryz.underlying25 rfl HCL.out) rfl ⟨rfl, HC.out.put hg9 hgl, (HN.out.put 2 rfl _ hg9 hb9).2⟩
  | false =>
    obtain ⟨u1, hu1⟩ : ∃ u, UInt8.ofNat (nextV l (nextP l p 3) 4) = u := ⟨_, rfl⟩
    obtain ⟨u2, hu2⟩ : ∃ u, UInt8.ofNat (nextV l (nextP l (nextP l p 3) 4) 4) = u := ⟨_, rfl⟩
    obtain ⟨u3, hu3⟩ : ∃ u, UInt8.ofNat (nextV l (nextP l (nextP l (nextP l p 3) 4) 4) 256) = u := ⟨_, rfl⟩
    have hF : fourB l (nextP l p 3) = [10, u1, u2, u3] := by rw [fourB, hu1, hu2, hu3]
    have HR := Lib.hid (show (AddrM.mk false (putL (List.replicate 16 0) 0 [10, u1, u2, u3])) = codeA l p ∧ nextP l (nextP l (nextP l (nextP l p 3) 4) 4) 256 = codeAP l p from by rw [codeA, codeAP, HSX.out, ← hF]; exact ⟨rfl, rfl⟩)
    have HPUT := Lib.hid (show setL (.bool false :: (List.replicate 16 (0 : UInt8)).map u8v) 1 (([10, u1, u2, u3] : List UInt8).map u8v) = (AddrM.mk false (putL (List.replicate 16 0) 0 ([10, u1, u2, u3] : List UInt8))).cells from addr_put false [10, u1, u2, u3])
    have hw1 : IntKind.u8.wrap (nextV l (nextP l p 3) 4 : Int) = (u1.toNat : Int) := by rw [← hu1]; exact codeByte_wrap _
    have hw2 : IntKind.u8.wrap (nextV l (nextP l (nextP l p 3) 4) 4 : Int) = (u2.toNat : Int) := by rw [← hu2]; exact codeByte_wrap _
    have hw3 : IntKind.u8.wrap (nextV l (nextP l (nextP l (nextP l p 3) 4) 4) 256 : Int) = (u3.toNat : Int) := by rw [← hu3]; exact codeByte_wrap _
    have HW := Lib.hid (And.intro hw1 (And.intro hw2 hw3))
    clear hw1 hw2 hw3 hu1 hu2 hu3 hF
    go_upto_region 6 with fail
    clear f6
    refine wp_region_held_drew (S := fun _ => True) (by kernel_rfl) (trivial) (fun hHeld => ?_)
    replace HM := Lib.hid HM.out.drew
    replace HC := Lib.hid (HC.out.below ((Below.refl _ _).drew))
    generalize w3.drew = wd1 at HM HC hHeld ⊢
    refine take_first (v := ?_) 0 rfl (by kernel_rfl) (by kernel_rfl) (by kernel_rfl) (fun _ _ _ h => h) (Or.inl ⟨by rfl, ?_⟩) (by assumption) ?_
    rotate_left
    · (intro w hSw; (try dsimp only at hSw); go_simp; try with_reducible rfl)
    (try simp only [Act.put, List.setIfInBounds_toArray, List.set_cons_zero, List.set_cons_succ])
    refine take_first (v := ?_) 1 rfl (by kernel_rfl) (by kernel_rfl) (by kernel_rfl) (fun _ _ _ h => h) (Or.inl ⟨by rfl, ?_⟩) (by assumption) ?_
    rotate_left
    · (intro w hSw; (try dsimp only at hSw); go_simp; try with_reducible rfl)
    (try simp only [Act.put, List.setIfInBounds_toArray, List.set_cons_zero, List.set_cons_succ])
    refine take_first (v := ?_) 2 rfl (by kernel_rfl) (by kernel_rfl) (by kernel_rfl) (fun _ _ _ h => h) (Or.inl ⟨by rfl, ?_⟩) (by assumption) ?_
    rotate_left
    · (intro w hSw; (try dsimp only at hSw); go_simp; try with_reducible rfl)
    (try simp only [Act.put, List.setIfInBounds_toArray, List.set_cons_zero, List.set_cons_succ])
    refine take_first (v := ?_) 5 rfl (by kernel_rfl) (by kernel_rfl) (by kernel_rfl) (fun _ _ _ h => h) (Or.inl ⟨by rfl, ?_⟩) (by assumption) ?_
    rotate_left
    · (intro w hSw; (try dsimp only at hSw); go_simp; try with_reducible rfl)
    (try simp only [Act.put, List.setIfInBounds_toArray, List.set_cons_zero, List.set_cons_succ])
    refine take_first (v := ?_) 8 rfl (by kernel_rfl) (by kernel_rfl) (by kernel_rfl) (fun _ _ _ h => h) (Or.inl ⟨by rfl, ?_⟩) (by assumption) ?_
    rotate_left
    · (intro w hSw; (try dsimp only at hSw); go_simp; try with_reducible rfl)
    (try simp only [Act.put, List.setIfInBounds_toArray, List.set_cons_zero, List.set_cons_succ])
    refine step_one 3 rfl (by kernel_rfl) (fun K hK => ?_)
    clear hHeld
    go_simp
    refine (HC.out.callNext 4 (by omega)).mono ?_
    rintro e wy2 ⟨rfl, hc2, hg2⟩
    replace HM := Lib.hid (show MemG w g [blkE P3 25 (.bool false :: (List.replicate 16 (0 : UInt8)).map u8v), blkE w.heap.size 25 addr0.cells] wy2 from HM.out.next hgl hg2)
    replace HC := Lib.hid hc2
    clear hc2 hg2
    go_wp2_with fail
    refine hK.out _ _ (trivial) (fun hHeld => ?_)
    clear hK K
    (try simp only [Act.put, List.setIfInBounds_toArray, List.set_cons_zero, List.set_cons_succ])
    refine take_first (v := ?_) 4 rfl (by kernel_rfl) (by kernel_rfl) (by kernel_rfl) (fun _ _ _ h => h) (Or.inl ⟨by rfl, ?_⟩) (by assumption) ?_
    rotate_left
    · (intro w hSw; (try dsimp only at hSw); have e1 := HW.out.1; go_simp; try with_reducible rfl)
    (try simp only [Act.put, List.setIfInBounds_toArray, List.set_cons_zero, List.set_cons_succ])
    refine step_one 6 rfl (by kernel_rfl) (fun K hK => ?_)
    clear hHeld
    go_simp
    refine (HC.out.callNext 4 (by omega)).mono ?_
    rintro e wy3 ⟨rfl, hc2, hg2⟩
    replace HM := Lib.hid (show MemG w g [blkE P3 25 (.bool false :: (List.replicate 16 (0 : UInt8)).map u8v), blkE w.heap.size 25 addr0.cells] wy3 from HM.out.next hgl hg2)
    replace HC := Lib.hid hc2
    clear hc2 hg2
    go_wp2_with fail
    refine hK.out _ _ (trivial) (fun hHeld => ?_)
    clear hK K
    (try simp only [Act.put, List.setIfInBounds_toArray, List.set_cons_zero, List.set_cons_succ])
    refine take_first (v := ?_) 7 rfl (by kernel_rfl) (by kernel_rfl) (by kernel_rfl) (fun _ _ _ h => h) (Or.inl ⟨by rfl, ?_⟩) (by assumption) ?_
    rotate_left
    · (intro w hSw; (try dsimp only at hSw); have e1 := HW.out.2.1; go_simp; try with_reducible rfl)
    (try simp only [Act.put, List.setIfInBounds_toArray, List.set_cons_zero, List.set_cons_succ])
    refine step_one 9 rfl (by kernel_rfl) (fun K hK => ?_)
    clear hHeld
    go_simp
    refine (HC.out.callNext 256 (by omega)).mono ?_
    rintro e wy4 ⟨rfl, hc2, hg2⟩
    replace HM := Lib.hid (show MemG w g [blkE P3 25 (.bool false :: (List.replicate 16 (0 : UInt8)).map u8v), blkE w.heap.size 25 addr0.cells] wy4 from HM.out.next hgl hg2)
    replace HC := Lib.hid hc2
    clear hc2 hg2
    go_wp2_with fail
    refine hK.out _ _ (trivial) (fun hHeld => ?_)
    clear hK K
    (try simp only [Act.put, List.setIfInBounds_toArray, List.set_cons_zero, List.set_cons_succ])
    refine take_first (v := ?_) 10 rfl (by kernel_rfl) (by kernel_rfl) (by kernel_rfl) (fun _ _ _ h => h) (Or.inl ⟨by rfl, ?_⟩) (by assumption) ?_
    rotate_left
    · (intro w hSw; (try dsimp only at hSw); have e1 := HW.out.2.2; go_simp; try with_reducible rfl)
    (try simp only [Act.put, List.setIfInBounds_toArray, List.set_cons_zero, List.set_cons_succ])
    refine step_one 11 rfl (by kernel_rfl) (fun K hK => ?_)
    clear hHeld
    go_simp
    replace HM := Lib.hid (show MemG w g [blkE wy4.heap.size 5 (([10, u1, u2, u3] : List UInt8).map u8v), blkE P3 25 (.bool false :: (List.replicate 16 (0 : UInt8)).map u8v), blkE w.heap.size 25 addr0.cells] (wy4.alloc (.cells #[.int .u8 10, .int .u8 (u1.toNat : Int), .int .u8 (u2.toNat : Int), .int .u8 (u3.toNat : Int)] 5)) from HM.out.alloc rfl 5 #[.int .u8 10, .int .u8 (u1.toNat : Int), .int .u8 (u2.toNat : Int), .int .u8 (u3.toNat : Int)] (([10, u1, u2, u3] : List UInt8).map u8v) rfl)
    replace HC := Lib.hid (HC.out.below ((Below.refl _ _).alloc (Nat.le_refl _) (.cells #[.int .u8 10, .int .u8 (u1.toNat : Int), .int .u8 (u2.toNat : Int), .int .u8 (u3.toNat : Int)] 5)))
    generalize wy4.alloc (.cells #[.int .u8 10, .int .u8 (u1.toNat : Int), .int .u8 (u2.toNat : Int), .int .u8 (u3.toNat : Int)] 5) = wy5 at HM HC ⊢
    generalize wy4.heap.size = PB at HM ⊢
    refine hK.out _ _ (trivial) (fun hHeld => ?_)
    clear hK K
    (try simp only [Act.put, List.setIfInBounds_toArray, List.set_cons_zero, List.set_cons_succ])
    refine step_one 12 rfl (by kernel_rfl) (fun K hK => ?_)
    clear hHeld
    refine step_copy_bytes _ rfl (.tmp 19) (.tmp 29) 22 22 (by rfl) 5 Tryz.underlying22 (by kernel_rfl) P3 1 4 16 ⟨PB, 0, none⟩ 4 4 (by rfl) (by rfl) (.bool false :: (List.replicate 16 (0 : UInt8)).map u8v) 25 (HM.out.blk 1 rfl) ((([10, u1, u2, u3] : List UInt8)).map u8v) (by rw [List.length_map, show ([10, u1, u2, u3] : List UInt8).length = 4 from rfl]; rfl) (fun q v hv => by rw [Go.WideShapes.add_plain]; exact (HM.out.blk 0 rfl).all q v hv) (by rw [List.length_map, show ([10, u1, u2, u3] : List UInt8).length = 4 from rfl]; simp) (u8v_one _) ?_
    intro wy6 hb hg
    replace hb : Blk wy6 P3 25 (AddrM.mk false (putL (List.replicate 16 0) 0 ([10, u1, u2, u3] : List UInt8))).cells := by rw [← HPUT.out]; exact hb
    replace HM := Lib.hid (show MemG w g [blkE PB 5 (([10, u1, u2, u3] : List UInt8).map u8v), blkE P3 25 (AddrM.mk false (putL (List.replicate 16 0) 0 ([10, u1, u2, u3] : List UInt8))).cells, blkE w.heap.size 25 addr0.cells] wy6 from HM.out.put 1 rfl _ hg hb)
    replace HC := Lib.hid (HC.out.put hg HPG.out)
    clear hb hg
    refine hK.out _ _ (trivial) (fun hHeld => ?_)
    clear hK K
    (try simp only [Act.put, List.setIfInBounds_toArray, List.set_cons_zero, List.set_cons_succ])
    refine wpAnyH_done (by kernel_rfl) ?_ _
    clear hHeld
    revert wy6
    intro w5 HM HC
    rw [HR.out.1] at HM
    rw [HR.out.2] at HC
    have HCL := Lib.hid (addr_cellsOf _ HAO.out)
    have HAL := Lib.hid (AddrM.cells_length HAO.out)
    obtain ⟨ca, hca⟩ : ∃ x, (codeA l p).cells.toArray = x := ⟨_, rfl⟩
    have HCC := Lib.hid hca
    clear hca
    go_wp2_with (first | (refine wpList_load_obj rfl 25 (.tmp 3) rfl P3 0 rfl (codeA l p).cells (HM.out.blk 1 rfl).all _ Tryz.underlying25 rfl HCL.out ?_; rw [HCC.out]) | (refine wpList_store_blk rfl 25 (.tmp 2) (.tmp 31) rfl w.heap.size (codeA l p).cells rfl (by show Value.agg ca = _; rw [HCC.out]) 25 addr0.cells (HM.out.blk 2 rfl) HCL.out (by rw [HAL.out]; rfl) (AddrM.one _) ?_; intro w9 hb9 hg9))
    exact bodyPost_ret (results_obj rfl _ _ w.heap.size 25 (codeA l p).cells _ rfl hb9 Tryz.underlying25 rfl HCL.out) rfl ⟨rfl, HC.out.put hg9 hgl, (HM.out.put 2 rfl _ hg9 hb9).2⟩
end Go.Proofs.YtkhghmmgegkiiaaGreatDoor
namespace Go.Proofs.YtkhghmmgegkiiaaGreatDoor
open Go.RowKit

/-- a byte without one bit, counted from the highest -/
def clearBit (x : UInt8) (m : Nat) : UInt8 := x &&& ~~~(UInt8.ofNat (128 / 2 ^ m))
theorem clear_all : ∀ m : Fin 8, ∀ n : Fin 256, bits BinOp.andNot IntKind.u8 (n.val : Int) ((128 / 2 ^ m.val : Nat) : Int) = ((clearBit (UInt8.ofNat n.val) m.val).toNat : Int) := by decide +kernel
theorem clear_bits (x : UInt8) (m : Nat) (h : m < 8) : bits BinOp.andNot IntKind.u8 (x.toNat : Int) (128 / 2 ^ m) = ((clearBit x m).toNat : Int) := by
  have h1 := clear_all ⟨m, h⟩ ⟨x.toNat, x.toNat_lt⟩
  simp only [UInt8.ofNat_toNat] at h1
  rw [← h1, Int.natCast_ediv, Int.natCast_pow]
  rfl
/-- the j bits behind b cleared -/
def clearS (ip : List UInt8) (b : Nat) : Nat → List UInt8
  | 0 => ip
  | j + 1 => (clearS ip b j).set ((b + j) / 8) (clearBit ((clearS ip b j).getD ((b + j) / 8) 0) ((b + j) % 8))
theorem clearS_length (ip : List UInt8) (b : Nat) : ∀ j, (clearS ip b j).length = ip.length
  | 0 => rfl
  | j + 1 => by rw [clearS, List.length_set, clearS_length]
def maskM (a : AddrM) (b : Nat) : AddrM := ⟨a.six, clearS a.ip b (128 - b)⟩
theorem maskM_ok (a : AddrM) (h : a.ok) (b : Nat) : (maskM a b).ok := (clearS_length _ _ _).trans h
def pref0 : List Value := prefC addr0 0
theorem prefC_one (a : AddrM) (bits : Int) : ∀ v ∈ prefC a bits, v.oneCell' = true := by
  intro v hv
  rw [prefC, List.mem_append, List.mem_singleton] at hv
  rcases hv with hv | rfl
  · exact a.one v hv
  · rfl
theorem pref_built (a : AddrM) (ha : a.ok) (q : Int) : Tryz.prog.built 29 [(0, .agg a.cells.toArray), (1, .int .i64 q)] = some (prefC a q).toArray := by
  rw [built_of 29 [17, 1] [addr0.cells, [.int .i64 0]] rfl #[(0, 17), (17, 1)] (fun parts => by kernel_rfl) (fun i h => by
    match i, h with
    | 0, _ => rfl
    | 1, _ => rfl) _ (fun p hp => by
    simp only [List.mem_cons, List.not_mem_nil, or_false] at hp
    rcases hp with rfl | rfl
    · simp [Value.cells, AddrM.cells_length ha]
    · rfl)]
  simp [prefC, Value.cells]
set_option maxRecDepth 100000 in
set_option maxHeartbeats 4000000 in
theorem caseMasked_any (a : AddrM) (h : a.ok) (b : Nat) (hb : b ≤ 128) (w : World) :
    Calls Tryz.prog 37 #[.agg a.cells.toArray, .int .i64 (b : Int)] w fun e w' => e = .returned (.agg (prefC (maskM a b) (b : Int)).toArray) ∧ Below w.heap.size w w' := by
  obtain ⟨ca, hca⟩ : ∃ x, a.cells.toArray = x := ⟨_, rfl⟩
  rw [hca]
  have HM := Lib.hid (show Mem w [blkE (w.heap.size + 1) 29 pref0, blkE w.heap.size 25 a.cells] ((w.alloc (.cells ca 25)).alloc (.cells #[.bool false, .int .u8 0, .int .u8 0, .int .u8 0, .int .u8 0, .int .u8 0, .int .u8 0, .int .u8 0, .int .u8 0, .int .u8 0, .int .u8 0, .int .u8 0, .int .u8 0, .int .u8 0, .int .u8 0, .int .u8 0, .int .u8 0, .int .i64 0] 29)) from ((Mem.nil w).alloc rfl 25 ca a.cells hca.symm).alloc (by simp) 29 #[.bool false, .int .u8 0, .int .u8 0, .int .u8 0, .int .u8 0, .int .u8 0, .int .u8 0, .int .u8 0, .int .u8 0, .int .u8 0, .int .u8 0, .int .u8 0, .int .u8 0, .int .u8 0, .int .u8 0, .int .u8 0, .int .u8 0, .int .i64 0] pref0 rfl)
  have HO := Lib.hid h
  clear hca h
  go_enter Tryz.func37, Tryz.ntmps37
  go_upto_region 1 with fail
  generalize ((w.alloc (.cells ca 25)).alloc (.cells #[.bool false, .int .u8 0, .int .u8 0, .int .u8 0, .int .u8 0, .int .u8 0, .int .u8 0, .int .u8 0, .int .u8 0, .int .u8 0, .int .u8 0, .int .u8 0, .int .u8 0, .int .u8 0, .int .u8 0, .int .u8 0, .int .u8 0, .int .i64 0] 29)) = w1 at HM ⊢
  go_wp2_with fail
  go_loopw [5] (fun z wr => ∃ k : Nat, b ≤ k ∧ k ≤ 128 ∧ z = .int .i64 (k : Int) ∧ Mem w [blkE (w.heap.size + 1) 29 pref0, blkE w.heap.size 25 (AddrM.mk a.six (clearS a.ip b (k - b))).cells] wr) (fun z _ => 128 - (intOf z).toNat)
  case atStart => exact ⟨b, by omega, by omega, rfl, by rw [Nat.sub_self]; exact HM.out⟩
  case round =>
    clear HM
    obtain ⟨k, hbk, hk, rfl, hM⟩ := hrel
    have HM := Lib.hid hM
    clear hM
    have hok : (AddrM.mk a.six (clearS a.ip b (k - b))).ok := (clearS_length _ _ _).trans HO.out
    by_cases hlt : k < 128
    · have dl : decide ((k : Int) < 128) = true := by simp; omega
      obtain ⟨j, hj⟩ : ∃ j, k - b = j := ⟨_, rfl⟩
      obtain ⟨q, hq⟩ : ∃ q, k / 8 = q := ⟨_, rfl⟩
      obtain ⟨m, hm⟩ : ∃ q, k % 8 = q := ⟨_, rfl⟩
      have hq16 : q < 16 := by omega
      have hm8 : m < 8 := by omega
      have hn : clearS a.ip b (k + 1 - b) = (clearS a.ip b (k - b)).set q (clearBit ((clearS a.ip b (k - b)).getD q 0) m) := by
        rw [show k + 1 - b = (k - b) + 1 by omega, clearS, show b + (k - b) = k by omega, hq, hm]
      have fx := ((HM.out.blk 1 rfl).cell (1 + q)).trans (AddrM.ip_cell _ hok q hq16)
      have zx := (HM.out.blk 1 rfl).frozen (1 + q)
      have hset := AddrM.set_cell (AddrM.mk a.six (clearS a.ip b (k - b))) q
      generalize (clearS a.ip b (k - b)) = ip at HM hn fx hset hok
      generalize hx : ip.getD q 0 = x at fx hn
      have hcb := clear_bits x m hm8
      generalize clearBit x m = y at hcb hn
      have hqI : (k : Int) / 8 = (q : Int) := by omega
      have hmI : (k : Int) % 8 = (m : Int) := by omega
      have hmin : min m 8 = m := by omega
      have bq : (q : Int) < 16 := by omega
      have HN := Lib.hid (show Mem w [blkE (w.heap.size + 1) 29 pref0, blkE w.heap.size 25 (AddrM.mk a.six (clearS a.ip b (k + 1 - b))).cells] (wr.drew.setCell ⟨w.heap.size, 1 + q, none⟩ (.int .u8 (y.toNat : Int))) from by have h := HM.out.drew.setCell 1 rfl (1 + q) (u8v y); rw [hset, ← hn] at h; exact h)
      clear hset hn hx hok HM
      go_upto_region 4 with fail
      go_region
      go_wp2_with fail
      go_roundw
      case rel => exact ⟨k + 1, by omega, by omega, by go_num, HN.out⟩
      case measure => simp [intOf]; omega
    · obtain rfl : k = 128 := by omega
      have HMO := Lib.hid (maskM_ok a HO.out b)
      have hb2 := pref_built (maskM a b) HMO.out (b : Int)
      obtain ⟨cm, hcm⟩ : ∃ x, (maskM a b).cells.toArray = x := ⟨_, rfl⟩
      obtain ⟨cp, hcp⟩ : ∃ x, (prefC (maskM a b) (b : Int)).toArray = x := ⟨_, rfl⟩
      rw [hcm, hcp] at hb2
      have HB := Lib.hid (And.intro hb2 (And.intro hcm hcp))
      have HM2 := Lib.hid (show Mem w [blkE (w.heap.size + 1) 29 pref0, blkE w.heap.size 25 (maskM a b).cells] wr from HM.out)
      have HLP := Lib.hid (prefC_length (maskM a b) HMO.out (b : Int))
      clear hb2 hcm hcp HM hok
      (try rw [show ((128 : Nat) : Int) = 128 from rfl])
      go_wp2_with (first | (refine wpList_load_obj rfl 25 (.tmp 2) rfl w.heap.size 0 rfl (maskM a b).cells (HM2.out.blk 1 rfl).all _ Tryz.underlying25 rfl (addr_cellsOf _ HMO.out) ?_; rw [HB.out.2.1]) | (refine wpList_build_as rfl 29 [(0, .tmp 22), (1, .tmp 23)] rfl cp ?_ ?_; exact HB.out.1) | (refine wpList_store_blk rfl 29 (.tmp 4) (.tmp 24) rfl (w.heap.size + 1) (prefC (maskM a b) (b : Int)) rfl (by show Value.agg cp = _; rw [HB.out.2.2]) 29 pref0 (HM2.out.blk 0 rfl) (pref_cellsOf _ HMO.out _) (by rw [HLP.out]; rfl) (prefC_one _ _) ?_; intro w9 hb9 hg9))
      exact bodyPost_ret (results_obj rfl _ _ (w.heap.size + 1) 29 (prefC (maskM a b) (b : Int)) _ rfl hb9 Tryz.underlying29 rfl (pref_cellsOf _ HMO.out _)) rfl ⟨rfl, (HM2.out.put 0 rfl _ hg9 hb9).bel⟩
end Go.Proofs.YtkhghmmgegkiiaaGreatDoor
namespace Go.Proofs.YtkhghmmgegkiiaaGreatDoor
open Go.RowKit

def hostB (u v : UInt8) : List UInt8 := [10, u, 0, v, 0, 0, 0, 0, 0, 0, 0, 0, 0, 0, 0, 0]
/-- the address 10.x.0.y -/
def hostM (x y : Nat) : AddrM := ⟨false, hostB (UInt8.ofNat x) (UInt8.ofNat y)⟩
theorem ip_built (u v : UInt8) : Tryz.prog.built 23 [(0, .int .u8 10), (1, .int .u8 (u.toNat : Int)), (2, .int .u8 0), (3, .int .u8 (v.toNat : Int))] = some ((hostB u v).map u8v).toArray := by kernel_rfl
theorem addr_built (l : List UInt8) (h : l.length = 16) : Tryz.prog.built 25 [(1, .agg (l.map u8v).toArray)] = some (AddrM.mk false l).cells.toArray := by
  rw [built_of 25 [1, 16] [[.bool false], (List.replicate 16 (0 : UInt8)).map u8v] rfl #[(0, 1), (1, 16)] (fun parts => by kernel_rfl) (fun i h => by
    match i, h with
    | 0, _ => rfl
    | 1, _ => rfl) _ (fun p hp => by
    simp only [List.mem_cons, List.not_mem_nil, or_false] at hp
    subst hp
    simp [Value.cells, h])]
  simp [AddrM.cells, Value.cells]
set_option maxRecDepth 100000 in
set_option maxHeartbeats 2000000 in
theorem caseHost_any (x y : Nat) (w : World) :
    Calls Tryz.prog 51 #[.int .i64 (x : Int), .int .i64 (y : Int)] w fun e w' => e = .returned (.agg (hostM x y).cells.toArray) ∧ Below w.heap.size w w' := by
  rw [hostM]
  have hw1 := codeByte_wrap x
  have hw2 := codeByte_wrap y
  generalize UInt8.ofNat x = u at hw1 ⊢
  generalize UInt8.ofNat y = v at hw2 ⊢
  have hb1 := ip_built u v
  have hb2 := addr_built (hostB u v) rfl
  have hok : (AddrM.mk false (hostB u v)).ok := rfl
  generalize hl : hostB u v = l at hb1 hb2 hok ⊢
  clear hl
  obtain ⟨ci, hci⟩ : ∃ c, (l.map u8v).toArray = c := ⟨_, rfl⟩
  obtain ⟨ca, hca⟩ : ∃ c, (AddrM.mk false l).cells.toArray = c := ⟨_, rfl⟩
  rw [hci] at hb1 hb2
  rw [hca] at hb2 ⊢
  have HB := Lib.hid (And.intro hb1 (And.intro hb2 hca))
  have HO := Lib.hid hok
  have HAL := Lib.hid (AddrM.cells_length HO.out)
  have HCO := Lib.hid (addr_cellsOf _ HO.out)
  clear hb1 hb2 hci hca hok
  have HM := Lib.hid (show Mem w [blkE w.heap.size 25 addr0.cells] (w.alloc (.cells #[.bool false, .int .u8 0, .int .u8 0, .int .u8 0, .int .u8 0, .int .u8 0, .int .u8 0, .int .u8 0, .int .u8 0, .int .u8 0, .int .u8 0, .int .u8 0, .int .u8 0, .int .u8 0, .int .u8 0, .int .u8 0, .int .u8 0] 25)) from (Mem.nil w).alloc rfl 25 #[.bool false, .int .u8 0, .int .u8 0, .int .u8 0, .int .u8 0, .int .u8 0, .int .u8 0, .int .u8 0, .int .u8 0, .int .u8 0, .int .u8 0, .int .u8 0, .int .u8 0, .int .u8 0, .int .u8 0, .int .u8 0, .int .u8 0] addr0.cells rfl)
  go_enter Tryz.func51, Tryz.ntmps51
  go_upto_region 1 with fail
  generalize w.alloc (.cells #[.bool false, .int .u8 0, .int .u8 0, .int .u8 0, .int .u8 0, .int .u8 0, .int .u8 0, .int .u8 0, .int .u8 0, .int .u8 0, .int .u8 0, .int .u8 0, .int .u8 0, .int .u8 0, .int .u8 0, .int .u8 0, .int .u8 0] 25) = w1 at HM ⊢
  go_wp2_with (first | (refine wpList_build_as rfl 23 [(0, .const (.int .u8 10)), (1, .tmp 6), (2, .const (.int .u8 0)), (3, .tmp 8)] rfl ci ?_ ?_; exact HB.out.1) | (refine wpList_build_as rfl 25 [(1, .tmp 9)] rfl ca ?_ ?_; exact HB.out.2.1) | (refine wpList_store_blk rfl 25 (.tmp 4) (.tmp 10) rfl w.heap.size (AddrM.mk false l).cells rfl (by show Value.agg ca = _; rw [HB.out.2.2]) 25 addr0.cells (HM.out.blk 0 rfl) HCO.out (by rw [HAL.out]; rfl) (AddrM.one _) ?_; intro w9 hb9 hg9))
  exact bodyPost_ret (results_obj rfl _ _ w.heap.size 25 (AddrM.mk false l).cells _ rfl hb9 Tryz.underlying25 rfl HCO.out) rfl ⟨by rw [HB.out.2.2], (HM.out.put 0 rfl _ hg9 hb9).bel⟩
end Go.Proofs.YtkhghmmgegkiiaaGreatDoor
namespace Go.Proofs.YtkhghmmgegkiiaaGreatDoor
open Go.RowKit

/-- the bits of a prefix of choices, and the choices taken behind it -/
def codePn (l : List UInt8) (p : Nat) : Nat := if sixV l p then 129 else 33
def codePb (l : List UInt8) (p : Nat) : Nat := nextV l (codeAP l p) (codePn l p)
def codePP (l : List UInt8) (p : Nat) : Nat := nextP l (codeAP l p) (codePn l p)
theorem codePb_le (l : List UInt8) (p : Nat) : codePb l p ≤ 128 := by
  have h := nextV_lt l (codeAP l p) (codePn l p) (by unfold codePn; split <;> omega)
  have h2 : codePn l p ≤ 129 := by unfold codePn; split <;> omega
  unfold codePb
  omega
def codeM (l : List UInt8) (p : Nat) : AddrM := maskM (codeA l p) (codePb l p)
theorem codeM_ok (l : List UInt8) (p : Nat) : (codeM l p).ok := maskM_ok _ (codeA_ok l p) _
set_option maxRecDepth 100000 in
set_option maxHeartbeats 4000000 in
theorem casePrefix_any (g : Nat) (A : Option Addr) (n c : Nat) (l : List UInt8) (B : Nat) (p : Nat) (w : World) (hc : CodesAt w g A n c l B p) :
    Calls Tryz.prog 11 #[.pointer (some ⟨g, 0, none⟩)] w fun e w' => e = .returned (.agg (prefC (codeM l p) (codePb l p : Int)).toArray) ∧ CodesAt w' g A n c l B (codePP l p) ∧ w.grownBy w' (some g) := by
  rw [codeM]
  obtain ⟨v, hv⟩ : ∃ v, codePb l p = v := ⟨_, rfl⟩
  have hv128 : v ≤ 128 := hv ▸ codePb_le l p
  rw [hv]
  obtain ⟨ca, hca⟩ : ∃ x, (codeA l p).cells.toArray = x := ⟨_, rfl⟩
  obtain ⟨cp, hcp⟩ : ∃ x, (prefC (maskM (codeA l p) v) (v : Int)).toArray = x := ⟨_, rfl⟩
  have HK := Lib.hid (caseMasked_any (codeA l p) (codeA_ok l p) v hv128)
  have HAC := Lib.hid (caseAddr_any g A n c l B p)
  rw [hca, hcp] at HK
  rw [hca] at HAC
  rw [hcp]
  have HB := Lib.hid (And.intro hca hcp)
  have HV := Lib.hid hv
  have HO := Lib.hid (codeA_ok l p)
  have HMO := Lib.hid (maskM_ok _ HO.out v)
  have HLP := Lib.hid (prefC_length (maskM (codeA l p) v) HMO.out (v : Int))
  have HAL := Lib.hid (AddrM.cells_length HO.out)
  have HCO := Lib.hid (addr_cellsOf _ HO.out)
  clear hca hcp hv
  have hgl := hc.lt
  have HM := Lib.hid (show MemG w g [blkE w.heap.size 29 pref0] (w.alloc (.cells #[.bool false, .int .u8 0, .int .u8 0, .int .u8 0, .int .u8 0, .int .u8 0, .int .u8 0, .int .u8 0, .int .u8 0, .int .u8 0, .int .u8 0, .int .u8 0, .int .u8 0, .int .u8 0, .int .u8 0, .int .u8 0, .int .u8 0, .int .i64 0] 29)) from (MemG.nil w g).alloc rfl 29 #[.bool false, .int .u8 0, .int .u8 0, .int .u8 0, .int .u8 0, .int .u8 0, .int .u8 0, .int .u8 0, .int .u8 0, .int .u8 0, .int .u8 0, .int .u8 0, .int .u8 0, .int .u8 0, .int .u8 0, .int .u8 0, .int .u8 0, .int .i64 0] pref0 rfl)
  have HC := Lib.hid (hc.below ((Below.refl _ _).alloc (Nat.le_refl _) (.cells #[.bool false, .int .u8 0, .int .u8 0, .int .u8 0, .int .u8 0, .int .u8 0, .int .u8 0, .int .u8 0, .int .u8 0, .int .u8 0, .int .u8 0, .int .u8 0, .int .u8 0, .int .u8 0, .int .u8 0, .int .u8 0, .int .u8 0, .int .i64 0] 29)))
  clear hc
  go_enter Tryz.func11, Tryz.ntmps11
  go_upto_region 1 with fail
  generalize w.alloc (.cells #[.bool false, .int .u8 0, .int .u8 0, .int .u8 0, .int .u8 0, .int .u8 0, .int .u8 0, .int .u8 0, .int .u8 0, .int .u8 0, .int .u8 0, .int .u8 0, .int .u8 0, .int .u8 0, .int .u8 0, .int .u8 0, .int .u8 0, .int .i64 0] 29) = w1 at HM HC ⊢
  go_wp2_with fail
  refine (HAC.out w1 HC.out).mono ?_
  rintro e w2 ⟨rfl, hc2, hg2⟩
  replace HM := Lib.hid (HM.out.next hgl hg2)
  replace HC := Lib.hid hc2
  clear hc2 hg2
  have HA := Lib.hid (show MemG w g [blkE w2.heap.size 25 addr0.cells, blkE w.heap.size 29 pref0] (w2.alloc (.cells #[.bool false, .int .u8 0, .int .u8 0, .int .u8 0, .int .u8 0, .int .u8 0, .int .u8 0, .int .u8 0, .int .u8 0, .int .u8 0, .int .u8 0, .int .u8 0, .int .u8 0, .int .u8 0, .int .u8 0, .int .u8 0, .int .u8 0] 25)) from HM.out.alloc rfl 25 #[.bool false, .int .u8 0, .int .u8 0, .int .u8 0, .int .u8 0, .int .u8 0, .int .u8 0, .int .u8 0, .int .u8 0, .int .u8 0, .int .u8 0, .int .u8 0, .int .u8 0, .int .u8 0, .int .u8 0, .int .u8 0, .int .u8 0] addr0.cells rfl)
  have HC3 := Lib.hid (HC.out.below ((Below.refl _ _).alloc (Nat.le_refl _) (.cells #[.bool false, .int .u8 0, .int .u8 0, .int .u8 0, .int .u8 0, .int .u8 0, .int .u8 0, .int .u8 0, .int .u8 0, .int .u8 0, .int .u8 0, .int .u8 0, .int .u8 0, .int .u8 0, .int .u8 0, .int .u8 0, .int .u8 0] 25)))
  have hP3 := HC.out.lt
  go_upto_region 2 with (refine wpList_store_blk rfl 25 (.tmp 3) (.tmp 6) rfl w2.heap.size (codeA l p).cells rfl (by show Value.agg ca = _; rw [HB.out.1]) 25 addr0.cells (HA.out.blk 0 rfl) HCO.out (by rw [HAL.out]; rfl) (AddrM.one _) ?_; intro w4 hb hg)
  (try simp only [Act.put])
  replace HM := Lib.hid (show MemG w g [blkE w2.heap.size 25 (codeA l p).cells, blkE w.heap.size 29 pref0] w4 from HA.out.put 0 rfl _ hg hb)
  replace HC := Lib.hid (HC3.out.put hg hP3)
  clear HA HC3 hb hg hP3 HAC
  generalize w2.heap.size = P3 at HM ⊢
  have f6 := (HM.out.blk 0 rfl).cell 0
  rw [show (codeA l p).cells[0]? = some (.bool (sixV l p)) from rfl] at f6
  obtain ⟨sx, hsx⟩ : ∃ q, sixV l p = q := ⟨_, rfl⟩
  rw [hsx] at f6
  have HSX := Lib.hid hsx
  clear hsx
  cases sx with
  | true =>
    have HQ := Lib.hid (show nextV l (codeAP l p) 129 = v ∧ nextP l (codeAP l p) 129 = codePP l p from by rw [← HV.out, codePb, codePP, codePn, HSX.out]; exact ⟨rfl, rfl⟩)
    go_upto_region 5 with fail
    refine wp_region_held_drew (S := fun W' => Blk W' P3 25 (codeA l p).cells) (by kernel_rfl) (((HM.out.drew).blk 0 rfl)) (fun hHeld => ?_)
    replace HM := Lib.hid HM.out.drew
    replace HC := Lib.hid (HC.out.below ((Below.refl _ _).drew))
    generalize w4.drew = wd1 at HM HC hHeld ⊢
    refine take_first (v := .agg ca) 0 rfl (by kernel_rfl) (by kernel_rfl) (by kernel_rfl) (fun _ _ _ h => h) (by rw [← HB.out.1]; exact yields_load_obj (by rfl) 25 (.tmp 3) rfl P3 0 rfl (codeA l p).cells (fun w' hb => hb.all) _ Tryz.underlying25 rfl HCO.out) (by assumption) ?_
    (try simp only [Act.put, List.setIfInBounds_toArray, List.set_cons_zero, List.set_cons_succ])
    refine take_first (v := ?_) 1 rfl (by kernel_rfl) (by kernel_rfl) (by kernel_rfl) (fun _ _ _ h => h) (Or.inl ⟨by rfl, ?_⟩) (by assumption) ?_
    rotate_left
    · (intro w hSw; (try dsimp only at hSw); go_simp; try with_reducible rfl)
    (try simp only [Act.put, List.setIfInBounds_toArray, List.set_cons_zero, List.set_cons_succ])
    refine take_first (v := ?_) 2 rfl (by kernel_rfl) (by kernel_rfl) (by kernel_rfl) (fun _ _ _ h => h) (Or.inl ⟨by rfl, ?_⟩) (by assumption) ?_
    rotate_left
    · (intro w hSw; (try dsimp only at hSw); go_simp; try with_reducible rfl)
    (try simp only [Act.put, List.setIfInBounds_toArray, List.set_cons_zero, List.set_cons_succ])
    refine step_one 3 rfl (by kernel_rfl) (fun K hK => ?_)
    clear hHeld
    go_simp
    refine (HC.out.callNext 129 (by omega)).mono ?_
    rintro e wy2 ⟨rfl, hc2, hg2⟩
    replace HM := Lib.hid (show MemG w g [blkE P3 25 (codeA l p).cells, blkE w.heap.size 29 pref0] wy2 from HM.out.next hgl hg2)
    replace HC := Lib.hid hc2
    clear hc2 hg2
    rw [HQ.out.2] at HC
    rw [HQ.out.1]
    go_wp2_with fail
    refine hK.out _ _ ((HM.out.blk 0 rfl)) (fun hHeld => ?_)
    clear hK K
    (try simp only [Act.put, List.setIfInBounds_toArray, List.set_cons_zero, List.set_cons_succ])
    refine step_one 4 rfl (by kernel_rfl) (fun K hK => ?_)
    clear hHeld
    go_simp
    refine (HK.out _).mono ?_
    rintro e wy3 ⟨rfl, hb⟩
    replace HM := Lib.hid (show MemG w g [blkE P3 25 (codeA l p).cells, blkE w.heap.size 29 pref0] wy3 from HM.out.below hb)
    replace HC := Lib.hid (HC.out.below hb)
    clear hb
    go_wp2_with fail
    refine hK.out _ _ ((HM.out.blk 0 rfl)) (fun hHeld => ?_)
    clear hK K
    (try simp only [Act.put, List.setIfInBounds_toArray, List.set_cons_zero, List.set_cons_succ])
    refine step_one 5 rfl (by kernel_rfl) (fun K hK => ?_)
    clear hHeld
    refine step_store_blk _ rfl 29 (.tmp 2) (.tmp 13) rfl w.heap.size (prefC (maskM (codeA l p) v) (v : Int)) rfl (by show Value.agg cp = _; rw [HB.out.2]) 29 pref0 (HM.out.blk 1 rfl) (pref_cellsOf _ HMO.out _) (by rw [HLP.out]; rfl) (prefC_one _ _) ?_
    intro wy4 hb hg
    replace HM := Lib.hid (show MemG w g [blkE P3 25 (codeA l p).cells, blkE w.heap.size 29 (prefC (maskM (codeA l p) v) (v : Int))] wy4 from HM.out.put 1 rfl _ hg hb)
    replace HC := Lib.hid (HC.out.put hg hgl)
    clear hb hg
    refine hK.out _ _ ((HM.out.blk 0 rfl)) (fun hHeld => ?_)
    clear hK K
    (try simp only [Act.put])
    refine wpAnyH_done (by kernel_rfl) ?_ _
    clear hHeld
    revert wy4
    intro w9 HM HC
    go_wp2_with fail
    have hb9 := HM.out.blk 1 rfl
    exact bodyPost_ret (results_obj rfl _ _ w.heap.size 29 (prefC (maskM (codeA l p) v) (v : Int)) _ rfl hb9 Tryz.underlying29 rfl (pref_cellsOf _ HMO.out _)) rfl ⟨by rw [HB.out.2], HC.out, HM.out.2⟩
  | false =>
    have HQ := Lib.hid (show nextV l (codeAP l p) 33 = v ∧ nextP l (codeAP l p) 33 = codePP l p from by rw [← HV.out, codePb, codePP, codePn, HSX.out]; exact ⟨rfl, rfl⟩)
    go_upto_region 5 with fail
    refine wp_region_held_drew (S := fun W' => Blk W' P3 25 (codeA l p).cells) (by kernel_rfl) (((HM.out.drew).blk 0 rfl)) (fun hHeld => ?_)
    replace HM := Lib.hid HM.out.drew
    replace HC := Lib.hid (HC.out.below ((Below.refl _ _).drew))
    generalize w4.drew = wd1 at HM HC hHeld ⊢
    refine take_first (v := .agg ca) 0 rfl (by kernel_rfl) (by kernel_rfl) (by kernel_rfl) (fun _ _ _ h => h) (by rw [← HB.out.1]; exact yields_load_obj (by rfl) 25 (.tmp 3) rfl P3 0 rfl (codeA l p).cells (fun w' hb => hb.all) _ Tryz.underlying25 rfl HCO.out) (by assumption) ?_
    (try simp only [Act.put, List.setIfInBounds_toArray, List.set_cons_zero, List.set_cons_succ])
    refine take_first (v := ?_) 1 rfl (by kernel_rfl) (by kernel_rfl) (by kernel_rfl) (fun _ _ _ h => h) (Or.inl ⟨by rfl, ?_⟩) (by assumption) ?_
    rotate_left
    · (intro w hSw; (try dsimp only at hSw); go_simp; try with_reducible rfl)
    (try simp only [Act.put, List.setIfInBounds_toArray, List.set_cons_zero, List.set_cons_succ])
    refine take_first (v := ?_) 2 rfl (by kernel_rfl) (by kernel_rfl) (by kernel_rfl) (fun _ _ _ h => h) (Or.inl ⟨by rfl, ?_⟩) (by assumption) ?_
    rotate_left
    · (intro w hSw; (try dsimp only at hSw); go_simp; try with_reducible rfl)
    (try simp only [Act.put, List.setIfInBounds_toArray, List.set_cons_zero, List.set_cons_succ])
    refine step_one 3 rfl (by kernel_rfl) (fun K hK => ?_)
    clear hHeld
    go_simp
    refine (HC.out.callNext 33 (by omega)).mono ?_
    rintro e wy2 ⟨rfl, hc2, hg2⟩
    replace HM := Lib.hid (show MemG w g [blkE P3 25 (codeA l p).cells, blkE w.heap.size 29 pref0] wy2 from HM.out.next hgl hg2)
    replace HC := Lib.hid hc2
    clear hc2 hg2
    rw [HQ.out.2] at HC
    rw [HQ.out.1]
    go_wp2_with fail
    refine hK.out _ _ ((HM.out.blk 0 rfl)) (fun hHeld => ?_)
    clear hK K
    (try simp only [Act.put, List.setIfInBounds_toArray, List.set_cons_zero, List.set_cons_succ])
    refine step_one 4 rfl (by kernel_rfl) (fun K hK => ?_)
    clear hHeld
    go_simp
    refine (HK.out _).mono ?_
    rintro e wy3 ⟨rfl, hb⟩
    replace HM := Lib.hid (show MemG w g [blkE P3 25 (codeA l p).cells, blkE w.heap.size 29 pref0] wy3 from HM.out.below hb)
    replace HC := Lib.hid (HC.out.below hb)
    clear hb
    go_wp2_with fail
    refine hK.out _ _ ((HM.out.blk 0 rfl)) (fun hHeld => ?_)
    clear hK K
    (try simp only [Act.put, List.setIfInBounds_toArray, List.set_cons_zero, List.set_cons_succ])
    refine step_one 5 rfl (by kernel_rfl) (fun K hK => ?_)
    clear hHeld
    refine step_store_blk _ rfl 29 (.tmp 2) (.tmp 13) rfl w.heap.size (prefC (maskM (codeA l p) v) (v : Int)) rfl (by show Value.agg cp = _; rw [HB.out.2]) 29 pref0 (HM.out.blk 1 rfl) (pref_cellsOf _ HMO.out _) (by rw [HLP.out]; rfl) (prefC_one _ _) ?_
    intro wy4 hb hg
    replace HM := Lib.hid (show MemG w g [blkE P3 25 (codeA l p).cells, blkE w.heap.size 29 (prefC (maskM (codeA l p) v) (v : Int))] wy4 from HM.out.put 1 rfl _ hg hb)
    replace HC := Lib.hid (HC.out.put hg hgl)
    clear hb hg
    refine hK.out _ _ ((HM.out.blk 0 rfl)) (fun hHeld => ?_)
    clear hK K
    (try simp only [Act.put])
    refine wpAnyH_done (by kernel_rfl) ?_ _
    clear hHeld
    revert wy4
    intro w9 HM HC
    go_wp2_with fail
    have hb9 := HM.out.blk 1 rfl
    exact bodyPost_ret (results_obj rfl _ _ w.heap.size 29 (prefC (maskM (codeA l p) v) (v : Int)) _ rfl hb9 Tryz.underlying29 rfl (pref_cellsOf _ HMO.out _)) rfl ⟨by rw [HB.out.2], HC.out, HM.out.2⟩
end Go.Proofs.YtkhghmmgegkiiaaGreatDoor
namespace Go.Proofs.YtkhghmmgegkiiaaGreatDoor
open Go.RowKit

theorem begun_parse : prefP [49, 48, 46, 48, 46, 48, 46, 49, 47, 56] = ((addr0, 0), 5) := by kernel_rfl
theorem begun_format : prefT (maskM (hostM 0 0) 8) (8 : Int) = [49, 48, 46, 48, 46, 48, 46, 48, 47, 56] := by
  have hv : validM (maskM (hostM 0 0) 8) (8 : Int) = true := by decide +kernel
  have hs : soundM (maskM (hostM 0 0) 8) = true := by decide +kernel
  have h6 : (maskM (hostM 0 0) 8).six = false := rfl
  have e : ((List.range 4).map fun i => decT ((maskM (hostM 0 0) 8).ip.getD i 0).toNat) = [decT 10, decT 0, decT 0, decT 0] := by
    have h0 : ((maskM (hostM 0 0) 8).ip.getD 0 0).toNat = 10 := by decide +kernel
    have h1 : ((maskM (hostM 0 0) 8).ip.getD 1 0).toNat = 0 := by decide +kernel
    have h2 : ((maskM (hostM 0 0) 8).ip.getD 2 0).toNat = 0 := by decide +kernel
    have h3 : ((maskM (hostM 0 0) 8).ip.getD 3 0).toNat = 0 := by decide +kernel
    rw [range4]
    simp only [List.map_cons, List.map_nil, h0, h1, h2, h3]
  rw [prefT, if_neg (by rw [hv]; decide), addrT, if_neg (by rw [hs]; decide), if_neg (by rw [h6]; decide), e, show (8 : Int).toNat = 8 from rfl, show decT 10 = [49, 48] from by rw [decT_big (by omega), decT_small (by omega)]; rfl, show decT 0 = [48] from by rw [decT_small (by omega)]; rfl, show decT 8 = [56] from by rw [decT_small (by omega)]; rfl]
  rfl
set_option maxRecDepth 100000 in
set_option maxHeartbeats 4000000 in
theorem cf_begun_any (HFP : CfFmtPrefC 19) (HPP : CfParsePrefC 23) (w : World) (hlv : LvCf w) : Calls Tryz.prog 20 #[] w fun e w' => e = .returned (.bool true) ∧ Below w.heap.size w w' := by
  have HLV := Lib.hid hlv
  have hok0 : (hostM 0 0).ok := rfl
  have hok : (maskM (hostM 0 0) 8).ok := maskM_ok _ hok0 8
  have HH := Lib.hid (fun W : World => (show Calls Tryz.prog 51 #[.int .i64 0, .int .i64 0] W (fun e w' => e = .returned (.agg (hostM 0 0).cells.toArray) ∧ Below W.heap.size W w') from caseHost_any 0 0 W))
  have HK := Lib.hid (fun W : World => (show Calls Tryz.prog 37 #[.agg (hostM 0 0).cells.toArray, .int .i64 8] W (fun e w' => e = .returned (.agg (prefC (maskM (hostM 0 0) 8) (8 : Int)).toArray) ∧ Below W.heap.size W w') from caseMasked_any (hostM 0 0) hok0 8 (by omega) W))
  have HP := Lib.hid (fun (W : World) (hW : LvCf W) => (show Calls Tryz.prog 23 #[.string ⟨#[49, 48, 46, 48, 46, 48, 46, 49, 47, 56]⟩] W (fun e w' => e = .returned (.tuple #[.agg (prefC addr0 0).toArray, .int .i64 5]) ∧ Below W.heap.size W w') from by
    have h := HPP [49, 48, 46, 48, 46, 48, 46, 49, 47, 56] (by decide) W hW
    rw [begun_parse] at h
    exact h))
  have HF := Lib.hid (fun (W : World) (hW : LvCf W) => (show Calls Tryz.prog 19 #[.agg (prefC (maskM (hostM 0 0) 8) (8 : Int)).toArray] W (fun e w' => e = .returned (.string ⟨#[49, 48, 46, 48, 46, 48, 46, 48, 47, 56]⟩) ∧ Below W.heap.size W w') from by
    have h := HFP (maskM (hostM 0 0) 8) hok 8 (by omega) (by omega) W hW
    rw [begun_format] at h
    exact h))
  have HUP := Lib.hid (pref_cellsOf (maskM (hostM 0 0) 8) hok (8 : Int))
  have HU0 := Lib.hid (pref_cellsOf addr0 addr0_ok 0)
  have HZP := Lib.hid (show (prefC addr0 0).length = (prefC (maskM (hostM 0 0) 8) (8 : Int)).length from (prefC_length addr0 addr0_ok 0).trans (prefC_length _ hok _).symm)
  obtain ⟨ch, hch⟩ : ∃ z, (hostM 0 0).cells.toArray = z := ⟨_, rfl⟩
  obtain ⟨cm, hcm⟩ : ∃ z, (prefC (maskM (hostM 0 0) 8) (8 : Int)).toArray = z := ⟨_, rfl⟩
  obtain ⟨c0, hc0⟩ : ∃ z, (prefC addr0 0).toArray = z := ⟨_, rfl⟩
  rw [hch] at HH HK
  rw [hcm] at HK HF
  rw [hc0] at HP
  have HCM := Lib.hid hcm
  have HC0 := Lib.hid hc0
  have HM := Lib.hid (Mem.nil w)
  clear hch hcm hc0 hok0 hlv
  generalize maskM (hostM 0 0) 8 = mm at HCM HUP HZP
  go_enter Tryz.func20, Tryz.ntmps20
  go_wp2_with fail
  refine (HH.out _).mono ?_
  rintro e w1 ⟨rfl, hb⟩
  replace HM := Lib.hid (HM.out.below hb)
  clear hb HH
  go_wp2_with fail
  refine (HK.out _).mono ?_
  rintro e w2 ⟨rfl, hb⟩
  replace HM := Lib.hid (HM.out.below hb)
  have HMZ := Lib.hid (show Mem w [blkE w2.heap.size 29 (prefC addr0 0)] (w2.alloc (.cells #[.bool false, .int .u8 0, .int .u8 0, .int .u8 0, .int .u8 0, .int .u8 0, .int .u8 0, .int .u8 0, .int .u8 0, .int .u8 0, .int .u8 0, .int .u8 0, .int .u8 0, .int .u8 0, .int .u8 0, .int .u8 0, .int .u8 0, .int .i64 0] 29)) from HM.out.alloc rfl 29 #[.bool false, .int .u8 0, .int .u8 0, .int .u8 0, .int .u8 0, .int .u8 0, .int .u8 0, .int .u8 0, .int .u8 0, .int .u8 0, .int .u8 0, .int .u8 0, .int .u8 0, .int .u8 0, .int .u8 0, .int .u8 0, .int .u8 0, .int .i64 0] (prefC addr0 0) rfl)
  clear hb HK HM
  go_upto_region 2 with (refine wpList_store_blk rfl 29 (.tmp 1) (.tmp 5) rfl w2.heap.size (prefC mm (8 : Int)) rfl (by show Value.agg cm = _; rw [HCM.out]) 29 (prefC addr0 0) (HMZ.out.blk 0 rfl) HUP.out HZP.out (prefC_one _ _) ?_; intro w3 hb3 hg3)
  (try simp only [Act.put])
  have hm3 := HMZ.out.put 0 rfl _ hg3 hb3
  clear hb3 hg3 HMZ
  generalize w2.heap.size = g1 at hm3 ⊢
  have HM := Lib.hid (show Mem w [blkE g1 29 (prefC mm (8 : Int))] w3 from hm3)
  clear hm3
  go_wp2_with fail
  refine (HP.out _ (HLV.out.below HM.out.bel)).mono ?_
  rintro e w4 ⟨rfl, hb⟩
  replace HM := Lib.hid (show Mem w [blkE g1 29 (prefC mm (8 : Int))] w4 from HM.out.below hb)
  have HMZ := Lib.hid (show Mem w [blkE w4.heap.size 29 (prefC addr0 0), blkE g1 29 (prefC mm (8 : Int))] (w4.alloc (.cells #[.bool false, .int .u8 0, .int .u8 0, .int .u8 0, .int .u8 0, .int .u8 0, .int .u8 0, .int .u8 0, .int .u8 0, .int .u8 0, .int .u8 0, .int .u8 0, .int .u8 0, .int .u8 0, .int .u8 0, .int .u8 0, .int .u8 0, .int .i64 0] 29)) from HM.out.alloc rfl 29 #[.bool false, .int .u8 0, .int .u8 0, .int .u8 0, .int .u8 0, .int .u8 0, .int .u8 0, .int .u8 0, .int .u8 0, .int .u8 0, .int .u8 0, .int .u8 0, .int .u8 0, .int .u8 0, .int .u8 0, .int .u8 0, .int .u8 0, .int .i64 0] (prefC addr0 0) rfl)
  clear hb HP HM
  go_upto_region 3 with (refine wpList_store_blk rfl 29 (.tmp 2) (.tmp 8) rfl w4.heap.size (prefC addr0 0) rfl (by show Value.agg c0 = _; rw [HC0.out]) 29 (prefC addr0 0) (HMZ.out.blk 0 rfl) HU0.out rfl (prefC_one _ _) ?_; intro w5 hb5 hg5)
  (try simp only [Act.put])
  have hm5 := HMZ.out.put 0 rfl _ hg5 hb5
  clear hb5 hg5 HMZ
  generalize w4.heap.size = g2 at hm5 ⊢
  have HM := Lib.hid (show Mem w [blkE g2 29 (prefC addr0 0), blkE g1 29 (prefC mm (8 : Int))] w5 from hm5)
  clear hm5
  go_wp2_with (refine wpList_load_obj rfl 29 (.tmp 1) rfl g1 0 rfl (prefC mm (8 : Int)) (HM.out.blk 1 rfl).all _ Tryz.underlying29 rfl HUP.out ?_)
  rw [HCM.out]
  refine (HF.out _ (HLV.out.below HM.out.bel)).mono ?_
  rintro e w6 ⟨rfl, hb⟩
  have HB := Lib.hid (HM.out.below hb).bel
  clear hb HF HM
  go_wp2
  go_ret
  exact ⟨rfl, HB.out⟩
end Go.Proofs.YtkhghmmgegkiiaaGreatDoor
namespace Go.Proofs.YtkhghmmgegkiiaaGreatDoor
open Go.RowKit

/-- parts, each behind a byte -/
def dotT (c : UInt8) (f : Nat → List UInt8) (n : Nat) : List UInt8 := (List.range n).flatMap fun k => c :: f k
theorem dot_succ (c : UInt8) (f : Nat → List UInt8) (n : Nat) : dotT c f (n + 1) = dotT c f n ++ ([c] ++ f n) := by
  simp [dotT, List.range_succ, List.flatMap_append]
theorem dot_len (c : UInt8) (f : Nat → List UInt8) (k : Nat) (hf : ∀ i, (f i).length ≤ k) (n : Nat) : (dotT c f n).length ≤ (k + 1) * n := by
  induction n with
  | zero => simp [dotT]
  | succ n ih =>
    rw [dot_succ, List.length_append, List.length_append, Nat.mul_succ]
    have := hf n
    simp only [List.length_cons, List.length_nil]
    omega
theorem dot_four (c : UInt8) (f : Nat → List UInt8) : (dotT c f 4).drop 1 = joinT c ((List.range 4).map f) := by
  simp [dotT, range4, joinT]
theorem dot_eight (c : UInt8) (f : Nat → List UInt8) : (dotT c f 8).drop 1 = joinT c ((List.range 8).map f) := by
  simp [dotT, range8, joinT]
theorem text_drop (l : List UInt8) (k : Nat) (n : Nat) (hn : l.length = n) : (ByteArray.mk l.toArray).extract k n = ⟨(l.drop k).toArray⟩ := by
  apply Go.WideShapes.bytes_inj
  rw [Lib.extract_data]
  show (l.drop k).take (n - k) = l.drop k
  exact List.take_of_length_le (by rw [List.length_drop, hn]; exact Nat.le_refl _)
theorem text_size (l : List UInt8) : (ByteArray.mk l.toArray).size = l.length := by simp [ByteArray.size]
theorem addrT_len (a : AddrM) : (addrT a).length ≤ 39 := by
  rw [addrT]
  split
  · simp
  · split
    · have h := dot_len 58 (fun k => hexT (groupV a k)) 4 (fun i => hexT_len _ 4 (by omega) (by have := group_lt a i; omega)) 8
      have h2 := dot_eight 58 (fun k => hexT (groupV a k))
      rw [← h2, List.length_drop]
      omega
    · have h := dot_len 46 (fun k => decT (a.ip.getD k 0).toNat) 3 (fun i => decT_len _ 3 (by omega) (by have := (a.ip.getD i 0).toNat_lt; omega)) 4
      have h2 := dot_four 46 (fun k => decT (a.ip.getD k 0).toNat)
      rw [← h2, List.length_drop]
      omega
end Go.Proofs.YtkhghmmgegkiiaaGreatDoor
namespace Go.Proofs.YtkhghmmgegkiiaaGreatDoor
open Go.RowKit

end Go.Proofs.YtkhghmmgegkiiaaGreatDoor
namespace Go.Proofs.YtkhghmmgegkiiaaGreatDoor
open Go.RowKit

theorem containsM_iff (a x : AddrM) (bits : Int) (hv : validM a bits = true) (hs : soundM x = true) (h6 : (x.six == a.six) = true) : containsM a bits x = true ↔ ∀ i : Nat, (i : Int) < bits → i < 128 → bitM x.ip i = bitM a.ip i := by
  rw [containsM, hv, hs, h6, Bool.true_and, Bool.true_and, Bool.true_and, List.all_eq_true]
  constructor
  · intro h i hi hlt
    have := h i (List.mem_range.2 hlt)
    rw [Bool.or_eq_true, decide_eq_true_iff, beq_iff_eq] at this
    rcases this with h2 | h2
    · omega
    · exact h2
  · intro h i hi
    rw [Bool.or_eq_true, decide_eq_true_iff, beq_iff_eq]
    by_cases h2 : bits ≤ (i : Int)
    · exact .inl h2
    · exact .inr (h i (by omega) (List.mem_range.1 hi))
end Go.Proofs.YtkhghmmgegkiiaaGreatDoor
namespace Go.Proofs.YtkhghmmgegkiiaaGreatDoor
open Go.RowKit

theorem bit_clear_all : ∀ m : Fin 8, ∀ k : Fin 8, ∀ x : Fin 256, (clearBit (UInt8.ofNat x.val) m.val).toNat / 2 ^ (7 - k.val) % 2 = if k = m then 0 else x.val / 2 ^ (7 - k.val) % 2 := by decide +kernel
theorem bit_clear (x : UInt8) (m k : Nat) (hm : m < 8) (hk : k < 8) : (clearBit x m).toNat / 2 ^ (7 - k) % 2 = if k = m then 0 else x.toNat / 2 ^ (7 - k) % 2 := by
  have h := bit_clear_all ⟨m, hm⟩ ⟨k, hk⟩ ⟨x.toNat, x.toNat_lt⟩
  simp only [UInt8.ofNat_toNat, Fin.mk.injEq] at h
  exact h
theorem clear_zero : ∀ m : Fin 8, clearBit 0 m.val = 0 := by decide
theorem mask_bit (ip : List UInt8) (hl : ip.length = 16) (b i : Nat) (hi : i < 128) : ∀ j, b + j ≤ 128 → bitM (clearS ip b j) i = if b ≤ i ∧ i < b + j then 0 else bitM ip i
  | 0, _ => by rw [if_neg (by omega)]; rfl
  | j + 1, h => by
    have ih := mask_bit ip hl b i hi j (by omega)
    have hml := clearS_length ip b j
    rw [clearS]
    generalize clearS ip b j = y at ih hml ⊢
    by_cases hq : i / 8 = (b + j) / 8
    · rw [bitM, hq, List.getD_eq_getElem?_getD, List.getElem?_set_self (by omega), Option.getD_some, bit_clear _ _ _ (by omega) (by omega)]
      rw [bitM, hq] at ih
      by_cases he : i % 8 = (b + j) % 8
      · rw [if_pos he, if_pos (by omega)]
      · rw [if_neg he, ih]
        by_cases hc : b ≤ i ∧ i < b + j
        · rw [if_pos hc, if_pos (by omega)]
        · rw [if_neg hc, if_neg (by omega)]
    · rw [bitM, List.getD_eq_getElem?_getD, List.getElem?_set_ne (by omega), ← List.getD_eq_getElem?_getD]
      rw [bitM] at ih
      rw [ih]
      by_cases hc : b ≤ i ∧ i < b + j
      · rw [if_pos hc, if_pos (by omega)]
      · rw [if_neg hc, if_neg (by omega)]
theorem mask_bits (a : AddrM) (h : a.ok) (b i : Nat) (hb : b ≤ 128) (hi : i < 128) : bitM (maskM a b).ip i = if b ≤ i then 0 else bitM a.ip i := by
  have := mask_bit a.ip h b i hi (128 - b) (by omega)
  rw [maskM]
  rw [this]
  by_cases hc : b ≤ i
  · rw [if_pos hc, if_pos (by omega)]
  · rw [if_neg hc, if_neg (by omega)]
theorem sound_iff (a : AddrM) : soundM a = true ↔ a.six = true ∨ ∀ q, 4 ≤ q → a.ip.getD q 0 = 0 := by
  rw [soundM, Bool.or_eq_true, List.all_eq_true]
  refine or_congr Iff.rfl ⟨fun h q hq => ?_, fun h x hx => ?_⟩
  · by_cases hl : q < a.ip.length
    · have := h (a.ip[q]) (by
        rw [List.mem_iff_getElem]
        exact ⟨q - 4, by rw [List.length_drop]; omega, by rw [List.getElem_drop]; congr 1; omega⟩)
      rw [List.getD_eq_getElem?_getD, List.getElem?_eq_getElem hl]
      exact beq_iff_eq.1 this
    · rw [List.getD_eq_getElem?_getD, List.getElem?_eq_none (by omega)]; rfl
  · obtain ⟨n, hn, rfl⟩ := List.mem_iff_getElem.1 hx
    rw [List.length_drop] at hn
    have := h (4 + n) (by omega)
    rw [List.getD_eq_getElem?_getD, List.getElem?_eq_getElem (by omega)] at this
    rw [List.getElem_drop]
    exact beq_iff_eq.2 this
theorem clearS_zero (ip : List UInt8) (b q : Nat) (hq : ip.getD q 0 = 0) : ∀ j, (clearS ip b j).getD q 0 = 0
  | 0 => hq
  | j + 1 => by
    have ih := clearS_zero ip b q hq j
    rw [clearS]
    by_cases he : (b + j) / 8 = q
    · rw [he, ih, clear_zero ⟨(b + j) % 8, Nat.mod_lt _ (by omega)⟩, List.getD_eq_getElem?_getD, List.getElem?_set]
      rw [if_pos rfl]
      split <;> rfl
    · rw [List.getD_eq_getElem?_getD, List.getElem?_set_ne he, ← List.getD_eq_getElem?_getD, ih]
theorem mask_sound (a : AddrM) (b : Nat) (hs : soundM a = true) : soundM (maskM a b) = true := by
  rw [sound_iff] at hs ⊢
  rcases hs with h | h
  · exact .inl h
  · exact .inr fun q hq => clearS_zero _ _ _ (h q hq) _
theorem width_le (a : AddrM) : widthM a ≤ 128 := by unfold widthM; split <;> omega
theorem mask_valid (a : AddrM) (h : a.ok) (b : Nat) (hb : b ≤ widthM a) (hs : soundM a = true) : validM (maskM a b) (b : Int) = true := by
  have hw := width_le a
  rw [validM_iff _ _ (mask_sound a b hs) (by omega) (by show (b : Int) ≤ (widthM a : Int); omega)]
  intro i hi hlt
  rw [mask_bits a h b i (by omega) hlt, if_pos (by omega)]
theorem codeA_sound (l : List UInt8) (p : Nat) : soundM (codeA l p) = true := by
  rw [sound_iff]
  by_cases h : sixV l p = true
  · exact .inl h
  · refine .inr fun q hq => ?_
    rw [codeA]
    dsimp only
    rw [if_neg h, fourB]
    generalize UInt8.ofNat (nextV l (nextP l p 3) 4) = u1
    generalize UInt8.ofNat (nextV l (nextP l (nextP l p 3) 4) 4) = u2
    generalize UInt8.ofNat (nextV l (nextP l (nextP l (nextP l p 3) 4) 4) 256) = u3
    obtain ⟨k, rfl⟩ : ∃ k, q = k + 4 := ⟨q - 4, by omega⟩
    show ([10, u1, u2, u3] ++ List.replicate 12 0 : List UInt8).getD (k + 4) 0 = 0
    rw [List.getD_eq_getElem?_getD, List.getElem?_append_right (by simp), show k + 4 - ([10, u1, u2, u3] : List UInt8).length = k from rfl, List.getElem?_replicate]
    split <;> rfl
end Go.Proofs.YtkhghmmgegkiiaaGreatDoor
