/-
  What a walk keeps of the memory that it has made: a list of entries, the newest first, each of which speaks of blocks of its own. Pieces of a slice of bytes whose address is not known: what x[i:j] and x[i:] give, and what they read as. The contracts of the reference's sound, bit, width, Valid. The mathematics of routes: what the functions of layer 14 return. No function of the program is named here. The mathematics of configurations: their cells, and what a text of lines stands for. A map from texts to bools that a call makes, as the list of the texts that it holds. No function of the program is named here. Rows of objects of one size that lie one after the other. No function of the program is named here. An object that lies in memory, later. Lists of prefixes that lie in memory. A slice built of one part, and the append of one part to a row of the call's own. Rows of objects: pieces of them, and the append of a row of objects to another one. No function of the program is named here. Words for lists of structs that grow by append. Words for lists of objects of one size that a slice holds: the first one for which a predicate holds, a place that is written, a predicate that is handed on. No function of the program is named here. append of a slice, and of a made one (zeros), onto a row of bytes of the call's own. The parser's state in memory. The contract of strings.IndexByte off the library's shelf, at this translation's numbers. The contract of codec.Little: for a size from 1 to 8 it returns a new slice with the size lowest bytes of n, the least significant one first; for any other size nothing. The contract of slices.Reverse at a byte slice that the call's own memory holds: behind the call the slice reads as the reversed list; nothing else has changed. The contract of codec.Big: for a size from 1 to 8 it returns a new slice with the size lowest bytes of n, the most significant one first; for any other size nothing. The contracts of codec.readGroup (four characters of base64) and codec.ParseKey (the key of a text, or the error). The contract of the program's codec.ParseKey. Equality of two structs, as an operation. No statement is proved here.
-/
import Derived.Laws.ShiftsVarLaws
import Derived.Deep.DeepCutAuto
import Derived.RegionTactic
import Derived.BigRegion
import Derived.Laws.BitsAllLaws
import Derived.Deep.QuietTactic
import Derived.BigQuiet
import Derived.Lib.SlTrimSet
import Derived.Lib.IndexMore
import Derived.Maps.OwnOps
import Derived.Maps.OwnSet
import Derived.StringKeys
import Derived.Maps.AppendAt
import Derived.Laws.AppendOwnNone
import Derived.Lib.AppendZerosOnto
import Derived.Shelf.Small.Strs
import Derived.Shelf.Strings.Search1
import Derived.Test.YthebekheejikgaaGreatDoorProg
import Derived.ChangeAlike
import Derived.Outline
import Derived.Deep.RegionLaw
import Derived.Lib.SmallJoins
import Derived.Lib.Strings
import Derived.Test.YthebekheejikgaaGreatDoorConfigLimitsB1
namespace Go.Proofs.YthebekheejikgaaGreatDoor
open Go.RowKit

/-- a fact that speaks of the blocks from lo to hi only -/
structure Ent where
  lo : Nat
  hi : Nat
  P : World → Prop
  loc : ∀ W W' : World, (∀ k, lo ≤ k → k < hi → W'.heap[k]? = W.heap[k]?) → P W → P W'
/-- a block -/
def blkE (g : Nat) (t : TypeId) (cs : List Value) : Ent := ⟨g, g + 1, fun W => Blk W g t cs, fun W W' h hp => by
  unfold Blk at *
  rw [h g (Nat.le_refl _) (by omega)]
  exact hp⟩
/-- bytes that lie somewhere from lo to hi -/
def RdIn (lo hi : Nat) (A : Option Addr) (n : Nat) (l : List UInt8) (W : World) : Prop :=
  l.length = n ∧ (0 < n → ∃ b off, A = some ⟨b, off, none⟩ ∧ lo ≤ b ∧ b < hi ∧ ∀ j (h : j < l.length), W.cell? ⟨b, off + j, none⟩ = some (.int .u8 (l[j].toNat : Int)))
def rdE (lo hi : Nat) (A : Option Addr) (n : Nat) (l : List UInt8) : Ent := ⟨lo, hi, RdIn lo hi A n l, fun W W' h hp => ⟨hp.1, fun hn => by
  obtain ⟨b, off, e, h1, h2, hc⟩ := hp.2 hn
  exact ⟨b, off, e, h1, h2, fun j hj => (World.cell?_of_block (w := W) (h b h1 h2)).trans (hc j hj)⟩⟩⟩
theorem RdIn.rd {lo hi : Nat} {A : Option Addr} {n : Nat} {l : List UInt8} {W : World} (h : RdIn lo hi A n l W) : Rd W hi A n l :=
  ⟨h.1, fun hn => by
    obtain ⟨b, off, e, _, h2, hc⟩ := h.2 hn
    exact ⟨b, off, e, h2, hc⟩⟩
/-- the entries, each above the one behind it in the list -/
def MemE (b : Nat) : List Ent → Nat → World → Prop
  | [], top, _ => b ≤ top
  | e :: r, top, W => e.hi ≤ top ∧ e.lo ≤ e.hi ∧ e.P W ∧ MemE b r e.lo W
def Mem (w0 : World) (E : List Ent) (W : World) : Prop := MemE w0.heap.size E W.heap.size W ∧ Below w0.heap.size w0 W
theorem MemE.base {b : Nat} : ∀ {E : List Ent} {top : Nat} {W : World}, MemE b E top W → b ≤ top
  | [], _, _, h => h
  | _ :: _, _, _, h => Nat.le_trans (MemE.base h.2.2.2) (Nat.le_trans h.2.1 h.1)
theorem MemE.keep {b : Nat} : ∀ {E : List Ent} {top top' : Nat} {W W' : World}, MemE b E top W → top ≤ top' → (∀ k, b ≤ k → k < top → W'.heap[k]? = W.heap[k]?) → MemE b E top' W'
  | [], _, _, _, _, h, ht, _ => Nat.le_trans h ht
  | e :: _, _, _, W, W', h, ht, hk => ⟨Nat.le_trans h.1 ht, h.2.1, e.loc W W' (fun k h1 h2 => hk k (Nat.le_trans (MemE.base h.2.2.2) h1) (Nat.lt_of_lt_of_le h2 h.1)) h.2.2.1, MemE.keep h.2.2.2 (Nat.le_refl _) (fun k h1 h2 => hk k h1 (Nat.lt_of_lt_of_le h2 (Nat.le_trans h.2.1 h.1)))⟩
theorem MemE.get {b : Nat} : ∀ {E : List Ent} {top : Nat} {W : World}, MemE b E top W → ∀ (i : Nat) (e : Ent), E[i]? = some e → e.P W
  | [], _, _, _, i, _, he => by simp at he
  | x :: r, _, _, h, 0, e, he => by
    have : x = e := by simpa using he
    exact this ▸ h.2.2.1
  | x :: r, _, _, h, i + 1, e, he => MemE.get h.2.2.2 i e (by simpa using he)
/-- a place of the list is written anew, within its own blocks -/
theorem MemE.put {b : Nat} : ∀ {E : List Ent} {top : Nat} {W W' : World}, MemE b E top W → ∀ (i : Nat) (e e' : Ent), E[i]? = some e → e'.lo = e.lo → e'.hi = e.hi → (∀ k, k < top → ¬(e.lo ≤ k ∧ k < e.hi) → W'.heap[k]? = W.heap[k]?) → e'.P W' → MemE b (E.set i e') top W'
  | [], _, _, _, _, i, _, _, he, _, _, _, _ => by simp at he
  | x :: r, top, W, W', h, 0, e, e', he, h1, h2, hk, hp => by
    have hx : x = e := by simpa using he
    subst hx
    refine ⟨by rw [h2]; exact h.1, by rw [h1, h2]; exact h.2.1, hp, ?_⟩
    rw [h1]
    exact MemE.keep h.2.2.2 (Nat.le_refl _) (fun k _ hlt => hk k (Nat.lt_of_lt_of_le hlt (Nat.le_trans h.2.1 h.1)) (fun hh => by omega))
  | x :: r, top, W, W', h, i + 1, e, e', he, h1, h2, hk, hp => by
    have he' : r[i]? = some e := by simpa using he
    have hin : e.hi ≤ x.lo := MemE.under h.2.2.2 i e he'
    exact ⟨h.1, h.2.1, x.loc W W' (fun k h3 h4 => hk k (Nat.lt_of_lt_of_le h4 h.1) (fun hh => by omega)) h.2.2.1, MemE.put h.2.2.2 i e e' he' h1 h2 (fun k hlt => hk k (Nat.lt_of_lt_of_le hlt (Nat.le_trans h.2.1 h.1))) hp⟩
where
  MemE.under {b : Nat} : ∀ {E : List Ent} {top : Nat} {W : World}, MemE b E top W → ∀ (i : Nat) (e : Ent), E[i]? = some e → e.hi ≤ top
  | [], _, _, _, i, _, he => by simp at he
  | x :: r, _, _, h, 0, e, he => by
    have : x = e := by simpa using he
    exact this ▸ h.1
  | x :: r, _, _, h, i + 1, e, he => Nat.le_trans (MemE.under h.2.2.2 i e (by simpa using he)) (Nat.le_trans h.2.1 h.1)
theorem MemE.low {b : Nat} : ∀ {E : List Ent} {top : Nat} {W : World}, MemE b E top W → ∀ (i : Nat) (e : Ent), E[i]? = some e → b ≤ e.lo
  | [], _, _, _, i, _, he => by simp at he
  | x :: r, _, _, h, 0, e, he => by
    have : x = e := by simpa using he
    exact this ▸ MemE.base h.2.2.2
  | x :: r, _, _, h, i + 1, e, he => MemE.low h.2.2.2 i e (by simpa using he)

section
variable {w0 W W' : World} {E : List Ent}
theorem Mem.nil (w0 : World) : Mem w0 [] w0 := ⟨Nat.le_refl _, Below.refl _ _⟩
theorem Mem.bel (h : Mem w0 E W) : Below w0.heap.size w0 W := h.2
theorem Mem.size (h : Mem w0 E W) : w0.heap.size ≤ W.heap.size := h.2.size
theorem Mem.get (h : Mem w0 E W) (i : Nat) {e : Ent} (he : E[i]? = some e) : e.P W := h.1.get i e he
theorem Mem.blk (h : Mem w0 E W) (i : Nat) {g : Nat} {t : TypeId} {cs : List Value} (he : E[i]? = some (blkE g t cs)) : Blk W g t cs := h.1.get i _ he
theorem Mem.rd (h : Mem w0 E W) (i : Nat) {lo hi : Nat} {A : Option Addr} {n : Nat} {l : List UInt8} (he : E[i]? = some (rdE lo hi A n l)) : Rd W W.heap.size A n l :=
  (RdIn.rd (h.1.get i _ he)).mono (MemE.put.MemE.under h.1 i _ he)
theorem Mem.below (h : Mem w0 E W) (hb : Below W.heap.size W W') : Mem w0 E W' := ⟨h.1.keep hb.size (fun k _ hk => hb.block k hk), h.2.trans (hb.mono h.2.size)⟩
theorem Mem.drew (h : Mem w0 E W) : Mem w0 E W.drew := h.below ((Below.refl _ _).drew)
theorem Mem.alloc (h : Mem w0 E W) {g : Nat} (hg : g = W.heap.size) (t : TypeId) (arr : Array Value) (cs : List Value) (ha : arr = cs.toArray) : Mem w0 (blkE g t cs :: E) (W.alloc (.cells arr t)) := by
  subst hg ha
  have hb : Below W.heap.size W (W.alloc (.cells cs.toArray t)) := (Below.refl _ _).alloc (Nat.le_refl _) _
  refine ⟨⟨?_, Nat.le_succ _, Blk.new W t cs, h.1.keep (Nat.le_refl _) (fun k _ hk => hb.block k hk)⟩, h.2.trans (hb.mono h.2.size)⟩
  show W.heap.size + 1 ≤ _
  simp
/-- what a call returns -/
theorem Mem.call (h : Mem w0 E W) (hb : Below W.heap.size W W') (e : Ent) (hl : e.lo = W.heap.size) (hh : e.hi = W'.heap.size) (hp : e.P W') : Mem w0 (e :: E) W' :=
  ⟨⟨by rw [hh]; exact Nat.le_refl _, by rw [hl, hh]; exact hb.size, hp, by rw [hl]; exact h.1.keep (Nat.le_refl _) (fun k _ hk => hb.block k hk)⟩, h.2.trans (hb.mono h.2.size)⟩
/-- a store into one block of the list -/
theorem Mem.put (h : Mem w0 E W) (i : Nat) {g : Nat} {t : TypeId} {cs : List Value} (he : E[i]? = some (blkE g t cs)) (cs' : List Value) (hg : W.grownBy W' (some g)) (hb : Blk W' g t cs') : Mem w0 (E.set i (blkE g t cs')) W' := by
  have hsz := hg.size
  refine ⟨(MemE.put h.1 i _ (blkE g t cs') he rfl rfl (fun k hk hne => hg.block k hk (fun e => hne ?_)) hb).keep hg.size (fun _ _ _ => rfl), ?_⟩
  · injection e with e
    subst e
    exact ⟨Nat.le_refl _, Nat.lt_succ_self _⟩
  · exact Below.grown h.2 hg h.2.size (fun k hk => by injection hk with hk; subst hk; exact MemE.low h.1 i _ he)
theorem Mem.setCell (h : Mem w0 E W) (i : Nat) {g : Nat} {t : TypeId} {cs : List Value} (he : E[i]? = some (blkE g t cs)) (j : Nat) (u : Value) : Mem w0 (E.set i (blkE g t (cs.set j u))) (W.setCell ⟨g, j, none⟩ u) := by
  have hw : W.heap.size ≤ (W.setCell ⟨g, j, none⟩ u).heap.size := by simp [World.setCell]
  refine ⟨(MemE.put h.1 i _ (blkE g t (cs.set j u)) he rfl rfl (fun k hk hne => Below.heap_setCell _ _ _ _ (fun e => hne ?_)) ((h.blk i he).set_ j u)).keep hw (fun _ _ _ => rfl), ?_⟩
  · dsimp only at e
    subst e
    exact ⟨Nat.le_refl _, Nat.lt_succ_self _⟩
  · exact h.2.setCell (MemE.low h.1 i _ he) _
end
/-- the entries lie below B, whatever lies above it -/
def MemB (w0 : World) (B : Nat) (E : List Ent) (W : World) : Prop := MemE w0.heap.size E B W ∧ Below w0.heap.size w0 W ∧ B ≤ W.heap.size
section
variable {w0 W W' : World} {B : Nat} {E : List Ent}
theorem Mem.fix (h : Mem w0 E W) : MemB w0 W.heap.size E W := ⟨h.1, h.2, Nat.le_refl _⟩
theorem MemB.mem (h : MemB w0 B E W) : Mem w0 E W := ⟨h.1.keep h.2.2 (fun _ _ _ => rfl), h.2.1⟩
theorem MemB.below (h : MemB w0 B E W) (hb : Below B W W') : MemB w0 B E W' := ⟨h.1.keep (Nat.le_refl _) (fun k _ hk => hb.block k hk), h.2.1.trans (hb.mono h.1.base), Nat.le_trans h.2.2 hb.size⟩
/-- behind an append to a row that lies above -/
theorem MemB.grown (h : MemB w0 B E W) {v : Value} {e n : Nat} {xs : List Value} (ho : W.ownsRow B e 1 v n xs) (hg : W.grownBy W' v.ownBlock) : MemB w0 B E W' := h.below ((Below.refl _ _).grown hg h.2.2 (own_from ho))
/-- the row that lies above becomes an entry -/
theorem MemB.row (h : MemB w0 B E W) {A : Option Addr} {n c : Nat} {l : List UInt8} (ho : W.ownsRow B 5 1 (.slice A n c) n (l.map u8v)) : Mem w0 (rdE B W.heap.size A n l :: E) W :=
  ⟨⟨Nat.le_refl _, h.2.2, by
    have hr := Rd.of_own ho
    refine ⟨hr.1, fun hn => ?_⟩
    obtain ⟨b, off, e, h1, hc⟩ := hr.2 hn
    subst e
    exact ⟨b, off, rfl, (ho.lt b rfl).1, h1, hc⟩, h.1⟩, h.2.1⟩
end
end Go.Proofs.YthebekheejikgaaGreatDoor
namespace Go.Proofs.YthebekheejikgaaGreatDoor
open Go.RowKit

/-- the address behind i elements, as the model keeps it -/
def addrOf (A : Option Addr) (i c : Nat) : Option Addr := if c = i then A else A.map (·.add (i * 1))
theorem Rd.behind {W : World} {B n : Nat} {A : Option Addr} {l : List UInt8} (h : Rd W B A n l) (i c : Nat) (hi : i ≤ n) (hc : n ≤ c) : Rd W B (addrOf A i c) (n - i) (l.drop i) := by
  unfold addrOf
  by_cases e : c = i
  · have e0 : n - i = 0 := by omega
    rw [if_pos e, e0, List.drop_of_length_le (by have := h.1; omega)]
    exact Rd.nil _ _ _
  · rw [if_neg e]
    rcases Nat.eq_zero_or_pos (n - i) with h0 | h0
    · rw [h0, List.drop_of_length_le (by have := h.1; omega)]
      exact Rd.nil _ _ _
    · obtain ⟨b, off, rfl, _, _⟩ := h.2 (by omega)
      rw [Option.map_some, Go.WideShapes.add_plain, Nat.mul_one]
      exact h.drop i b off rfl hi
end Go.Proofs.YthebekheejikgaaGreatDoor
namespace Go.Proofs.YthebekheejikgaaGreatDoor
open Go.RowKit

theorem AddrM.six_cell (a : AddrM) : a.cells[0]? = some (.bool a.six) := rfl
/-- a prefix -/
def prefC (a : AddrM) (bits : Int) : List Value := a.cells ++ [.int .i64 bits]
theorem prefC_length (a : AddrM) (h : a.ok) (bits : Int) : (prefC a bits).length = 18 := by rw [prefC, List.length_append, AddrM.cells_length h]; rfl
theorem prefC_addr (a : AddrM) (h : a.ok) (bits : Int) : ((prefC a bits).drop 0).take 17 = a.cells := by rw [prefC, List.drop_zero, ← AddrM.cells_length h, List.take_left]
theorem prefC_bits (a : AddrM) (h : a.ok) (bits : Int) : (prefC a bits)[17]? = some (.int .i64 bits) := by
  rw [prefC, List.getElem?_append_right (by rw [AddrM.cells_length h]; omega), AddrM.cells_length h]; rfl
theorem soundM_four (a : AddrM) (h : a.ok) (h6 : a.six = false) : soundM a = true ↔ ∀ j, j < 12 → a.ip.getD (4 + j) 0 = 0 := by
  have hl : a.ip.length = 16 := h
  rw [soundM, h6, Bool.false_or, List.all_eq_true]
  constructor
  · intro hx j hj
    have := hx (a.ip[4 + j]'(by omega)) (List.mem_drop_iff_getElem.2 ⟨j, by omega, rfl⟩)
    rw [List.getD_eq_getElem?_getD, List.getElem?_eq_getElem (by omega)]
    simpa using this
  · intro hx x hm
    obtain ⟨j, hj, rfl⟩ := List.mem_drop_iff_getElem.1 hm
    have := hx j (by omega)
    rw [List.getD_eq_getElem?_getD, List.getElem?_eq_getElem (by omega)] at this
    simpa using this

theorem validM_iff (a : AddrM) (bits : Int) (hs : soundM a = true) (h0 : 0 ≤ bits) (h1 : bits ≤ (widthM a : Int)) : validM a bits = true ↔ ∀ i : Nat, bits ≤ (i : Int) → i < 128 → bitM a.ip i = 0 := by
  rw [validM, hs, decide_eq_true h0, decide_eq_true h1, Bool.true_and, Bool.true_and, Bool.true_and, List.all_eq_true]
  constructor
  · intro h i hi hlt
    have := h i (List.mem_range.2 hlt)
    rw [Bool.or_eq_true, decide_eq_true_iff, beq_iff_eq] at this
    rcases this with h2 | h2
    · omega
    · exact h2
  · intro h i hi
    rw [Bool.or_eq_true, decide_eq_true_iff, beq_iff_eq]
    by_cases h2 : (i : Int) < bits
    · exact .inl h2
    · exact .inr (h i (by omega) (List.mem_range.1 hi))
theorem widthM_le (a : AddrM) : widthM a = 32 ∨ widthM a = 128 := by unfold widthM; split <;> simp
theorem validM_bits (a : AddrM) (bits : Int) (h : validM a bits = true) : 0 ≤ bits ∧ bits ≤ 128 := by
  rw [validM, Bool.and_eq_true, Bool.and_eq_true, Bool.and_eq_true, decide_eq_true_iff, decide_eq_true_iff] at h
  have := widthM_le a
  omega
theorem pref_cellsOf (a : AddrM) (h : a.ok) (bits : Int) : (Tryz.prog.info? 62).map (·.size) = some (prefC a bits).length := by
  rw [prefC_length a h]; kernel_rfl
end Go.Proofs.YthebekheejikgaaGreatDoor
namespace Go.Proofs.YthebekheejikgaaGreatDoor
open Go.RowKit

/-- a route: the address and the bits of its prefix, and its peer -/
structure RouteM where
  a : AddrM
  bits : Int
  peer : List UInt8
def inI64 (x : Int) : Prop := -9223372036854775808 ≤ x ∧ x ≤ 9223372036854775807
def RouteM.ok (r : RouteM) : Prop := r.a.ok ∧ r.peer.length = 32 ∧ inI64 r.bits
def RouteM.cells (r : RouteM) : List Value := prefC r.a r.bits ++ r.peer.map u8v
theorem RouteM.cells_length {r : RouteM} (h : r.ok) : r.cells.length = 50 := by
  rw [RouteM.cells, List.length_append, prefC_length r.a h.1, List.length_map, h.2.1]
def RouteM.is (a : AddrM) (b : Int) (r : RouteM) : Bool := decide (r.a = a ∧ r.bits = b)
end Go.Proofs.YthebekheejikgaaGreatDoor
namespace Go.Proofs.YthebekheejikgaaGreatDoor
open Go.RowKit

structure PeerM where
  pub : List UInt8
  sha : List UInt8
  hasE : Bool
  ea : AddrM
  ep : Int
  keep : Int
  al : List (AddrM × Int)
structure ConfM where
  priv : List UInt8
  port : Int
  peers : List PeerM
def peer0 : PeerM := ⟨List.replicate 32 0, List.replicate 32 0, false, addr0, 0, 0, []⟩
def conf0 : ConfM := ⟨List.replicate 32 0, 0, []⟩
def tIface : List UInt8 := [91, 73, 110, 116, 101, 114, 102, 97, 99, 101, 93]
def tPeer : List UInt8 := [91, 80, 101, 101, 114, 93]
def tPriv : List UInt8 := [80, 114, 105, 118, 97, 116, 101, 75, 101, 121]
def tPort : List UInt8 := [76, 105, 115, 116, 101, 110, 80, 111, 114, 116]
def tPub : List UInt8 := [80, 117, 98, 108, 105, 99, 75, 101, 121]
def tSha : List UInt8 := [80, 114, 101, 115, 104, 97, 114, 101, 100, 75, 101, 121]
def tEnd : List UInt8 := [69, 110, 100, 112, 111, 105, 110, 116]
def tKeep : List UInt8 := [80, 101, 114, 115, 105, 115, 116, 101, 110, 116, 75, 101, 101, 112, 97, 108, 105, 118, 101]
def tAll : List UInt8 := [65, 108, 108, 111, 119, 101, 100, 73, 80, 115]
def bl2 : List UInt8 := [32, 9]
/-- what has been read: the configuration, and the names of the last section -/
structure PsM where
  conf : ConfM
  seen : Option (List (List UInt8))
def ps0 : PsM := ⟨conf0, none⟩
def endOk (s : PsM) : Bool := match s.seen with
  | none => false
  | some S => if s.conf.peers.isEmpty then S.contains tPriv && S.contains tPort else S.contains tPub
def ifaceM (c : ConfM) (name value : List UInt8) : Option ConfM :=
  if name = tPriv then (parseK value).map fun k => { c with priv := k }
  else if name = tPort then (if (numP value 10).2 = true then some { c with port := ((numP value 10).1 : Int) } else none)
  else none
def allM (value : List UInt8) : List (List UInt8) := (splitB 44 value).map fun x => Lib.trimS x bl2
def prefOf (x : List UInt8) : AddrM × Int := ((prefP x).1.1, ((prefP x).1.2 : Int))
def prefsM (xs : List (List UInt8)) : Option (List (AddrM × Int)) := if xs.all (fun x => (prefP x).2 == 0) = true then some (xs.map prefOf) else none
def peerM (p : PeerM) (name value : List UInt8) : Option PeerM :=
  if name = tPub then (parseK value).map fun k => { p with pub := k }
  else if name = tSha then (parseK value).map fun k => { p with sha := k }
  else if name = tEnd then (if (endP value).2 = 0 then some { p with hasE := true, ea := (endP value).1.1, ep := ((endP value).1.2 : Int) } else none)
  else if name = tKeep then (if (numP value 10).2 = true then some { p with keep := ((numP value 10).1 : Int) } else none)
  else if name = tAll then (prefsM (allM value)).map fun l => { p with al := p.al ++ l }
  else none
def entryM (s : PsM) (name value : List UInt8) : Option PsM := match s.seen with
  | none => none
  | some S => if S.contains name = true then none else match s.conf.peers.getLast? with
    | none => (ifaceM s.conf name value).map fun c => ⟨c, some (name :: S)⟩
    | some p => (peerM p name value).map fun q => ⟨{ s.conf with peers := s.conf.peers.dropLast ++ [q] }, some (name :: S)⟩
/-- a line without blanks at its ends -/
def lineM (s : PsM) (l : List UInt8) : Option PsM :=
  if l = [] ∨ l.head? = some 35 then some s
  else if l = tIface then (if s.seen.isNone = true then some { s with seen := some [] } else none)
  else if l = tPeer then (if endOk s = true then some ⟨{ s.conf with peers := s.conf.peers ++ [peer0] }, some []⟩ else none)
  else if (Lib.cut l [61]).2.2 = true then entryM s (Lib.trimRightS (Lib.cut l [61]).1 bl2) (Lib.trimLeftS (Lib.cut l [61]).2.1 bl2) else none
/-- the lines of a text -/
def linesB (l : List UInt8) : List (List UInt8) := if (splitB 10 l).getLast? = some [] then (splitB 10 l).dropLast else splitB 10 l
def runM : PsM → List (List UInt8) → Option PsM
  | s, [] => some s
  | s, a :: r => match lineM s (Lib.trimS a bl2) with
    | none => none
    | some t => runM t r
def parseCf (l : List UInt8) : Option ConfM := match runM ps0 (linesB l) with
  | none => none
  | some s => if endOk s = true then some s.conf else none
theorem linesB_nil : linesB [] = [] := rfl
theorem linesB_cons {a : List UInt8} (h : (10 : UInt8) ∉ a) (r : List UInt8) : linesB (a ++ 10 :: r) = a :: linesB r := by
  have hne := split_ne 10 r
  rw [linesB, split_at h]
  cases hr : splitB 10 r with
  | nil => exact absurd hr hne
  | cons x xs =>
    rw [linesB, hr, List.getLast?_cons_cons, List.dropLast_cons_cons]
    split <;> rfl
theorem linesB_last {a : List UInt8} (h : (10 : UInt8) ∉ a) (h0 : a ≠ []) : linesB a = [a] := by
  rw [linesB, split_none h, if_neg (by simpa using h0)]
def PeerM.ok (p : PeerM) : Prop := p.pub.length = 32 ∧ p.sha.length = 32 ∧ p.ea.ok ∧ inI64 p.ep ∧ inI64 p.keep ∧ ∀ q ∈ p.al, q.1.ok ∧ inI64 q.2
def ConfM.ok (c : ConfM) : Prop := c.priv.length = 32 ∧ inI64 c.port ∧ ∀ p ∈ c.peers, p.ok
theorem conf0_ok : conf0.ok := ⟨by simp [conf0], ⟨by decide, by decide⟩, by simp [conf0]⟩
def PeerM.cells (p : PeerM) (v : Value) : List Value := p.pub.map u8v ++ (p.sha.map u8v ++ (.bool p.hasE :: (prefC p.ea p.ep ++ [.int .i64 p.keep, v])))
def ConfM.cells (c : ConfM) (v : Value) : List Value := c.priv.map u8v ++ [.int .i64 c.port, v]
theorem PeerM.cells_length {p : PeerM} (h : p.ok) (v : Value) : (p.cells v).length = 85 := by
  simp only [PeerM.cells, List.length_append, List.length_map, List.length_cons, List.length_nil, prefC_length p.ea h.2.2.1, h.1, h.2.1]
theorem ConfM.cells_length {c : ConfM} (h : c.ok) (v : Value) : (c.cells v).length = 34 := by
  simp only [ConfM.cells, List.length_append, List.length_map, List.length_cons, List.length_nil, h.1]
/-! ### what Validate asks -/
def allP (c : ConfM) : List (AddrM × Int) := c.peers.flatMap fun p => p.al
def rightE (p : PeerM) : Bool := if p.hasE then !(endT p.ea p.ep).isEmpty else decide (p.ea = addr0 ∧ p.ep = 0)
def rightK (n : Int) : Bool := n == 0 || (decide (1000 ≤ n) && decide (n ≤ 1073741824))
def rightP (p : PeerM) : Bool := rightE p && rightK p.keep && p.al.all fun q => validM q.1 q.2
def hasN {α : Type} (eq : α → α → Bool) (l : List α) (x : α) (n : Nat) : Bool := (List.range n).any fun i => l[i]?.any fun z => eq x z
/-- an element is equal to one ahead of it -/
def repM {α : Type} (eq : α → α → Bool) (l : List α) : Bool := (List.range l.length).any fun i => l[i]?.any fun x => hasN eq (l.take i) x i
def eqK (a b : List UInt8) : Bool := decide (a = b)
def eqP (a b : AddrM × Int) : Bool := decide (a.1 = b.1 ∧ a.2 = b.2)
def validE (c : ConfM) : Nat :=
  if 8 < c.peers.length ∨ 16 < (allP c).length then 12
  else if c.port < 0 ∨ 65535 < c.port ∨ c.peers.all rightP = false then 1
  else if repM eqK (c.peers.map PeerM.pub) = true ∨ repM eqP (allP c) = true then 19
  else 0
end Go.Proofs.YthebekheejikgaaGreatDoor
namespace Go.Proofs.YthebekheejikgaaGreatDoor
open Go.RowKit Go.Maps

/-- what the map reads as -/
def namesV (S : List (List UInt8)) : DataW Unit := S.foldr (fun (c : List UInt8) (D : DataW Unit) => DataW.put D (.string c) (.lit (.bool true))) (.map [])
theorem namesV_isMap : ∀ S : List (List UInt8), IsMap (namesV S)
  | [] => isMap_empty
  | _ :: S => (namesV_isMap S).put _ _
theorem namesV_at (c : List UInt8) : ∀ S : List (List UInt8), (namesV S).atKey (.string c) (.lit (.bool false)) = .lit (.bool (S.contains c))
  | [] => rfl
  | d :: S => by
    show ((namesV S).put (.string d) (.lit (.bool true))).atKey _ _ = _
    by_cases h : c = d
    · subst h
      rw [atKey_put_same (namesV_isMap S) (show WideAt.IsKeyLit (.string c) from trivial)]
      simp
    · rw [atKey_put_other (by intro e; injection e with e; exact h (by first | exact e | exact e.symm)), namesV_at c S]
      simp [h]
/-- block b is the map of the texts of S -/
def NamesAt (P : Program) (k e : TypeId) (W : World) (b n : Nat) (S : List (List UInt8)) : Prop := W.ownsMap P k (plainElem P e) b n (namesV S)
theorem NamesAt.lt {P : Program} {k e : TypeId} {W : World} {b n : Nat} {S : List (List UInt8)} (h : NamesAt P k e W b n S) : b < W.heap.size := World.ownsMap.lt h
theorem NamesAt.kept {P : Program} {k e : TypeId} {W W' : World} {b n : Nat} {S : List (List UInt8)} (h : NamesAt P k e W b n S) (hb : W'.heap[b]? = W.heap[b]?) : NamesAt P k e W' b n S := by
  obtain ⟨es, clock, h1, h2⟩ := h
  exact ⟨es, clock, hb.trans h1, h2⟩
theorem plainElem_bool_inv' {P : Program} {e : TypeId} (he : P.underlying e = some .bool) {v : Value} {z : DataW Unit × List MemPlace} (h : plainElem P e v = some z) : ∃ x, v = .bool x ∧ z = (.lit (.bool x), []) := by
  unfold plainElem at h
  rw [he] at h
  cases v <;> simp at h
  subst h
  exact ⟨_, rfl, rfl⟩
theorem key_text {P : Program} {k : TypeId} (hk : P.underlying k = some .string) (c : List UInt8) (hc : c.length ≤ 1000000) : keyOf P k (.string ⟨c.toArray⟩) = some (.string c) := by
  rw [WideMaps.keyOf_string_mk hk (by have : maxLen = 9223372036854775807 := rfl; simp only [ByteArray.size, List.size_toArray]; omega)]
theorem run_lookup_names {P : Program} {w : World} {t k e : TypeId} (hk : P.underlying k = some .string) (ht : P.underlying t = some (.map k e)) (he : P.underlying e = some .bool) (hz : ∀ w, (zeroValue e).run P w = .ok (.bool false) w) {b n : Nat} {S : List (List UInt8)}
    (hown : NamesAt P k e w b n S) (c : List UInt8) (hc : c.length ≤ 1000000) : (Instr.lookup t (.map (some b)) (.string ⟨c.toArray⟩) false).run P w = .ok (.bool (S.contains c)) w := by
  obtain ⟨v, ps, hrun, hv⟩ := World.ownsMap.lookup hown (string_keyed hk) ht (hz w) (plainElem_bool he false) (key_text hk c hc)
  obtain ⟨z, rfl, hz2⟩ := plainElem_bool_inv' he hv
  rw [namesV_at] at hz2
  simp only [Prod.mk.injEq, DataW.lit.injEq, Lit.bool.injEq] at hz2
  obtain ⟨h, _⟩ := hz2
  rw [h]
  exact hrun
theorem wpList_lookup_names {P : Program} {w : World} {ops : Array Oper} {rest : List Oper} {o : Oper} {a : Act} {Q : Exit → Act → World → Prop}
    (hw : Region.wanted o (yielded ops a.tmps) = true) (m x : Operand) (t : TypeId) (hop : o.op = Op.lookup t m x false)
    (k e : TypeId) (hk : P.underlying k = some .string) (ht : P.underlying t = some (.map k e)) (he : P.underlying e = some .bool) (hz : ∀ w, (zeroValue e).run P w = .ok (.bool false) w) (b n : Nat) (S : List (List UInt8))
    (hm : a.eval m = .map (some b)) (hown : NamesAt P k e w b n S) (c : List UInt8) (hc : c.length ≤ 1000000) (hx : a.eval x = .string ⟨c.toArray⟩) (y : Bool) (hy : S.contains c = y)
    (h : wpList P ops Q rest (a.put o.dst (.bool y)) w) : wpList P ops Q (o :: rest) a w := by
  refine wpList_step fun K hK => ?_
  rw [if_pos hw]
  have hr := run_lookup_names hk ht he hz hown c hc
  rw [hy] at hr
  unfold Oper.wp
  simp [execOp, hop, hm, hx, hr, Result.andThen]
  exact hK _ _ h
theorem wpList_update_names {P : Program} {w : World} {ops : Array Oper} {rest : List Oper} {o : Oper} {a : Act} {Q : Exit → Act → World → Prop}
    (hg : o.guard = none) (m x v : Operand) (t : TypeId) (hop : o.op = Op.mapUpdate t m x v)
    (k e : TypeId) (hk : P.underlying k = some .string) (ht : P.underlying t = some (.map k e)) (he : P.underlying e = some .bool) (b n : Nat) (S : List (List UInt8))
    (hm : a.eval m = .map (some b)) (hown : NamesAt P k e w b n S) (hn : n < maxLen) (c : List UInt8) (hc : c.length ≤ 1000000) (hx : a.eval x = .string ⟨c.toArray⟩) (hv : a.eval v = .bool true)
    (h : ∀ w', NamesAt P k e w' b (n + 1) (c :: S) → w.grownBy w' (some b) → wpList P ops Q rest (a.put o.dst undef) w') : wpList P ops Q (o :: rest) a w :=
  wpList_mapUpdate_own w hg m x v t hop k e (string_keyed hk) ht (plainElem P e) b n (namesV S) hm hown hn _ _ (.string c) hx hv (key_text hk c hc) (.lit (.bool true)) [] (plainElem_bool he true) h
end Go.Proofs.YthebekheejikgaaGreatDoor
namespace Go.Proofs.YthebekheejikgaaGreatDoor
open Go.RowKit

theorem flat_length {k : Nat} : ∀ {os : List (List Value)}, (∀ o ∈ os, o.length = k) → os.flatten.length = os.length * k
  | [], _ => by simp
  | o :: r, h => by
    rw [List.flatten_cons, List.length_append, h o (List.mem_cons_self ..), flat_length (fun x hx => h x (List.mem_cons_of_mem _ hx)), List.length_cons, Nat.succ_mul, Nat.add_comm]
theorem flat_at {k : Nat} : ∀ {os : List (List Value)}, (∀ o ∈ os, o.length = k) → ∀ (i : Nat) (o : List Value), os[i]? = some o → ∀ (j : Nat) (v : Value), o[j]? = some v → os.flatten[i * k + j]? = some v
  | [], _, i, o, hi, _, _, _ => by simp at hi
  | a :: r, h, 0, o, hi, j, v, hj => by
    simp only [List.getElem?_cons_zero, Option.some.injEq] at hi
    subst hi
    rw [List.flatten_cons, Nat.zero_mul, Nat.zero_add, List.getElem?_append_left (List.getElem?_eq_some_iff.1 hj).1]
    exact hj
  | a :: r, h, i + 1, o, hi, j, v, hj => by
    have ha := h a (List.mem_cons_self ..)
    rw [List.flatten_cons, List.getElem?_append_right (by rw [ha, Nat.succ_mul]; omega), ha, show (i + 1) * k + j - k = i * k + j from by rw [Nat.succ_mul]; omega]
    exact flat_at (fun x hx => h x (List.mem_cons_of_mem _ hx)) i o (by simpa using hi) j v hj
theorem flat_drop {k : Nat} : ∀ (n : Nat) {os : List (List Value)}, (∀ o ∈ os, o.length = k) → (os.drop n).flatten = os.flatten.drop (n * k)
  | 0, os, _ => by simp
  | n + 1, [], _ => by simp
  | n + 1, a :: r, h => by
    have ha := h a (List.mem_cons_self ..)
    rw [List.drop_succ_cons, List.flatten_cons, flat_drop n (fun x hx => h x (List.mem_cons_of_mem _ hx)), List.drop_append, ha, Nat.succ_mul, List.drop_eq_nil_of_le (show a.length ≤ n * k + k by rw [ha]; omega), List.nil_append, Nat.add_sub_cancel]
theorem flat_take {k : Nat} : ∀ (n : Nat) {os : List (List Value)}, (∀ o ∈ os, o.length = k) → (os.take n).flatten = os.flatten.take (n * k)
  | 0, os, _ => by simp
  | n + 1, [], _ => by simp
  | n + 1, a :: r, h => by
    have ha := h a (List.mem_cons_self ..)
    rw [List.take_succ_cons, List.flatten_cons, List.flatten_cons, flat_take n (fun x hx => h x (List.mem_cons_of_mem _ hx)), List.take_append, ha, Nat.succ_mul, List.take_of_length_le (show a.length ≤ n * k + k by rw [ha]; omega), Nat.add_sub_cancel]
/-- n objects of k cells that lie one after the other below B -/
def RdRow (W : World) (B : Nat) (A : Option Addr) (k n : Nat) (os : List (List Value)) : Prop :=
  os.length = n ∧ (∀ o ∈ os, o.length = k) ∧ (0 < n → ∃ b off, A = some ⟨b, off, none⟩ ∧ b < B ∧ ∀ j v, os.flatten[j]? = some v → W.cell? ⟨b, off + j, none⟩ = some v)
theorem RdRow.below {w W : World} {B k n : Nat} {A : Option Addr} {os : List (List Value)} (h : RdRow w B A k n os) (hb : Below B w W) : RdRow W B A k n os :=
  ⟨h.1, h.2.1, fun hn => by
    obtain ⟨b, off, e, hlt, hc⟩ := h.2.2 hn
    exact ⟨b, off, e, hlt, fun j v hv => (World.cell?_of_block (hb.block b hlt)).trans (hc j v hv)⟩⟩
theorem RdRow.mono {W : World} {B C k n : Nat} {A : Option Addr} {os : List (List Value)} (h : RdRow W B A k n os) (hc : B ≤ C) : RdRow W C A k n os :=
  ⟨h.1, h.2.1, fun hn => by
    obtain ⟨b, off, e, hlt, hc2⟩ := h.2.2 hn
    exact ⟨b, off, e, by omega, hc2⟩⟩
theorem RdRow.nil {W : World} {B k : Nat} {A : Option Addr} : RdRow W B A k 0 [] := ⟨rfl, (by simp), fun h => by omega⟩
theorem RdRow.of_own {W : World} {B k n c : Nat} {e : TypeId} {A : Option Addr} {os : List (List Value)} (hn : os.length = n) (hk : ∀ o ∈ os, o.length = k) (h : W.ownsRow B e k (.slice A n c) n os.flatten) : RdRow W W.heap.size A k n os := by
  refine ⟨hn, hk, fun h0 => ?_⟩
  rcases h.2 with ⟨_, e⟩ | ⟨g, cap, cur, hv, hbg, hg, hcap, hm, hs, hr⟩
  · omega
  · injection hv with hA _ _
    refine ⟨g, 0, hA, ?_, fun j v hj => ?_⟩
    · rcases Nat.lt_or_ge g W.heap.size with h | h
      · exact h
      · rw [Array.getElem?_eq_none h] at hg; cases hg
    · rw [← hr, List.getElem?_take] at hj
      split at hj
      · rw [Nat.zero_add]
        simp only [World.cell?, hg]
        simpa using hj
      · cases hj
/-- the object at a place of a row -/
theorem RdRow.at {W : World} {B k n b off : Nat} {os : List (List Value)} (h : RdRow W B (some ⟨b, off, none⟩) k n os) (i : Nat) (o : List Value) (hi : os[i]? = some o) : b < B ∧ At W b (off + i * k) o := by
  have hl : i < os.length := (List.getElem?_eq_some_iff.1 hi).1
  obtain ⟨b', off', e, hlt, hc⟩ := h.2.2 (by rw [← h.1]; omega)
  injection e with e
  injection e with e1 e2 _
  subst e1 e2
  exact ⟨hlt, fun j v hj => by rw [Nat.add_assoc]; exact hc _ v (flat_at h.2.1 i o hi j v hj)⟩
theorem RdRow.addr {W : World} {B k n : Nat} {A : Option Addr} {os : List (List Value)} (h : RdRow W B A k n os) (hn : 0 < n) : ∃ b off, A = some ⟨b, off, none⟩ := by
  obtain ⟨b, off, e, _⟩ := h.2.2 hn
  exact ⟨b, off, e⟩
theorem RdRow.take {W : World} {B k n : Nat} {A : Option Addr} {os : List (List Value)} (h : RdRow W B A k n os) (i : Nat) (hi : i ≤ n) : RdRow W B A k i (os.take i) := by
  refine ⟨by rw [List.length_take, h.1]; omega, fun o ho => h.2.1 o (List.mem_of_mem_take ho), fun h0 => ?_⟩
  obtain ⟨b, off, e, hlt, hc⟩ := h.2.2 (by omega)
  refine ⟨b, off, e, hlt, fun j v hj => hc j v ?_⟩
  rw [flat_take i h.2.1, List.getElem?_take] at hj
  split at hj
  · exact hj
  · cases hj
theorem RdRow.drop {W : World} {B k n b off : Nat} {os : List (List Value)} (h : RdRow W B (some ⟨b, off, none⟩) k n os) (i : Nat) (hi : i ≤ n) : RdRow W B (some ⟨b, off + i * k, none⟩) k (n - i) (os.drop i) := by
  refine ⟨by rw [List.length_drop, h.1], fun o ho => h.2.1 o (List.mem_of_mem_drop ho), fun h0 => ?_⟩
  obtain ⟨b', off', e, hlt, hc⟩ := h.2.2 (by omega)
  injection e with e
  injection e with e1 e2 _
  subst e1 e2
  refine ⟨b, off + i * k, rfl, hlt, fun j v hj => ?_⟩
  rw [flat_drop i h.2.1, List.getElem?_drop] at hj
  rw [Nat.add_assoc]
  exact hc _ v hj
end Go.Proofs.YthebekheejikgaaGreatDoor
namespace Go.Proofs.YthebekheejikgaaGreatDoor
open Go.RowKit

theorem At.mono {w W : World} {b off B : Nat} {cs : List Value} (h : At w b off cs) (hb : Below B w W) (hlt : b < B) : At W b off cs := fun j v hv => (World.cell?_of_block (hb.block b hlt)).trans (h j v hv)
end Go.Proofs.YthebekheejikgaaGreatDoor
namespace Go.Proofs.YthebekheejikgaaGreatDoor
open Go.RowKit

def pfsV (l : List (AddrM × Int)) : List (List Value) := l.map fun p => prefC p.1 p.2
def okP (p : AddrM × Int) : Prop := p.1.ok ∧ inI64 p.2
def PfRd (W : World) (B : Nat) (A : Option Addr) (n : Nat) (l : List (AddrM × Int)) : Prop := RdRow W B A 18 n (pfsV l) ∧ ∀ p ∈ l, okP p
theorem PfRd.len {W : World} {B n : Nat} {A : Option Addr} {l : List (AddrM × Int)} (h : PfRd W B A n l) : l.length = n := by
  have := h.1.1
  simpa [pfsV] using this
theorem PfRd.below {w W : World} {B n : Nat} {A : Option Addr} {l : List (AddrM × Int)} (h : PfRd w B A n l) (hb : Below B w W) : PfRd W B A n l := ⟨h.1.below hb, h.2⟩
theorem PfRd.mono {W : World} {B C n : Nat} {A : Option Addr} {l : List (AddrM × Int)} (h : PfRd W B A n l) (hc : B ≤ C) : PfRd W C A n l := ⟨h.1.mono hc, h.2⟩
theorem PfRd.nil {W : World} {B : Nat} {A : Option Addr} : PfRd W B A 0 [] := ⟨RdRow.nil, by simp⟩
theorem PfRd.at {W : World} {B n b off : Nat} {l : List (AddrM × Int)} (h : PfRd W B (some ⟨b, off, none⟩) n l) (i : Nat) (p : AddrM × Int) (hi : l[i]? = some p) : b < B ∧ At W b (off + i * 18) (prefC p.1 p.2) :=
  h.1.at i (prefC p.1 p.2) (by rw [pfsV, List.getElem?_map, hi]; rfl)
theorem PfRd.ok {W : World} {B n : Nat} {A : Option Addr} {l : List (AddrM × Int)} (h : PfRd W B A n l) {i : Nat} {p : AddrM × Int} (hi : l[i]? = some p) : okP p := h.2 p (List.mem_of_getElem? hi)
theorem PfRd.of_own {W : World} {B n c : Nat} {e : TypeId} {A : Option Addr} {l : List (AddrM × Int)} (hn : l.length = n) (hk : ∀ p ∈ l, okP p) (h : W.ownsRow B e 18 (.slice A n c) n (pfsV l).flatten) : PfRd W W.heap.size A n l :=
  ⟨RdRow.of_own (by simpa [pfsV] using hn) (fun o ho => by
    obtain ⟨p, hp, rfl⟩ := List.mem_map.1 ho
    exact prefC_length p.1 (hk p hp).1 p.2) h, hk⟩
theorem pref_cellsOf' (a : AddrM) (h : a.ok) (i : Int) : (Tryz.prog.info? 62).map (·.size) = some (prefC a i).length := by
  rw [prefC_length a h]; kernel_rfl
end Go.Proofs.YthebekheejikgaaGreatDoor
namespace Go.Proofs.YthebekheejikgaaGreatDoor
open Go.RowKit

theorem fill_one (n : Nat) (base a : Array Value) (hb : base.size = n) (ha : a.size = n) :
    Instr.fill (fun i => some (i * n, n)) base [(0, .agg a)] = some a := by
  have hA : (a.zipIdx.foldl (fun cs (x : Value × Nat) => cs.setIfInBounds (0 * n + x.2) x.1) base).toList = base.toList.take (0 * n) ++ a.toList ++ base.toList.drop (0 * n + a.size) := by
    have := foldl_set_list (0 * n) a.toList 0 base (by simp; omega)
    rw [← Array.foldl_toList]
    simpa using this
  refine (if_neg (two_tests (fun hne => hne ha) (fun hlt : 0 * n + a.size > base.size => by omega))).trans ?_
  refine congrArg some (Array.ext' (hA.trans ?_))
  have e0 : List.drop (0 * n + a.size) base.toList = [] := List.drop_eq_nil_of_le (by simp; omega)
  rw [e0]
  simp
theorem step_buildOne {P : Program} {w : World} {ops : Array Oper} {o : Oper} {act : Act} {K : Act → World → Prop} {Q : Exit → Act → World → Prop} {E : Prop} (hgd : o.guard = none) (ty e : TypeId) (x : Operand) (ho : o.op = .buildSlice ty 1 #[(0, x)])
    (a : Array Value) (hx : act.eval x = .agg a) (n : Nat) (hu : P.underlying ty = some (.slice e)) (i : TypeInfo) (hi : P.info? e = some i) (hs : i.size = n) (z : Value) (hz : i.zero = some z) (hn0 : 0 < n) (hn1 : n ≤ 1000) (ha : a.size = n)
    (h : K (act.put o.dst (.slice (some ⟨w.heap.size, 0, none⟩) 1 1)) (w.alloc (.cells a e))) : if Region.wanted o (yielded ops act.tmps) = true then Oper.wp P o act w K Q else E := by
  have hw : Region.wanted o (yielded ops act.tmps) = true := by simp [Region.wanted, hgd]
  rw [if_pos hw]
  unfold Oper.wp execOp
  have hf := fun z : Array Value => fill_one n ((Array.range n).map (z[· % z.size]!)) a (by simp) ha
  have h24 : ¬ n > 2 ^ 24 := by omega
  have h20 : ¬ n = 0 := by omega
  simp only [ho, Instr.buildSlice, Sem.run_bind, run_underlying hu, sizeOf, zeroValue, typeInfo, Result.andThen_ok]
  simp [hi, hs, hz, hf, h24, h20, newRow, hx]
  exact h
end Go.Proofs.YthebekheejikgaaGreatDoor
namespace Go.Proofs.YthebekheejikgaaGreatDoor
open Go.RowKit

/-- the address behind i objects of k cells, as the model keeps it -/
def addrK (A : Option Addr) (i c k : Nat) : Option Addr := if c = i then A else A.map (·.add (i * k))
theorem RdRow.behind {W : World} {B k n : Nat} {A : Option Addr} {os : List (List Value)} (h : RdRow W B A k n os) (i c : Nat) (hi : i ≤ n) (hc : n ≤ c) : RdRow W B (addrK A i c k) k (n - i) (os.drop i) := by
  unfold addrK
  rcases Nat.eq_zero_or_pos (n - i) with h0 | h0
  · rw [h0, List.drop_of_length_le (by have := h.1; omega)]
    exact RdRow.nil
  · obtain ⟨b, off, rfl⟩ := h.addr (by omega)
    rw [if_neg (by omega), Option.map_some, Go.WideShapes.add_plain]
    exact h.drop i hi
theorem RdRow.src {W : World} {B k n : Nat} {os : List (List Value)} {ad : Addr} (h : RdRow W B (some ad) k n os) : ∀ j u, os.flatten[j]? = some u → W.cell? (ad.add j) = some u := by
  intro j u hj
  rcases Nat.eq_zero_or_pos n with h0 | h0
  · have : os = [] := List.eq_nil_of_length_eq_zero (by rw [h.1, h0])
    subst this
    simp at hj
  · obtain ⟨b, off, e, _, hc⟩ := h.2.2 h0
    injection e with e
    subst e
    rw [Go.WideShapes.add_plain]
    exact hc j u hj
theorem RdRow.len {W : World} {B k n : Nat} {A : Option Addr} {os : List (List Value)} (h : RdRow W B A k n os) : os.flatten.length = n * k := by rw [flat_length h.2.1, h.1]
theorem run_append_rows_none {P : Program} {w : World} (base : Nat) (t ty e : TypeId) (i : TypeInfo) (size : Nat) (ht : P.underlying t = some (.slice e)) (hi : P.info? e = some i)
    (v : Value) (n c : Nat) (xs : List Value) (hown : w.ownsRow base e size v n xs) :
    (Builtin.append_ #[t, t] ty #[v, .slice none 0 c]).run P w = .ok v w := by
  rcases hown.2 with ⟨rfl, rfl⟩ | ⟨g, cap, cur, rfl, _, _, hnc, _⟩
  · simp [Builtin.append_, run_underlying ht, sizeOf, typeInfo, hi, Builtin.lenOf, Builtin.firstCells]
  · simp [Builtin.append_, run_underlying ht, sizeOf, typeInfo, hi, Builtin.lenOf, Builtin.firstCells, hnc, storeCells]
/-- a row of objects appended to a row of the call's own -/
theorem run_append_rows {P : Program} (w : World) (base : Nat) (t ty e : TypeId) (i : TypeInfo) (z : Value) (size bytes : Nat) (ht : P.underlying t = some (.slice e)) (hi : P.info? e = some i) (hz : i.zero = some z)
    (hsize : i.size = size) (hby : i.bytes = bytes) (hzs : z.cells.size = size) (hsz : 0 < size) (v : Value) (n : Nat) (xs : List Value) (hown : w.ownsRow base e size v n xs)
    (B : Nat) (A : Option Addr) (m c : Nat) (os : List (List Value)) (hr : RdRow w B A size m os) (h1 : ∀ u ∈ os.flatten, u.oneCell' = true) (h63 : n + m ≤ maxLen) (hbytes : (n + m) * bytes ≤ 140737488355328) (hbase : base ≤ w.heap.size) :
    ∃ v' w', (Builtin.append_ #[t, t] ty #[v, .slice A m c]).run P w = .ok v' w' ∧ w'.ownsRow base e size v' (n + m) (xs ++ os.flatten) ∧ w.grownBy w' v.ownBlock ∧ (v'.ownBlock = v.ownBlock ∨ v'.ownBlock = some w.heap.size) := by
  cases A with
  | some ad =>
    obtain ⟨v', w', hrun, r1, r2, _, r4⟩ := run_append_own_at (P := P) w base t ty e i z size bytes ht hi hz hsize hby hzs hsz v n xs hown ad m c os.flatten hr.len hr.src h1 h63 hbytes hbase
    exact ⟨v', w', hrun, r1, r2, r4⟩
  | none =>
    have hm : m = 0 := by
      rcases Nat.eq_zero_or_pos m with h | h
      · exact h
      · obtain ⟨_, _, e⟩ := hr.addr h
        cases e
    subst hm
    have ho : os = [] := List.eq_nil_of_length_eq_zero hr.1
    subst ho
    exact ⟨v, w, run_append_rows_none base t ty e i size ht hi v n c xs hown, by simpa using hown, ⟨rfl, rfl, rfl, Nat.le_refl _, fun _ _ _ => rfl⟩, .inl rfl⟩
theorem wpList_append_rows {P : Program} (w : World) {ops : Array Oper} {rest : List Oper} {o : Oper} {a : Act} {Q : Exit → Act → World → Prop} (hgd : o.guard = none) (s x : Operand) (t : TypeId)
    (ho : o.op = .call { callee := .builtin .append, args := #[s, x], argTypes := #[t, t] })
    (base : Nat) (e : TypeId) (i : TypeInfo) (z : Value) (size bytes : Nat) (ht : P.underlying t = some (.slice e)) (hi : P.info? e = some i) (hz : i.zero = some z) (hsize : i.size = size) (hby : i.bytes = bytes) (hzs : z.cells.size = size) (hsz : 0 < size)
    (v : Value) (n : Nat) (xs : List Value) (hs : a.eval s = v) (hown : w.ownsRow base e size v n xs) (B : Nat) (A : Option Addr) (m c : Nat) (os : List (List Value)) (hx : a.eval x = .slice A m c) (hr : RdRow w B A size m os) (h1 : ∀ u ∈ os.flatten, u.oneCell' = true)
    (h63 : n + m ≤ maxLen) (hbytes : (n + m) * bytes ≤ 140737488355328) (hbase : base ≤ w.heap.size)
    (h : ∀ v' w', w'.ownsRow base e size v' (n + m) (xs ++ os.flatten) → w.grownBy w' v.ownBlock → (v'.ownBlock = v.ownBlock ∨ v'.ownBlock = some w.heap.size) → wpList P ops Q rest (a.put o.dst v') w') : wpList P ops Q (o :: rest) a w := by
  refine wpList_plain hgd fun K hK => ?_
  obtain ⟨v', w', hrun, h2, h3, h4⟩ := run_append_rows (P := P) w base t o.type e i z size bytes ht hi hz hsize hby hzs hsz v n xs hown B A m c os hr h1 h63 hbytes hbase
  unfold Oper.wp execOp
  simp only [ho, resolve, invoke, builtin, Sem.run_bind, Sem.run_pure, Result.andThen_ok, List.map_toArray, List.map_cons, List.map_nil, hs, hx, hrun]
  exact hK _ _ (h v' w' h2 h3 h4)
end Go.Proofs.YthebekheejikgaaGreatDoor
namespace Go.Proofs.YthebekheejikgaaGreatDoor
open Go.RowKit

theorem wpList_buildOne {P : Program} {w : World} {ops : Array Oper} {rest : List Oper} {o : Oper} {act : Act} {Q : Exit → Act → World → Prop} (hgd : o.guard = none) (ty e : TypeId) (x : Operand) (ho : o.op = .buildSlice ty 1 #[(0, x)])
    (a : Array Value) (hx : act.eval x = .agg a) (n : Nat) (hu : P.underlying ty = some (.slice e)) (i : TypeInfo) (hi : P.info? e = some i) (hs : i.size = n) (z : Value) (hz : i.zero = some z) (hn0 : 0 < n) (hn1 : n ≤ 1000) (ha : a.size = n)
    (h : wpList P ops Q rest (act.put o.dst (.slice (some ⟨w.heap.size, 0, none⟩) 1 1)) (w.alloc (.cells a e))) : wpList P ops Q (o :: rest) act w :=
  wpList_step fun _ hK => step_buildOne hgd ty e x ho a hx n hu i hi hs z hz hn0 hn1 ha (hK _ _ h)
theorem setL_all (old cs : List Value) (h : cs.length = old.length) : setL old 0 cs = cs := by
  rw [setL, List.take_zero, List.nil_append, Nat.zero_add, h, List.drop_length, List.append_nil]
theorem take_snoc {α : Type} {l : List α} {j : Nat} {r : α} (h : l[j]? = some r) : l.take (j + 1) = l.take j ++ [r] := by rw [List.take_add_one, h]; rfl
end Go.Proofs.YthebekheejikgaaGreatDoor
namespace Go.Proofs.YthebekheejikgaaGreatDoor
open Go.RowKit

/-- what is asked of a predicate that is handed on, in every world in which what lies below B is as it was -/
def PredB (P : Program) (F : Nat) (lb : Array Value) (p : List Value → Bool) (B : Nat) (w : World) (os : List (List Value)) : Prop :=
  ∀ o ∈ os, ∀ W, Below B w W → Calls P F (#[.agg o.toArray] ++ lb) W fun e W' => e = .returned (.bool (p o)) ∧ Below W.heap.size W W'
theorem PredB.later {P : Program} {F : Nat} {lb : Array Value} {p : List Value → Bool} {B : Nat} {w w1 : World} {os : List (List Value)} (h : PredB P F lb p B w os) (hb : Below B w w1) : PredB P F lb p B w1 os :=
  fun o ho W hW => h o ho W (hb.trans hW)
theorem blk_row {w : World} {g : Nat} {t : TypeId} {k n : Nat} {cs : List (List Value)} {rest : List Value} (h : Blk w g t (cs.flatten ++ rest)) (hk : ∀ o ∈ cs, o.length = k) (hn : cs.length = n) : RdRow w w.heap.size (some ⟨g, 0, none⟩) k n cs :=
  ⟨hn, hk, fun _ => ⟨g, 0, rfl, h.lt, fun j v hj => by
    rw [h.cell, Nat.zero_add, List.getElem?_append_left (List.getElem?_eq_some_iff.1 hj).1]
    exact hj⟩⟩
theorem own_sliceK {w : World} {base e k n : Nat} {v : Value} {xs : List Value} (h : w.ownsRow base e k v n xs) : ∃ A c, v = .slice A n c ∧ n ≤ c ∧ c ≤ maxLen ∧ ∀ ad, A = some ad → base ≤ ad.block := by
  rcases h.2 with ⟨rfl, rfl⟩ | ⟨g, cap, cur, rfl, hb, _, hn, hm, _⟩
  · exact ⟨none, 0, rfl, Nat.le_refl _, by unfold maxLen; omega, fun _ h => by cases h⟩
  · exact ⟨_, _, rfl, hn, hm, fun ad h => by injection h with h; subst h; exact hb⟩
theorem addrK_zero_some (b off c k : Nat) : addrK (some ⟨b, off, none⟩) 0 c k = some ⟨b, off, none⟩ := by
  unfold addrK
  split
  · rfl
  · rw [Option.map_some, Go.WideShapes.add_plain, Nat.zero_mul, Nat.add_zero]
theorem RdRow.ahead {W : World} {B k n : Nat} {A : Option Addr} {os : List (List Value)} (h : RdRow W B A k n os) (i c : Nat) (hi : i ≤ n) : RdRow W B (addrK A 0 c k) k i (os.take i) := by
  rcases Nat.eq_zero_or_pos i with h0 | h0
  · subst h0
    rw [List.take_zero]
    exact RdRow.nil
  · obtain ⟨b, off, rfl⟩ := h.addr (by omega)
    rw [addrK_zero_some]
    exact h.take i hi
end Go.Proofs.YthebekheejikgaaGreatDoor
namespace Go.Proofs.YthebekheejikgaaGreatDoor
open Go.RowKit

end Go.Proofs.YthebekheejikgaaGreatDoor
namespace Go.Proofs.YthebekheejikgaaGreatDoor
open Go.RowKit

/-- all blocks but one are as they were -/
def KeptBut (W W' : World) (g : Nat) : Prop := W.heap.size ≤ W'.heap.size ∧ ∀ k, k < W.heap.size → k ≠ g → W'.heap[k]? = W.heap[k]?
theorem KeptBut.of_grown {W W' : World} {g : Nat} (h : W.grownBy W' (some g)) : KeptBut W W' g := ⟨h.size, fun k hk hne => h.block k hk (by intro e; injection e with e; exact hne e)⟩
theorem KeptBut.of_set {W : World} {g j : Nat} {v : Value} : KeptBut W (W.setCell ⟨g, j, none⟩ v) g := ⟨by simp, fun k _ hne => Below.heap_setCell _ _ _ _ hne⟩
theorem KeptBut.below {W W' W2 : World} {g : Nat} (h : KeptBut W W' g) (hb : Below W'.heap.size W' W2) : KeptBut W W2 g := ⟨Nat.le_trans h.1 hb.size, fun k hk hne => (hb.block k (Nat.lt_of_lt_of_le hk h.1)).trans (h.2 k hk hne)⟩
theorem own_lt {W : World} {base size n : Nat} {e : TypeId} {v : Value} {xs : List Value} (h : W.ownsRow base e size v n xs) {k : Nat} (hk : v.ownBlock = some k) : base ≤ k ∧ k < W.heap.size := by
  rcases h.2 with ⟨rfl, _⟩ | ⟨g, cap, cur, rfl, hb, hg, _⟩
  · cases hk
  · injection hk with hk
    subst hk
    exact ⟨hb, (Array.getElem?_eq_some_iff.1 hg).1⟩
theorem own_kept {W W' : World} {base size n : Nat} {e : TypeId} {v : Value} {xs : List Value} (h : W.ownsRow base e size v n xs) (hk : ∀ k, v.ownBlock = some k → W'.heap[k]? = W.heap[k]?) : W'.ownsRow base e size v n xs :=
  ⟨h.1, by
    rcases h.2 with h1 | ⟨g, cap, cur, hv, hbg, hg, hr⟩
    · exact .inl h1
    · exact .inr ⟨g, cap, cur, hv, hbg, (hk g (by rw [hv]; rfl)).trans hg, hr⟩⟩
def peersV (ps : List PeerM) (vs : List Value) : List (List Value) := List.zipWith PeerM.cells ps vs
/-- the peers and their prefixes, each list in a block of its own -/
def PeersAt (base : Nat) (W : World) (Bs : List Nat) (v : Value) (ps : List PeerM) : Prop :=
  ∃ vs : List Value, vs.length = ps.length ∧ W.ownsRow base 59 85 v ps.length (peersV ps vs).flatten ∧ (∀ (i : Nat) (p : PeerM) (x : Value), ps[i]? = some p → vs[i]? = some x → W.ownsRow base 62 18 x p.al.length (pfsV p.al).flatten) ∧ (v :: vs).filterMap Value.ownBlock = Bs
theorem PeersAt.nil (base : Nat) (W : World) : PeersAt base W [] (.slice none 0 0) [] := ⟨[], rfl, ⟨rfl, .inl ⟨rfl, rfl⟩⟩, by simp, rfl⟩
theorem PeersAt.mem {base : Nat} {W : World} {Bs : List Nat} {v : Value} {ps : List PeerM} (h : PeersAt base W Bs v ps) : ∀ k ∈ Bs, base ≤ k ∧ k < W.heap.size := by
  obtain ⟨vs, hl, h1, h2, rfl⟩ := h
  intro k hk
  obtain ⟨x, hx, hxk⟩ := List.mem_filterMap.1 hk
  rcases List.mem_cons.1 hx with rfl | hx
  · exact own_lt h1 hxk
  · obtain ⟨i, hi, rfl⟩ := List.getElem_of_mem hx
    exact own_lt (h2 i _ _ (List.getElem?_eq_getElem (by omega)) (List.getElem?_eq_getElem hi)) hxk
theorem PeersAt.kept {base : Nat} {W W' : World} {Bs : List Nat} {v : Value} {ps : List PeerM} (h : PeersAt base W Bs v ps) (hk : ∀ k ∈ Bs, W'.heap[k]? = W.heap[k]?) : PeersAt base W' Bs v ps := by
  obtain ⟨vs, hl, h1, h2, rfl⟩ := h
  refine ⟨vs, hl, own_kept h1 fun k e => hk k (List.mem_filterMap.2 ⟨v, List.mem_cons_self .., e⟩), fun i p x hp hx => own_kept (h2 i p x hp hx) fun k e => hk k (List.mem_filterMap.2 ⟨x, List.mem_cons_of_mem _ (List.mem_of_getElem? hx), e⟩), rfl⟩
/-- the names of the section: m lines were read -/
def SeenAt (base gp m : Nat) (Bs : List Nat) (W : World) (mv : Value) : Option (List (List UInt8)) → Prop
  | none => mv = .map none
  | some S => ∃ gm, mv = .map (some gm) ∧ base ≤ gm ∧ gm ≠ gp ∧ gm ∉ Bs ∧ S.length ≤ m ∧ NamesAt Tryz.prog 9 4 W gm S.length S
theorem SeenAt.kept {base gp m : Nat} {Bs : List Nat} {W W' : World} {mv : Value} {o : Option (List (List UInt8))} (h : SeenAt base gp m Bs W mv o) (hk : ∀ k, k < W.heap.size → k ≠ gp → k ∉ Bs → W'.heap[k]? = W.heap[k]?) : SeenAt base gp m Bs W' mv o := by
  cases o with
  | none => exact h
  | some S =>
    obtain ⟨gm, h1, h2, h3, h4, h5, h6⟩ := h
    exact ⟨gm, h1, h2, h3, h4, h5, h6.kept (hk gm h6.lt h3 h4)⟩
theorem SeenAt.mono {base gp m m' : Nat} {Bs : List Nat} {W : World} {mv : Value} {o : Option (List (List UInt8))} (h : SeenAt base gp m Bs W mv o) (hm : m ≤ m') : SeenAt base gp m' Bs W mv o := by
  cases o with
  | none => exact h
  | some S =>
    obtain ⟨gm, h1, h2, h3, h4, h5, h6⟩ := h
    exact ⟨gm, h1, h2, h3, h4, Nat.le_trans h5 hm, h6⟩
def psC (c : ConfM) (line : Nat) (mv v : Value) : List Value := c.cells v ++ [.int .i64 (line : Int), mv]
structure PsAt (base gp m : Nat) (W : World) (s : PsM) (line : Nat) (mv v : Value) (Bs : List Nat) : Prop where
  ok : s.conf.ok
  low : base ≤ gp
  nd : Bs.Nodup
  nin : gp ∉ Bs
  blk : Blk W gp 84 (psC s.conf line mv v)
  peers : PeersAt base W Bs v s.conf.peers
  seen : SeenAt base gp m Bs W mv s.seen
def PsA (base gp m : Nat) (W : World) (s : PsM) (line : Nat) : Prop := ∃ mv v Bs, PsAt base gp m W s line mv v Bs
section
variable {base gp m : Nat} {W W' : World} {s : PsM} {line : Nat} {mv v : Value} {Bs : List Nat}
theorem PsAt.all (h : PsAt base gp m W s line mv v Bs) (hk : ∀ k, k < W.heap.size → W'.heap[k]? = W.heap[k]?) : PsAt base gp m W' s line mv v Bs :=
  ⟨h.ok, h.low, h.nd, h.nin, by
    have := h.blk
    unfold Blk at this ⊢
    rw [hk gp h.blk.lt]
    exact this, h.peers.kept fun k hb => hk k (h.peers.mem k hb).2, h.seen.kept fun k h1 _ _ => hk k h1⟩
theorem PsAt.below (h : PsAt base gp m W s line mv v Bs) (hb : Below W.heap.size W W') : PsAt base gp m W' s line mv v Bs := h.all fun k hk => hb.block k hk
theorem PsA.below (h : PsA base gp m W s line) (hb : Below W.heap.size W W') : PsA base gp m W' s line := by
  obtain ⟨mv, v, Bs, h⟩ := h
  exact ⟨mv, v, Bs, h.below hb⟩
/-- the parser's own block is written -/
theorem PsAt.put (h : PsAt base gp m W s line mv v Bs) (hk : KeptBut W W' gp) {c : ConfM} {line' : Nat} (hc : c.ok) (hp : c.peers = s.conf.peers) (hb : Blk W' gp 84 (psC c line' mv v)) : PsAt base gp m W' ⟨c, s.seen⟩ line' mv v Bs :=
  ⟨hc, h.low, h.nd, h.nin, hb, by rw [hp]; exact h.peers.kept fun k hb => hk.2 k (h.peers.mem k hb).2 (fun e => h.nin (e ▸ hb)), h.seen.kept fun k h1 h2 _ => hk.2 k h1 h2⟩
/-- a new map -/
theorem PsAt.newMap (h : PsAt base gp m W s line mv v Bs) (hw : base ≤ W.heap.size) {gm : Nat} (hgm : gm = W.heap.size) (hk : KeptBut W W' gp) (hn : NamesAt Tryz.prog 9 4 W' gm 0 []) (hb : Blk W' gp 84 (psC s.conf line (.map (some gm)) v)) : PsAt base gp m W' ⟨s.conf, some []⟩ line (.map (some gm)) v Bs :=
  ⟨h.ok, h.low, h.nd, h.nin, hb, h.peers.kept fun k hb => hk.2 k (h.peers.mem k hb).2 (fun e => h.nin (e ▸ hb)), gm, rfl, by omega, by
    have := h.blk.lt
    omega, fun hm => by
    have := (h.peers.mem _ hm).2
    omega, Nat.zero_le _, hn⟩
/-- a name is noted -/
theorem PsAt.note {gm : Nat} {S : List (List UInt8)} {name : List UInt8} (h : PsAt base gp m W s line (.map (some gm)) v Bs) (hs : s.seen = some S) (hk : KeptBut W W' gm) (hn : NamesAt Tryz.prog 9 4 W' gm (S.length + 1) (name :: S)) : PsAt base gp (m + 1) W' ⟨s.conf, some (name :: S)⟩ line (.map (some gm)) v Bs := by
  have hseen := h.seen
  rw [hs] at hseen
  obtain ⟨g', he, h2, h3, h4, h5, h6⟩ := hseen
  injection he with he
  injection he with he
  subst he
  refine ⟨h.ok, h.low, h.nd, h.nin, ?_, h.peers.kept fun k hb => hk.2 k (h.peers.mem k hb).2 (fun e => h4 (e ▸ hb)), gm, rfl, h2, h3, h4, by simpa using h5, hn⟩
  have := h.blk
  unfold Blk at this ⊢
  rw [hk.2 gp h.blk.lt (Ne.symm h3)]
  exact this
end
theorem psC_length {c : ConfM} (h : c.ok) (line : Nat) (mv v : Value) : (psC c line mv v).length = 36 := by
  rw [psC, List.length_append, ConfM.cells_length h]; rfl
theorem psC_at {c : ConfM} (h : c.ok) (line : Nat) (mv v : Value) : (psC c line mv v)[33]? = some v ∧ (psC c line mv v)[34]? = some (.int .i64 (line : Int)) ∧ (psC c line mv v)[35]? = some mv := by
  have hl := ConfM.cells_length h v
  have hp : (c.priv.map u8v).length = 32 := by rw [List.length_map, h.1]
  refine ⟨?_, ?_, ?_⟩
  · rw [psC, List.getElem?_append_left (by omega), ConfM.cells, List.getElem?_append_right (by omega), hp]; rfl
  · rw [psC, List.getElem?_append_right (by omega), hl]; rfl
  · rw [psC, List.getElem?_append_right (by omega), hl]; rfl
theorem psC_port {c : ConfM} (h : c.ok) (line : Nat) (mv v : Value) : (psC c line mv v)[32]? = some (.int .i64 c.port) := by
  have hl := ConfM.cells_length h v
  have hp : (c.priv.map u8v).length = 32 := by rw [List.length_map, h.1]
  rw [psC, List.getElem?_append_left (by omega), ConfM.cells, List.getElem?_append_right (by omega), hp]; rfl
theorem psC_set_line {c : ConfM} (h : c.ok) (line line' : Nat) (mv v : Value) : (psC c line mv v).set 34 (.int .i64 (line' : Int)) = psC c line' mv v := by
  have hl := ConfM.cells_length h v
  rw [psC, List.set_append_right _ _ (by omega), hl]; rfl
theorem psC_set_seen {c : ConfM} (h : c.ok) (line : Nat) (mv mv' v : Value) : (psC c line mv v).set 35 mv' = psC c line mv' v := by
  have hl := ConfM.cells_length h v
  rw [psC, List.set_append_right _ _ (by omega), hl]; rfl
theorem psC_set_port {c : ConfM} (h : c.ok) (line : Nat) (mv v : Value) (q : Int) : (psC c line mv v).set 32 (.int .i64 q) = psC { c with port := q } line mv v := by
  have hl := ConfM.cells_length h v
  have hp : (c.priv.map u8v).length = 32 := by rw [List.length_map, h.1]
  rw [psC, List.set_append_left _ _ (by omega), ConfM.cells, List.set_append_right _ _ (by omega), hp]; rfl
theorem psC_set_priv {c : ConfM} (h : c.ok) (line : Nat) (mv v : Value) (k : List UInt8) (hk : k.length = 32) : setL (psC c line mv v) 0 (k.map u8v) = psC { c with priv := k } line mv v := by
  have hp : (c.priv.map u8v).length = 32 := by rw [List.length_map, h.1]
  have e : psC c line mv v = c.priv.map u8v ++ [.int .i64 c.port, v, .int .i64 (line : Int), mv] := by simp [psC, ConfM.cells]
  rw [setL, e, List.length_map, hk, List.drop_append, hp, List.drop_eq_nil_of_le (by omega)]
  simp [psC, ConfM.cells]
theorem PsAt.seenC {base gp m : Nat} {W : World} {s : PsM} {line : Nat} {mv v : Value} {Bs : List Nat} (h : PsAt base gp m W s line mv v Bs) : W.cell? ⟨gp, 35, none⟩ = some mv := by rw [h.blk.cell]; exact (psC_at h.ok line mv v).2.2
theorem PsAt.lineC {base gp m : Nat} {W : World} {s : PsM} {line : Nat} {mv v : Value} {Bs : List Nat} (h : PsAt base gp m W s line mv v Bs) : W.cell? ⟨gp, 34, none⟩ = some (.int .i64 (line : Int)) := by rw [h.blk.cell]; exact (psC_at h.ok line mv v).2.1
theorem PsAt.peersC {base gp m : Nat} {W : World} {s : PsM} {line : Nat} {mv v : Value} {Bs : List Nat} (h : PsAt base gp m W s line mv v Bs) : W.cell? ⟨gp, 33, none⟩ = some v := by rw [h.blk.cell]; exact (psC_at h.ok line mv v).1
theorem PsAt.portC {base gp m : Nat} {W : World} {s : PsM} {line : Nat} {mv v : Value} {Bs : List Nat} (h : PsAt base gp m W s line mv v Bs) : W.cell? ⟨gp, 32, none⟩ = some (.int .i64 s.conf.port) := by rw [h.blk.cell]; exact psC_port h.ok line mv v
/-- the slice of the peers has as many as there are -/
theorem PsAt.slice {base gp m : Nat} {W : World} {s : PsM} {line : Nat} {mv v : Value} {Bs : List Nat} (h : PsAt base gp m W s line mv v Bs) : ∃ A c, v = .slice A s.conf.peers.length c ∧ s.conf.peers.length ≤ c ∧ c ≤ maxLen := by
  obtain ⟨vs, _, h1, _⟩ := h.peers
  rcases h1.2 with ⟨h2, h3⟩ | ⟨g, cap, cur, h2, _, _, h3, h4, _⟩
  · exact ⟨none, 0, by rw [h2, h3], by omega, Nat.zero_le _⟩
  · exact ⟨_, cap, h2, h3, h4⟩
end Go.Proofs.YthebekheejikgaaGreatDoor
namespace Go.Proofs.YthebekheejikgaaGreatDoor
open Go.Shelf
def idx_ren : Go.Shelf.Ren := ⟨fun | 137 => 173 | 217 => 133 | 266 => 160 | n => n, fun | 9 => 9 | 5 => 5 | 3 => 3 | n => n, fun | n => n⟩
theorem idx_lays : Go.Proofs.Lays.n137 Tryz.prog idx_ren := {
  mixed := by kernel_rfl
  f137 := Tryz.func173.trans (congrArg some (by kernel_rfl))
  f217 := Tryz.func133.trans (congrArg some (by kernel_rfl))
  f266 := Tryz.func160.trans (congrArg some (by kernel_rfl))
  t3 := Tryz.underlying3
  a3 := Tryz.isAgg3
  z3 := Tryz.sizeOf3
  v3 := Tryz.zeroValue3
  t5 := Tryz.underlying5
  a5 := Tryz.isAgg5
  z5 := Tryz.sizeOf5
  v5 := Tryz.zeroValue5
  t9 := Tryz.underlying9
  a9 := Tryz.isAgg9
  z9 := Tryz.sizeOf9
  v9 := Tryz.zeroValue9 }
open Go.RowKit in
theorem indexByte_any (s : ByteArray) (c : Int) (w : World) :
    Calls Tryz.prog 173 #[.string s, .int .u8 c] w fun e w' => e = .returned (.int .i64 (Lib.indexByte s.data.toList c.toNat.toUInt8)) ∧ w' = w := Any.strings_IndexByte idx_lays s c w
end Go.Proofs.YthebekheejikgaaGreatDoor
namespace Go.Proofs.YthebekheejikgaaGreatDoor
open Go.RowKit

set_option maxRecDepth 100000 in
theorem little_any (n : Nat) (_hn : n < 18446744073709551616) (k : Nat) (h1 : 1 ≤ k) (h8 : k ≤ 8) (w : World) :
    Calls Tryz.prog 179 #[.int .u64 n, .int .i64 k] w fun e w' => e = .returned (.slice (some ⟨w.heap.size, 0, none⟩) k k) ∧ w'.ownsRow w.heap.size 5 1 (.slice (some ⟨w.heap.size, 0, none⟩) k k) k ((littleL n k).map u8v) ∧ Below w.heap.size w w' := by
  obtain ⟨i0, hi, hz0, hz1, hz2⟩ := info_parts Tryz.info5
  go_enter Tryz.func179, Tryz.ntmps179
  go_wp2_with (refine wpList_make_full _ rfl (.tmp 13) (.tmp 13) 22 rfl w.heap.size 5 i0 (.int .u8 0) 1 Tryz.underlying22 hi hz0 hz1 .i64 .i64 k k k rfl rfl rfl rfl (by rw [hz2]; omega) (by unfold maxLen; omega) (Nat.le_refl _) ?_; intro w1 hown1 hg1)
  go_loopw [16, 6] (fun i _ wr => ∃ j : Nat, j ≤ k ∧ i = .int .i64 j ∧ wr.ownsRow w.heap.size 5 1 (.slice (some ⟨w.heap.size, 0, none⟩) k k) k ((littleRow n k j).map u8v) ∧ Below w.heap.size w wr) (fun i _ _ => k - (intOf i).toNat)
  case atStart =>
    refine ⟨0, by omega, rfl, ?_, (Below.refl _ _).grown hg1 (Nat.le_refl _) (by simp)⟩
    rw [littleRow_zero, List.map_replicate]
    rw [show (Value.int IntKind.u8 0).cells = #[.int .u8 0] from rfl, toList_madeCells_one, Nat.mul_one] at hown1
    exact hown1
  case round =>
    obtain ⟨j, hj, rfl, hown, hb⟩ := hrel
    by_cases hlt : j < k
    · have hfz := hown.frozenAt j
      have hcl : ∃ u, wr.cell? ⟨w.heap.size, j, none⟩ = some u := by
        rw [hown.cellAt j (by omega)]
        exact ⟨_, List.getElem?_eq_getElem (by rw [hown.1]; omega)⟩
      obtain ⟨u, hcl⟩ := hcl
      obtain ⟨hs1, hs2⟩ := hown.stored j (u8v (byteOf n j))
      have HS := Lib.hid hs1
      clear hs1
      go_wp2
      go_roundw
      case rel =>
        refine ⟨j + 1, by omega, by go_num, ?_, ?_⟩
        · have h := HS.out
          rw [← List.map_set, littleRow_set n k j hlt] at h
          simp only [u8v, byteOf_cast] at h
          exact h
        · exact hb.setCell (Nat.le_refl _) _
      case measure => simp [intOf]; omega
    · obtain rfl : j = k := by omega
      rw [littleRow_end] at hown
      go_wp2
      go_ret
      exact ⟨rfl, hown, hb⟩

end Go.Proofs.YthebekheejikgaaGreatDoor
namespace Go.Proofs.YthebekheejikgaaGreatDoor
open Go.RowKit

set_option maxHeartbeats 400000 in
set_option maxRecDepth 100000 in
theorem reverse_own (B g n cap : Nat) (l : List UInt8) (hn : n ≤ 1000000) (w : World) (hown : w.ownsRow B 5 1 (.slice (some ⟨g, 0, none⟩) n cap) n (l.map u8v)) :
    Calls Tryz.prog 180 #[.slice (some ⟨g, 0, none⟩) n cap] w fun e w' => e = .returned (.tuple #[]) ∧ w'.ownsRow B 5 1 (.slice (some ⟨g, 0, none⟩) n cap) n (l.reverse.map u8v) ∧ w.grownBy w' (some g) := by
  have hl : l.length = n := by simpa using hown.1
  go_enter Tryz.func180, Tryz.ntmps180
  go_wp2
  go_loopw [2, 3] (fun i j wr => ∃ k : Nat, 2 * k ≤ n ∧ i = .int .i64 k ∧ j = .int .i64 ((n : Int) - 1 - k) ∧ wr.ownsRow B 5 1 (.slice (some ⟨g, 0, none⟩) n cap) n ((revRow l k).map u8v) ∧ w.grownBy wr (some g)) (fun i _ _ => n - (intOf i).toNat)
  case atStart => exact ⟨0, by omega, rfl, by simp, by rw [revRow_zero]; exact hown, World.grownBy.refl w _⟩
  case round =>
    obtain ⟨k, hk, rfl, rfl, how, hg⟩ := hrel
    by_cases hlt : (k : Int) < (n : Int) - 1 - k
    · have hfz1 := how.frozenAt k
      have hfz2 := how.frozenAt (n - 1 - k)
      have hc1 := how.cellAt k (by omega)
      have hc2 := how.cellAt (n - 1 - k) (by omega)
      rw [map_u8v_getElem? _ _ (by rw [revRow_length]; omega)] at hc1 hc2
      have HO := Lib.hid how
      clear how
      go_wp2
      go_region
      all_goals
        go_wp2
        go_roundw
        case rel =>
          have h2 := (HO.out.stored k (u8v ((revRow l k).getD (l.length - 1 - k) 0))).1.stored (l.length - 1 - k) (u8v ((revRow l k).getD k 0))
          have h3 := (HO.out.stored k (u8v ((revRow l k).getD (l.length - 1 - k) 0))).2
          rw [← List.map_set, ← List.map_set, revRow_step l k (by omega), getD_lt (by rw [revRow_length]; omega), getD_lt (by rw [revRow_length]; omega)] at h2
          rw [getD_lt (by rw [revRow_length]; omega)] at h3
          simp only [hl, u8v] at h2 h3
          exact ⟨k + 1, by omega, by go_num, by go_num, h2.1.drew, only_drew (grownBy_trans (grownBy_trans hg h3) h2.2)⟩
        case measure => simp [intOf]; omega
    · rw [revRow_end l k (by omega)] at how
      go_wp2
      go_end0
      exact ⟨rfl, by rw [← List.map_reverse]; exact how, hg⟩
end Go.Proofs.YthebekheejikgaaGreatDoor
namespace Go.Proofs.YthebekheejikgaaGreatDoor
open Go.RowKit

set_option maxRecDepth 100000 in
theorem big_any (n : Nat) (hn : n < 18446744073709551616) (k : Nat) (h1 : 1 ≤ k) (h8 : k ≤ 8) (w : World) :
    Calls Tryz.prog 170 #[.int .u64 n, .int .i64 k] w fun e w' => e = .returned (.slice (some ⟨w.heap.size, 0, none⟩) k k) ∧ w'.ownsRow w.heap.size 5 1 (.slice (some ⟨w.heap.size, 0, none⟩) k k) k ((littleL n k).reverse.map u8v) ∧ Below w.heap.size w w' := by
  have L := little_any n hn k h1 h8
  have HL := Lib.hid L
  clear L hn
  go_enter Tryz.func170, Tryz.ntmps170
  go_wp2_with fail
  refine (HL.out _).mono ?_
  rintro e w1 ⟨rfl, hown, hb⟩
  have R := reverse_own w.heap.size w.heap.size k k (littleL n k) (by omega) w1 hown
  have HR := Lib.hid R
  clear R
  go_wp2_with fail
  refine HR.out.mono ?_
  rintro e w2 ⟨rfl, hown2, hg2⟩
  go_wp2_with fail
  go_ret
  exact ⟨rfl, hown2, hb.grown hg2 hb.size (by simp)⟩
set_option maxRecDepth 100000 in
/-- slices.Reverse at nothing -/
theorem reverse_nil (w : World) : Calls Tryz.prog 180 #[.slice none 0 0] w fun e w' => e = .returned (.tuple #[]) ∧ w = w' := by
  go_enter Tryz.func180, Tryz.ntmps180
  go_wp2
  go_loop [2, 3] (fun i j => i = .int .i64 0 ∧ j = .int .i64 (-1)) (fun _ _ => 0)
  case atStart => exact ⟨rfl, rfl⟩
  case round =>
    obtain ⟨rfl, rfl⟩ := hrel
    go_wp2
    go_end0
    exact ⟨rfl, rfl⟩
end Go.Proofs.YthebekheejikgaaGreatDoor
namespace Go.Proofs.YthebekheejikgaaGreatDoor
open Go.RowKit

theorem index_b64 (c : UInt8) (w : World) :
    Calls Tryz.prog 173 #[.string ⟨#[65, 66, 67, 68, 69, 70, 71, 72, 73, 74, 75, 76, 77, 78, 79, 80, 81, 82, 83, 84, 85, 86, 87, 88, 89, 90, 97, 98, 99, 100, 101, 102, 103, 104, 105, 106, 107, 108, 109, 110, 111, 112, 113, 114, 115, 116, 117, 118, 119, 120, 121, 122, 48, 49, 50, 51, 52, 53, 54, 55, 56, 57, 43, 47]⟩, .int .u8 (c.toNat : Int)] w fun e w' => e = .returned (.int .i64 (b64V c)) ∧ w = w' := by
  refine (indexByte_any _ _ w).mono fun e w' ⟨he, hw⟩ => ⟨?_, hw.symm⟩
  rw [he, Int.toNat_natCast]
  congr 2
  have : c.toNat.toUInt8 = c := UInt8.toNat_inj.1 (by simp)
  rw [this]
  rfl

theorem or64_six (n v : Nat) (hn : n < 16777216) (hv : v < 64) : bits BinOp.or IntKind.u64 ((n : Int) * 64) (v : Int) = ((n * 64 + v : Nat) : Int) := by
  have e1 : (n : Int) * 64 = ((n * 64 : Nat) : Int) := by omega
  rw [e1, u64_or_nat _ _ (by omega) (by omega), nat_join 6 _ _ (by omega) (by omega)]

set_option maxHeartbeats 400000 in
theorem readGroup_any (S : ByteArray) (l : List UInt8) (hS : S = ⟨l.toArray⟩) (h4 : l.length = 4) (b : Bool) (G : Nat) (hb : grpOk l = b) (hG : G = if b then grpN l else 0) (w : World) :
    Calls Tryz.prog 169 #[.string S] w fun e w' => e = .returned (.tuple #[.int .u64 (G : Int), .bool b]) ∧ w = w' := by
  have hsz : S.size = 4 := by rw [hS]; simpa [ByteArray.size] using h4
  have hat : ∀ i (h : i < S.size), S[i] = l.getD i 0 := by
    intro i h
    subst hS
    have hi : i < l.length := by simpa [ByteArray.size] using h
    rw [getD_lt hi]
    rfl
  have HAT := Lib.hid hat
  have H4 := Lib.hid h4
  have HB := Lib.hid hb
  have HG := Lib.hid hG
  clear hat hS h4 hb hG
  go_enter Tryz.func169, Tryz.ntmps169
  go_wp2
  go_loop [4, 9] (fun n i => ∃ j : Nat, j ≤ 4 ∧ i = .int .i64 j ∧ n = .int .u64 (grpN (l.take j) : Nat) ∧ Hid ((l.take j).all valid = true)) (fun _ i => 4 - (intOf i).toNat)
  case atStart => exact ⟨0, by omega, rfl, rfl, Lib.hid rfl⟩
  case round =>
    obtain ⟨j, hj, rfl, rfl, hall⟩ := hrel
    by_cases hlt : j < 4
    · obtain ⟨c, hc⟩ : ∃ c, l.getD j 0 = c := ⟨_, rfl⟩
      have hjl : j < l.length := by have := H4.out; omega
      have hI : ∀ h, S[j]'h = c := fun h => by rw [HAT.out, hc]
      have hnext : l.take (j + 1) = l.take j ++ [c] := by rw [List.take_succ_eq_append_getElem hjl, ← hc, getD_lt hjl]
      have HN := Lib.hid hnext
      clear hc hnext
      have hlt3 : grpN (l.take j) < 16777216 := by
        have h := grpN_lt (l.take j)
        have : (64 : Nat) ^ (l.take j).length ≤ 64 ^ 3 := Nat.pow_le_pow_right (by omega) (by rw [List.length_take]; omega)
        omega
      obtain ⟨N, hN⟩ : ∃ N, grpN (l.take j) = N := ⟨_, rfl⟩
      rw [hN] at hlt3 ⊢
      have HNN := Lib.hid hN
      clear hN
      by_cases hv : valid c = true
      · obtain ⟨v, hvv⟩ : ∃ v : Nat, b64V c = (v : Int) := ⟨(b64V c).toNat, by rw [valid_iff] at hv; omega⟩
        have hv64 : v < 64 := by have := b64V_lt c; omega
        have HV := Lib.hid hvv
        have HVD := Lib.hid hv
        have C := index_b64 c
        rw [hvv] at C
        have HC := Lib.hid C
        clear C hvv hv
        have hor := or64_six N v hlt3 hv64
        go_wp2_with fail
        refine (HC.out _).mono ?_
        rintro e w2 ⟨rfl, rfl⟩
        go_wp2_with fail
        go_round
        case rel =>
          refine ⟨j + 1, by omega, by go_num, ?_, Lib.hid ?_⟩
          · rw [HN.out, grpN_concat, HNN.out, HV.out, Int.toNat_natCast]; go_num
          · rw [HN.out, List.all_append, hall.out]; simp [HVD.out]
        case measure => simp [intOf]; omega
      · have hv0 : b64V c < 0 := by
          have : ¬ 0 ≤ b64V c := fun h => hv ((valid_iff c).2 h)
          omega
        have hno : grpOk l = false := by
          unfold grpOk
          rw [← Bool.not_eq_true]
          intro h
          rw [List.all_eq_true] at h
          exact hv (h c (by have : c ∈ l.take (j + 1) := by rw [HN.out]; simp
                            exact List.mem_of_mem_take this))
        obtain rfl : b = false := by rw [← HB.out, hno]
        obtain rfl : G = 0 := by rw [HG.out]; rfl
        have HC := Lib.hid (index_b64 c)
        clear hv hno HB HG
        go_wp2_with fail
        refine (HC.out _).mono ?_
        rintro e w2 ⟨rfl, rfl⟩
        go_wp2
        go_ret2
        exact ⟨rfl, rfl⟩
    · obtain rfl : j = 4 := by omega
      have hl4 : l.take 4 = l := List.take_of_length_le (by have := H4.out; omega)
      have hok : grpOk l = true := by have := hall.out; rwa [hl4] at this
      obtain rfl : b = true := by rw [← HB.out, hok]
      obtain rfl : G = grpN l := by rw [HG.out]; rfl
      rw [hl4]
      clear hok hl4 HB HG
      go_wp2
      go_ret2
      exact ⟨rfl, rfl⟩

def keyA (k : List UInt8) : Array Value := (k.map u8v).toArray
def zeros (n : Nat) : List Value := List.replicate n (.int .u8 0)
theorem zeros_one (n : Nat) : ∀ v ∈ zeros n, v.oneCell' = true := by
  intro v hv
  rw [List.eq_of_mem_replicate hv]
  rfl
theorem zeros_map (n : Nat) : (List.replicate n (0 : UInt8)).map u8v = zeros n := by rw [List.map_replicate]; rfl
theorem zeros_key : keyA (List.replicate 32 0) = (zeros 32).toArray := by unfold keyA; rw [zeros_map]
/-- what a call of ParseKey gives -/
def KeyRes (l : List UInt8) (w : World) (e : Ending) (w' : World) : Prop :=
  (∃ q, parseK l = some q ∧ e = .returned (.tuple #[.agg (keyA q), .int .i64 0]) ∧ Below w.heap.size w w') ∨
  (parseK l = none ∧ e = .returned (.tuple #[.agg (keyA (List.replicate 32 0)), .int .i64 5]) ∧ Below w.heap.size w w')

set_option maxRecDepth 100000 in
set_option maxHeartbeats 1000000 in
theorem parseKey_short (S : ByteArray) (l : List UInt8) (hS : S = ⟨l.toArray⟩) (hn : l.length ≤ 1000000) (h : ¬ l.length = 44) (w : World) :
    Calls Tryz.prog 149 #[.string S] w (KeyRes l w) := by
  have hnone : parseK l = none := by
    unfold parseK
    rw [if_neg]
    rintro ⟨h', _⟩
    exact h h'
  have HNO := Lib.hid hnone
  have hsz : S.size = l.length := by rw [hS]; simp [ByteArray.size]
  have b1 : ¬ (S.size : Int) = 44 := by omega
  have b2 : S.size ≤ 1000000 := by omega
  clear hnone h hsz hS hn
  go_enter Tryz.func149, Tryz.ntmps149
  go_wp2_with (refine wpList_store_blk rfl 24 (.tmp 2) (.tmp 18) rfl w.heap.size (zeros 32) rfl rfl 24 (zeros 32) (Blk.new w 24 (zeros 32)) (by kernel_rfl) rfl (zeros_one 32) ?_; intro w9 hb9 hg9)
  refine bodyPost_ret (results_key rfl _ _ w.heap.size 24 (zeros 32) 32 5 rfl hb9 Tryz.underlying24 (by kernel_rfl)) rfl (.inr ⟨HNO.out, ?_, ?_⟩)
  · rw [zeros_key]; rfl
  · exact below_blk ((Below.refl _ _).alloc (Nat.le_refl _) _) hg9 (Nat.le_refl _)

theorem string_at (S : ByteArray) (l : List UInt8) (hS : S = ⟨l.toArray⟩) : S.size = l.length ∧ ∀ i (h : i < S.size), S[i] = l.getD i 0 := by
  subst hS
  refine ⟨by simp [ByteArray.size], fun i h => ?_⟩
  have hi : i < l.length := by simpa [ByteArray.size] using h
  rw [getD_lt hi]
  rfl

set_option maxRecDepth 100000 in
set_option maxHeartbeats 1000000 in
theorem parseKey_pad (S : ByteArray) (l : List UInt8) (hS : S = ⟨l.toArray⟩) (hn : l.length = 44) (h : ¬ l.getD 43 0 = 61) (w : World) :
    Calls Tryz.prog 149 #[.string S] w (KeyRes l w) := by
  have hnone : parseK l = none := by
    unfold parseK
    rw [if_neg]
    rintro ⟨_, h'⟩
    exact h h'
  have HNO := Lib.hid hnone
  obtain ⟨hsz, hat⟩ := string_at S l hS
  have hs44 : S.size = 44 := by rw [hsz, hn]
  obtain ⟨c, hc⟩ : ∃ c, l.getD 43 0 = c := ⟨_, rfl⟩
  have hI : ∀ h, S[43]'h = c := fun h => by rw [hat, hc]
  have hc61 : ¬ (c.toNat : Int) = 61 := by
    intro e
    apply h
    rw [hc]
    exact UInt8.toNat_inj.1 (by have : (61 : UInt8).toNat = 61 := rfl; omega)
  clear hnone h hsz hS hn hat hc
  go_enter Tryz.func149, Tryz.ntmps149
  go_wp2_with (refine wpList_store_blk rfl 24 (.tmp 2) (.tmp 18) rfl w.heap.size (zeros 32) rfl rfl 24 (zeros 32) (Blk.new w 24 (zeros 32)) (by kernel_rfl) rfl (zeros_one 32) ?_; intro w9 hb9 hg9)
  refine bodyPost_ret (results_key rfl _ _ w.heap.size 24 (zeros 32) 32 5 rfl hb9 Tryz.underlying24 (by kernel_rfl)) rfl (.inr ⟨HNO.out, ?_, ?_⟩)
  · rw [zeros_key]; rfl
  · exact below_blk ((Below.refl _ _).alloc (Nat.le_refl _) _) hg9 (Nat.le_refl _)

def fillRow (D : List UInt8) (g : Nat) : List UInt8 := fill D g ++ List.replicate (33 - 3 * g) 0
theorem key_size : (Tryz.prog.info? 24).map (·.size) = some 32 := by kernel_rfl
theorem fillRow_length (D : List UInt8) (g : Nat) (h : g ≤ 11) : (fillRow D g).length = 33 := by simp [fillRow, fill_length]; omega
theorem fillRow_step (D : List UInt8) (g N : Nat) (h : g < 11) (hN : grpN (grp D g) = N) :
    ((fillRow D g).map u8v).take (g * 3) ++ (bytes3 N).map u8v ++ ((fillRow D g).map u8v).drop (g * 3 + ((bytes3 N).map u8v).length) = (fillRow D (g + 1)).map u8v := by
  have hl := fill_length D g
  have e1 : ((fillRow D g).map u8v).take (g * 3) = (fill D g).map u8v := by
    rw [← List.map_take, fillRow, List.take_append_of_le_length (by omega), List.take_of_length_le (by omega)]
  have e2 : ((fillRow D g).map u8v).drop (g * 3 + ((bytes3 N).map u8v).length) = (List.replicate (33 - 3 * (g + 1)) 0).map u8v := by
    rw [List.length_map, bytes3_length, ← List.map_drop, fillRow, List.drop_append, List.drop_of_length_le (by omega), List.nil_append, List.drop_replicate]
    congr 2
    omega
  rw [e1, e2, fillRow, ← List.map_append, ← List.map_append]
  congr 2
  unfold fill
  rw [flat3_succ, hN]
theorem own_read {w : World} {B g n c : Nat} {l : List UInt8} (h : w.ownsRow B 5 1 (.slice (some ⟨g, 0, none⟩) n c) n (l.map u8v)) : ∀ j v, (l.map u8v)[j]? = some v → w.cell? ((⟨g, 0, none⟩ : Addr).add j) = some v := by
  intro j v hj
  have hlt : j < (l.map u8v).length := (List.getElem?_eq_some_iff.1 hj).1
  rw [Go.WideShapes.add_plain, Nat.zero_add, h.cellAt j (by have := h.1; omega), hj]
/-- the first 32 bytes of the 33 -/
theorem blk_read {w : World} {g t : Nat} {l : List UInt8} {r : List Value} (h : Blk w g t (l.map u8v ++ r)) : ∀ j v, (l.map u8v)[j]? = some v → w.cell? ((⟨g, 0, none⟩ : Addr).add j) = some v := by
  intro j v hj
  have hlt : j < (l.map u8v).length := (List.getElem?_eq_some_iff.1 hj).1
  rw [Go.WideShapes.add_plain, Nat.zero_add, h.cell, List.getElem?_append_left hlt, hj]
theorem digits_string (S : ByteArray) (l : List UInt8) (hS : S = ⟨l.toArray⟩) : S.extract 0 43 ++ ByteArray.extract ⟨#[65, 66, 67, 68, 69, 70, 71, 72, 73, 74, 75, 76, 77, 78, 79, 80, 81, 82, 83, 84, 85, 86, 87, 88, 89, 90, 97, 98, 99, 100, 101, 102, 103, 104, 105, 106, 107, 108, 109, 110, 111, 112, 113, 114, 115, 116, 117, 118, 119, 120, 121, 122, 48, 49, 50, 51, 52, 53, 54, 55, 56, 57, 43, 47]⟩ 0 1 = ⟨(digitsOf l).toArray⟩ := by
  have e2 : ByteArray.extract ⟨#[65, 66, 67, 68, 69, 70, 71, 72, 73, 74, 75, 76, 77, 78, 79, 80, 81, 82, 83, 84, 85, 86, 87, 88, 89, 90, 97, 98, 99, 100, 101, 102, 103, 104, 105, 106, 107, 108, 109, 110, 111, 112, 113, 114, 115, 116, 117, 118, 119, 120, 121, 122, 48, 49, 50, 51, 52, 53, 54, 55, 56, 57, 43, 47]⟩ 0 1 = ⟨#[65]⟩ := by decide +kernel
  subst hS
  rw [e2]
  apply Go.WideShapes.bytes_inj
  rw [Go.Joins.data_append, Lib.extract_data]
  simp [digitsOf]
theorem grp_string (D : ByteArray) (d : List UInt8) (hD : D = ⟨d.toArray⟩) (g : Nat) : D.extract (g * 4) ((g + 1) * 4) = ⟨(grp d g).toArray⟩ := by
  subst hD
  apply Go.WideShapes.bytes_inj
  rw [Lib.extract_data]
  simp [grp]
  congr 1
  omega

set_option maxRecDepth 100000 in
set_option maxHeartbeats 2000000 in
theorem parseKey_main (S : ByteArray) (l : List UInt8) (hS : S = ⟨l.toArray⟩) (hn : l.length = 44) (h : l.getD 43 0 = 61) (w : World) :
    Calls Tryz.prog 149 #[.string S] w (KeyRes l w) := by
  obtain ⟨i0, hi, hz0, hz1, hz2⟩ := info_parts Tryz.info5
  obtain ⟨hsz, hat⟩ := string_at S l hS
  have hs44 : S.size = 44 := by rw [hsz, hn]
  have hI : ∀ h, S[43]'h = 61 := fun _ => by rw [hat, h]
  have HDS := Lib.hid (digits_string S l hS)
  have HN := Lib.hid hn
  have H61 := Lib.hid h
  have HDL := Lib.hid (digits_length l hn)
  clear hS hn h hsz hat
  go_enter Tryz.func149, Tryz.ntmps149
  go_wp2_with fail
  go_region
  generalize hD : S.extract 0 43 ++ _ = D
  have HD := Lib.hid (show D = ⟨(digitsOf l).toArray⟩ by rw [← hD, HDS.out])
  clear hD HDS
  generalize hW : w.alloc _ = W
  have hb1 : Blk W w.heap.size 24 (zeros 32) := by rw [← hW]; exact Blk.new w 24 (zeros 32)
  have hbw0 : Below w.heap.size w W := by rw [← hW]; exact (Below.refl _ _).alloc (Nat.le_refl _) _
  have hsW : w.heap.size + 1 = W.heap.size := by rw [← hW]; simp
  have HsW := Lib.hid hsW
  have hDs : D.size = 44 := by rw [HD.out]; simp [ByteArray.size, HDL.out]
  clear hW hsW
  have hlw : w.heap.size < W.heap.size := by have := HsW.out; omega
  go_wp2_with fail
  generalize hW1 : World.drew _ = W1
  have c1 : Blk W1 w.heap.size 24 (zeros 32) := by rw [← hW1]; exact (hb1.alloc _).drew
  have c2 : Blk W1 W.heap.size 90 (zeros 33) := by rw [← hW1]; exact (Blk.new W 90 (zeros 33)).drew
  have hbw1 : Below w.heap.size w W1 := by rw [← hW1]; exact (hbw0.alloc (by omega) _).drew
  have C1 := Lib.hid c1
  have C2 := Lib.hid c2
  have HBW := Lib.hid hbw1
  clear hW1 c1 c2 hbw1 hb1 hbw0
  go_loopw [23] (fun i wr => ∃ g : Nat, g ≤ 11 ∧ i = .int .i64 g ∧ Hid (allOk (digitsOf l) g = true) ∧ Blk wr W.heap.size 90 ((fillRow (digitsOf l) g).map u8v) ∧ Blk wr w.heap.size 24 (zeros 32) ∧ Below w.heap.size w wr) (fun i _ => 11 - (intOf i).toNat)
  case atStart =>
    refine ⟨0, by omega, rfl, Lib.hid rfl, ?_, C1.out, HBW.out⟩
    have h := C2.out
    have e : (fillRow (digitsOf l) 0).map u8v = zeros 33 := by rw [← zeros_map]; rfl
    rw [e]
    exact h
  case round =>
    obtain ⟨g, hg, rfl, hok, hbF, hbK, hbw⟩ := hrel
    by_cases hlt : g < 11
    · have hgs := grp_string D (digitsOf l) HD.out g
      have hg4 : (grp (digitsOf l) g).length = 4 := by simp [grp, HDL.out]; omega
      obtain ⟨b, hb⟩ : ∃ b, grpOk (grp (digitsOf l) g) = b := ⟨_, rfl⟩
      obtain ⟨N, hN⟩ : ∃ N, N = (if b then grpN (grp (digitsOf l) g) else 0) := ⟨_, rfl⟩
      have HR := Lib.hid (fun w' : World => readGroup_any _ (grp (digitsOf l) g) hgs hg4 b N hb hN w')
      have HBB := Lib.hid hb
      have HNN := Lib.hid hN
      have hN24 : N < 16777216 := by
        rw [hN]
        have := grpN_lt (grp (digitsOf l) g)
        rw [hg4] at this
        split
        · exact this
        · omega
      have s1 : (g : Int) * 4 ≤ ((g : Int) + 1) * 4 := by omega
      have s2 : ((g : Int) + 1) * 4 ≤ 44 := by omega
      have BW := Lib.hid hbw
      clear hgs hg4 hb hN hbw
      rcases b with _ | _
      · have hnone : parseK l = none := by
          unfold parseK
          rw [if_pos ⟨HN.out, H61.out⟩, if_neg]
          rintro ⟨h, _⟩
          unfold allOk at h
          rw [List.all_eq_true] at h
          have := h g (List.mem_range.2 hlt)
          rw [HBB.out] at this
          cases this
        have HNO := Lib.hid hnone
        clear hnone
        go_wp2_with fail
        refine (HR.out _).mono ?_
        rintro e w2 ⟨rfl, rfl⟩
        go_wp2_with (refine wpList_store_blk rfl 24 (.tmp 2) (.tmp 39) rfl w.heap.size (zeros 32) rfl rfl 24 (zeros 32) hbK (by kernel_rfl) rfl (zeros_one 32) ?_; intro w9 hb9 hg9)
        refine bodyPost_ret (results_key rfl _ _ w.heap.size 24 (zeros 32) 32 5 rfl hb9 Tryz.underlying24 (by kernel_rfl)) rfl (.inr ⟨HNO.out, by rw [zeros_key]; rfl, below_blk BW.out hg9 (Nat.le_refl _)⟩)
      · have HB := Lib.hid (big_any N (by omega) 3 (by omega) (by omega))
        have hwr : IntKind.i64.wrap ((g : Int) * 3) = (g : Int) * 3 := IntWalk.i64_in _ (by omega)
        have hsl : ∀ w' : World, (Instr.sliceAt 90 (.pointer (some ⟨W.heap.size, 0, none⟩)) (some (.int .i64 ((g : Int) * 3))) none none).run Tryz.prog w' = .ok (.slice (some ⟨W.heap.size, g * 3, none⟩) (33 - g * 3) (33 - g * 3)) w' :=
          fun w' => run_slice_array_from (P := Tryz.prog) w' 90 5 33 Tryz.underlying90 i0 hi hz1 W.heap.size .i64 (g * 3) ((g : Int) * 3) (by omega) (by omega)
        go_wp2_with fail
        refine (HR.out _).mono ?_
        rintro e w2 ⟨rfl, rfl⟩
        go_wp2_with fail
        refine wp_region_held_drew (S := fun _ => True) (by kernel_rfl) (trivial) (fun hHeld => ?_)
        refine take_first (v := ?_) 0 rfl (by kernel_rfl) (by kernel_rfl) (by kernel_rfl) (fun _ _ _ h => h) (Or.inl ⟨by rfl, ?_⟩) (by assumption) ?_
        rotate_left
        · (intro w hSw; (try dsimp only at hSw); go_simp; try with_reducible rfl)
        (try simp only [Act.put, List.setIfInBounds_toArray, List.set_cons_zero, List.set_cons_succ])
        refine take_first (v := ?_) 1 rfl (by kernel_rfl) (by kernel_rfl) (by kernel_rfl) (fun _ _ _ h => h) (Or.inl ⟨by rfl, ?_⟩) (by assumption) ?_
        rotate_left
        · (intro w hSw; (try dsimp only at hSw); go_simp; try with_reducible rfl)
        (try simp only [Act.put, List.setIfInBounds_toArray, List.set_cons_zero, List.set_cons_succ])
        refine take_first (v := ?_) 2 rfl (by kernel_rfl) (by kernel_rfl) (by kernel_rfl) (fun _ _ _ h => h) (Or.inl ⟨by rfl, ?_⟩) (by assumption) ?_
        rotate_left
        · (intro w hSw; (try dsimp only at hSw); go_simp; try with_reducible rfl)
        (try simp only [Act.put, List.setIfInBounds_toArray, List.set_cons_zero, List.set_cons_succ])
        refine take_first (v := ?_) 3 rfl (by kernel_rfl) (by kernel_rfl) (by kernel_rfl) (fun _ _ _ h => h) (Or.inl ⟨by rfl, ?_⟩) (by assumption) ?_
        rotate_left
        · (intro w hSw; (try dsimp only at hSw); go_simp; try with_reducible rfl)
        (try simp only [Act.put, List.setIfInBounds_toArray, List.set_cons_zero, List.set_cons_succ])
        refine step_one 4 rfl (by kernel_rfl) (fun K hK => ?_)
        go_simp
        refine (HB.out _).mono ?_
        rintro e w3 ⟨rfl, hown3, hbel⟩
        go_wp2_with fail
        refine hK.out _ _ (trivial) (fun hHeld => ?_)
        clear hK K
        (try simp only [Act.put, List.setIfInBounds_toArray, List.set_cons_zero, List.set_cons_succ])
        refine step_one 5 rfl (by kernel_rfl) (fun K hK => ?_)
        refine step_copy_bytes _ rfl (.tmp 42) (.tmp 44) 22 22 (by rfl) 5 Tryz.underlying22 (by kernel_rfl) W.heap.size (g * 3) (33 - g * 3) (33 - g * 3) ⟨wr.heap.size, 0, none⟩ 3 3 (by rfl) (by rfl) ((fillRow (digitsOf l) g).map u8v) 90 (hbF.drew.below hbel hbF.lt) ((bytes3 N).map u8v) (by rw [List.length_map, bytes3_length]; show 3 = min 3 (33 - g * 3); omega) (own_read hown3) (by rw [List.length_map, List.length_map, bytes3_length, fillRow_length _ g hg]; omega) (u8v_one _) ?_
        intro w4 hb4 hg4
        refine hK.out _ _ (trivial) (fun hHeld => ?_)
        clear hK K
        (try simp only [Act.put, List.setIfInBounds_toArray, List.set_cons_zero, List.set_cons_succ])
        refine wpAnyH_done (by kernel_rfl) ?_ _
        have BW4 := Lib.hid (below_blk ((BW.out.drew).trans (hbel.mono BW.out.drew.size)) hg4 (by omega))
        have hbK4 := ((hbK.drew).below hbel hbK.drew.lt).grown hg4 (by simp; omega)
        have hN' : grpN (grp (digitsOf l) g) = N := by rw [HNN.out]; rfl
        rw [fillRow_step (digitsOf l) g N hlt hN'] at hb4
        have HB4 := Lib.hid hb4
        have HK4 := Lib.hid hbK4
        clear hb4 hg4 hbK4 hbel hown3 hHeld hbF hbK hN'
        go_wp2
        go_roundw
        case rel => exact ⟨g + 1, by omega, by go_num, Lib.hid (by rw [allOk_succ, hok.out, HBB.out]; rfl), HB4.out, HK4.out, BW4.out⟩
        case measure => simp [intOf]; omega
    · obtain rfl : g = 11 := by omega
      have hF : fillRow (digitsOf l) 11 = fill (digitsOf l) 11 := by simp [fillRow]
      rw [hF] at hbF
      have hFl := fill_length (digitsOf l) 11
      obtain ⟨x, hx⟩ : ∃ x, (fill (digitsOf l) 11).getD 32 0 = x := ⟨_, rfl⟩
      have hcx : wr.cell? ⟨W.heap.size, 32, none⟩ = some (.int .u8 (x.toNat : Int)) := by
        rw [hbF.cell 32, map_u8v_getElem? _ 32 (by omega), ← hx, getD_lt (by omega)]
      have HX := Lib.hid hx
      have HFL := Lib.hid hFl
      have BW := Lib.hid hbw
      clear hF hFl hx hbw
      by_cases hx0 : x.toNat = 0
      · obtain ⟨q, hq⟩ : ∃ q, (fill (digitsOf l) 11).take 32 = q := ⟨_, rfl⟩
        have hq32 : q.length = 32 := by rw [← hq, List.length_take, HFL.out]; rfl
        have hsome : parseK l = some q := by
          unfold parseK
          rw [if_pos ⟨HN.out, H61.out⟩, if_pos ⟨hok.out, by rw [HX.out]; exact UInt8.toNat_inj.1 (by rw [hx0]; rfl)⟩, hq]
        have HSO := Lib.hid hsome
        have HQ := Lib.hid hq32
        obtain ⟨r, hr⟩ : ∃ r, (fill (digitsOf l) 11).map u8v = q.map u8v ++ r := ⟨((fill (digitsOf l) 11).drop 32).map u8v, by rw [← hq, ← List.map_append, List.take_append_drop]⟩
        rw [hr] at hbF
        have hx0' : (x.toNat : Int) = 0 := by omega
        clear hsome hq hq32 hr hx0
        go_wp2_with fail
        generalize hW5 : wr.alloc _ = W5
        have k1 : Blk W5 wr.heap.size 24 (zeros 32) := by rw [← hW5]; exact Blk.new wr 24 (zeros 32)
        have k2 : Blk W5 W.heap.size 90 (q.map u8v ++ r) := by rw [← hW5]; exact hbF.alloc _
        have k3 : Blk W5 w.heap.size 24 (zeros 32) := by rw [← hW5]; exact hbK.alloc _
        have k4 : Below w.heap.size w W5 := by rw [← hW5]; exact BW.out.alloc (BW.out.size) _
        have hl1 : W.heap.size < wr.heap.size := hbF.lt
        have K1 := Lib.hid k1
        have K2 := Lib.hid k2
        have K3 := Lib.hid k3
        have K4 := Lib.hid k4
        clear hW5 k1 k2 k3 k4 hbF hbK hcx
        refine wp_region_held_drew (S := fun _ => True) (by kernel_rfl) (trivial) (fun hHeld => ?_)
        refine take_first (v := ?_) 0 rfl (by kernel_rfl) (by kernel_rfl) (by kernel_rfl) (fun _ _ _ h => h) (Or.inl ⟨by rfl, ?_⟩) (by assumption) ?_
        rotate_left
        · (intro w hSw; (try dsimp only at hSw); go_simp; try with_reducible rfl)
        (try simp only [Act.put, List.setIfInBounds_toArray, List.set_cons_zero, List.set_cons_succ])
        refine take_first (v := ?_) 1 rfl (by kernel_rfl) (by kernel_rfl) (by kernel_rfl) (fun _ _ _ h => h) (Or.inl ⟨by rfl, ?_⟩) (by assumption) ?_
        rotate_left
        · (intro w hSw; (try dsimp only at hSw); go_simp; try with_reducible rfl)
        (try simp only [Act.put, List.setIfInBounds_toArray, List.set_cons_zero, List.set_cons_succ])
        refine step_one 2 rfl (by kernel_rfl) (fun K hK => ?_)
        refine step_copy_bytes _ rfl (.tmp 51) (.tmp 52) 22 22 (by rfl) 5 Tryz.underlying22 (by kernel_rfl) wr.heap.size 0 32 32 ⟨W.heap.size, 0, none⟩ 33 33 (by rfl) (by rfl) (zeros 32) 24 K1.out.drew (q.map u8v) (by simp [HQ.out]) (blk_read K2.out.drew) (by simp [HQ.out, zeros]) (u8v_one _) ?_
        intro w6 hb6 hg6
        refine hK.out _ _ (trivial) (fun hHeld => ?_)
        clear hK K
        (try simp only [Act.put, List.setIfInBounds_toArray, List.set_cons_zero, List.set_cons_succ])
        refine wpAnyH_done (by kernel_rfl) ?_ _
        have m1 : q.map u8v = (zeros 32).take 0 ++ q.map u8v ++ (zeros 32).drop (0 + (q.map u8v).length) := by simp [HQ.out, zeros]
        rw [← m1] at hb6
        have k5 := (K3.out.drew).grown hg6 (by simp; omega)
        have k6 := Lib.hid (below_blk (K4.out.drew) hg6 (by omega))
        clear hg6 hHeld m1
        go_wp2_with (first | (refine wpList_load_blk rfl 24 (.tmp 9) rfl wr.heap.size rfl 24 (q.map u8v) hb6 32 5 Tryz.underlying24 (by rw [List.length_map, HQ.out]; exact key_size) ?_) | (refine wpList_store_blk rfl 24 (.tmp 2) (.tmp 54) rfl w.heap.size (q.map u8v) rfl rfl 24 (zeros 32) k5 (by rw [List.length_map, HQ.out]; exact key_size) (by simp [HQ.out, zeros]) (u8v_one _) ?_; intro w9 hb9 hg9))
        refine bodyPost_ret (results_key rfl _ _ w.heap.size 24 (q.map u8v) 32 5 rfl hb9 Tryz.underlying24 (by rw [List.length_map, HQ.out]; exact key_size)) rfl (.inl ⟨q, HSO.out, rfl, below_blk k6.out hg9 (Nat.le_refl _)⟩)
      · have hnone : parseK l = none := by
          unfold parseK
          rw [if_pos ⟨HN.out, H61.out⟩, if_neg]
          rintro ⟨_, h⟩
          rw [HX.out] at h
          apply hx0
          rw [h]
          rfl
        have HNO := Lib.hid hnone
        have hx0' : ¬ (x.toNat : Int) = 0 := by omega
        clear hnone hx0
        go_wp2_with (refine wpList_store_blk rfl 24 (.tmp 2) (.tmp 50) rfl w.heap.size (zeros 32) rfl rfl 24 (zeros 32) hbK (by kernel_rfl) rfl (zeros_one 32) ?_; intro w9 hb9 hg9)
        refine bodyPost_ret (results_key rfl _ _ w.heap.size 24 (zeros 32) 32 5 rfl hb9 Tryz.underlying24 (by kernel_rfl)) rfl (.inr ⟨HNO.out, by rw [zeros_key]; rfl, below_blk BW.out hg9 (Nat.le_refl _)⟩)
end Go.Proofs.YthebekheejikgaaGreatDoor
namespace Go.Proofs.YthebekheejikgaaGreatDoor
open Go.RowKit

theorem size32 {n : Nat} (h : n = 32) : (Tryz.prog.info? 24).map (·.size) = some n := by rw [h]; exact key_size
theorem parseKey_any (S : ByteArray) (l : List UInt8) (hS : S = ⟨l.toArray⟩) (hn : l.length ≤ 1000000) (w : World) :
    Calls Tryz.prog 149 #[.string S] w (KeyRes l w) := by
  by_cases h1 : l.length = 44
  · by_cases h2 : l.getD 43 0 = 61
    · exact parseKey_main S l hS h1 h2 w
    · exact parseKey_pad S l hS h1 h2 w
  · exact parseKey_short S l hS hn h1 w
end Go.Proofs.YthebekheejikgaaGreatDoor
namespace Go.Proofs.YthebekheejikgaaGreatDoor
open Go.RowKit

theorem run_eql_agg {P : Program} (ρ : Operand → Value) (o : Oper) (t r : TypeId) (i j : Tmp) (ho : o.op = .binOp .eql t (.tmp i) (.tmp j) r) (u v : Array Value) (b : Bool) (w : World) (hx : ρ (.tmp i) = .agg u) (hy : ρ (.tmp j) = .agg v) (hg : P.eqGuardType P.depth t = false) (he : (Op.equalIn 10000 t (.agg u) (.agg v)).run P w = .ok b w) :
    (execOp ρ o).run P w = .ok (.value (.bool b)) w := by
  have he2 : (Op.equalIn Op.maxDepth t (.agg u) (.agg v)).run P w = .ok b w := he
  unfold execOp
  simp only [ho, hx, hy, eqGuard]
  simp [binOp, Op.equal, he2, hg, Result.andThen]
end Go.Proofs.YthebekheejikgaaGreatDoor
