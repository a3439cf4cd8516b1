/-
  Words of this seat for byte strings in memory: what it is for a slice value to read as a list of bytes, and how that is kept when the world goes on. How the arguments of a law are opened: a byte slice, a fixed array of bytes. Words for arrays of bytes that lie in a block of their own: a whole array stored and loaded, and a function's results of which the first is such an array. Words for a region that draws its order, walked by hand: the condition on the world may be made stronger on the way, so that what a call has made can be read first, too. Words for blocks, slices and the regions that draw their order which the texts of several layers share. Plain mathematics of numbers and their bytes, with no program in sight: the bytes of a number, the number of bytes, and that the one gives the other back. The mathematics of ChaCha20: quarter round, double round, core, block and stream over lists of words and bytes; no function of the program is named here. Words in memory, zero bytes, and what a walk says of slices of the call's own. How the cells of an argument are opened: a fixed array of bytes, a Bool, numbers, a field. The mathematics of the packets in the tunnel: addresses, prefixes, headers. No function of the program is named here. How the cells of an argument are opened: a fixed array of bytes, an address, a prefix. The load of a whole array that lies at an offset inside a block of several. A slice built of two arrays: its block holds the one behind the other. Structs and arrays in memory: loads and stores of a whole one at an offset, and that one is found equal to itself. What a walk keeps of the memory that it has made: a list of entries, the newest first, each of which speaks of blocks of its own. Rows of objects of one size that lie one after the other. No function of the program is named here. How an argument that is a slice of structs is opened. Numbers of 64 bits. A slice built of one part, and the append of one part to a row of the call's own. An object that lies in memory, later. Words for lists of structs that grow by append. Cells that are the parts of a struct one behind the other. No function of the program is named here. Rows of bytes with the same cells. Whether two addresses are equal can be decided. No function of the program is named here. Equality of two objects decides whether their cells are equal. No function of the program is named here. Equality of two structs, as an operation. An address is found equal to itself. Equality of addresses. Building an array of arrays, stated over a list of its parts. The cells of an address. The cells of burrow/api.Bucket. No function of the program is named here. What a walk keeps of what lies under the world's size, whoever made it: a list of facts that whatever is made above leaves alone. Rows of objects: pieces of them, and the append of a row of objects to another one. No function of the program is named here. No statement is proved here.
-/
import Derived.Test.YtpahfckihcbajaaRows
import Derived.WalkKit
import Derived.WalkSpells
import Derived.WalkLawsBesides
import Derived.Lib.Hide
import Derived.Laws.OwnMore
import Derived.Laws.IdiomStrings
import Derived.Deep.Draws
import Derived.Deep.AppendLies
import Derived.Laws.CopyRow
import Derived.Laws.Rows
import Derived.ProofKit
import Derived.OpenShut
import Derived.Laws.Tables
import Derived.Stop.BytesEq
import Derived.Deep.RegionHeld3
import Derived.Below
import Derived.Laws.BitsAllLaws
import Derived.DeepKeys
import Derived.Deep.Slices
import Derived.Maps.AppendAt
import Derived.DeepKeys2
import Derived.Outline
import Derived.Laws.AppendOwnNone
namespace Go.Proofs.Ytpahfckihcbajaa
open Go.RowKit

/-- a byte as a cell -/
def u8v (b : UInt8) : Value := .int .u8 (b.toNat : Int)

/-- the slice value '.slice A n _' reads in w as the bytes l; its array lies below block B -/
def Rd (w : World) (B : Nat) (A : Option Addr) (n : Nat) (l : List UInt8) : Prop :=
  l.length = n ∧ (0 < n → ∃ b off, A = some ⟨b, off, none⟩ ∧ b < B ∧ ∀ j (h : j < l.length), w.cell? ⟨b, off + j, none⟩ = some (.int .u8 (l[j].toNat : Int)))

section
variable {w w' : World} {B B' n : Nat} {A : Option Addr} {l : List UInt8}

theorem Rd.nil (w : World) (B : Nat) (A : Option Addr) : Rd w B A 0 [] := ⟨rfl, fun h => absurd h (by omega)⟩
theorem Rd.keep (h : Rd w B A n l) (hk : ∀ p : Addr, p.block < B → w'.cell? p = w.cell? p) : Rd w' B A n l :=
  ⟨h.1, fun hn => by
    obtain ⟨b, off, e, hb, hc⟩ := h.2 hn
    exact ⟨b, off, e, hb, fun j hj => (hk _ hb).trans (hc j hj)⟩⟩
theorem Rd.mono (h : Rd w B A n l) (hB : B ≤ B') : Rd w B' A n l :=
  ⟨h.1, fun hn => by
    obtain ⟨b, off, e, hb, hc⟩ := h.2 hn
    exact ⟨b, off, e, by omega, hc⟩⟩
theorem Rd.below (h : Rd w B A n l) (hb : Below B w w') : Rd w' B A n l := h.keep fun _ hp => hb.cell hp
theorem Rd.drew (h : Rd w B A n l) : Rd w.drew B A n l := h
theorem Rd.alloc (h : Rd w B A n l) (hB : B ≤ w.heap.size) (o : Obj) : Rd (w.alloc o) B A n l := h.keep fun p hp => World.cell?_alloc_lt w o p (by omega)
/-- what is known inside a round: the address, and the cells -/
theorem Rd.at_ (h : Rd w B A n l) (hn : 0 < n) : ∃ b off, A = some ⟨b, off, none⟩ ∧ b < B ∧ ∀ j (hj : j < l.length), w.cell? ⟨b, off + j, none⟩ = some (.int .u8 (l[j].toNat : Int)) := h.2 hn
/-- a prefix of the same slice -/
theorem Rd.take (h : Rd w B A n l) {m : Nat} (hm : m ≤ n) : Rd w B A m (l.take m) := by
  have h1 := h.1
  refine ⟨by rw [List.length_take]; omega, fun hp => ?_⟩
  obtain ⟨b, off, e, hb, hc⟩ := h.2 (by omega)
  refine ⟨b, off, e, hb, fun j hj => ?_⟩
  rw [List.getElem_take]
  exact hc j _
end

theorem map_u8v_getElem? (l : List UInt8) (j : Nat) (hj : j < l.length) : (l.map u8v)[j]? = some (.int .u8 (l[j].toNat : Int)) := by simp [u8v, hj]

theorem u8v_one (l : List UInt8) : ∀ v ∈ l.map u8v, v.oneCell' = true := by
  intro v hv
  obtain ⟨b, _, rfl⟩ := List.mem_map.1 hv
  rfl

/-- what the call owns reads as the bytes -/
theorem Rd.of_own {w : World} {base n c : Nat} {A : Option Addr} {l : List UInt8} (h : w.ownsRow base 5 1 (.slice A n c) n (l.map u8v)) : Rd w w.heap.size A n l := by
  have hl : l.length = n := by simpa using h.1
  refine ⟨hl, fun hn => ?_⟩
  rcases h.2 with ⟨_, h0⟩ | ⟨g, cap, cur, hv, _, hg, _⟩
  · omega
  · simp only [Value.slice.injEq] at hv
    obtain ⟨rfl, _, rfl⟩ := hv
    refine ⟨g, 0, rfl, ?_, fun j hj => ?_⟩
    · exact ((h.lt g rfl)).2
    · rw [Nat.zero_add, h.cellAt j (by omega)]
      exact map_u8v_getElem? l j hj

/-- what is owned above block 'base' stays owned while only blocks below the heap's size of then are spared -/
theorem own_below {w w' : World} {base e size n : Nat} {v : Value} {xs : List Value} (h : w.ownsRow base e size v n xs) (hb : Below w.heap.size w w') : w'.ownsRow base e size v n xs := by
  refine ⟨h.1, ?_⟩
  rcases h.2 with h1 | ⟨g, cap, cur, rfl, hbg, hg, hr⟩
  · exact .inl h1
  · exact .inr ⟨g, cap, cur, rfl, hbg, (hb.block g (h.lt g rfl).2).trans hg, hr⟩

theorem grownBy_trans {a b c : World} {row : Option Nat} (h : a.grownBy b row) (k : b.grownBy c row) : a.grownBy c row :=
  ⟨k.os.trans h.os, k.tape.trans h.tape, k.output.trans h.output, Nat.le_trans h.size k.size, fun i hi hne => (k.block i (Nat.lt_of_lt_of_le hi h.size) hne).trans (h.block i hi hne)⟩

/-- 'string(b)' of a slice that reads as l -/
theorem run_string_of_rd {P : Program} {w : World} {B n : Nat} {A : Option Addr} {l : List UInt8} (src dst e : TypeId) (cap : Nat) (hs : P.underlying src = some (.slice e)) (he : P.underlying e = some (.int .u8)) (hd : P.underlying dst = some .string)
    (h : Rd w B A n l) : (convert src dst (.slice A n cap)).run P w = .ok (.string ⟨l.toArray⟩) w := by
  obtain ⟨rfl, h2⟩ := h
  rcases A with _ | a
  · have : l = [] := by
      rcases l with _ | ⟨x, l⟩
      · rfl
      · obtain ⟨_, _, h, _⟩ := h2 (by simp)
        cases h
    subst this
    rw [run_convert_bytes_string w src dst e none _ _ hs he hd]
    rfl
  · refine run_convert_bytes_back w src dst e a cap l hs he hd fun j hj => ?_
    obtain ⟨b, off, he, _, hc⟩ := h2 (by omega)
    cases he
    rw [Go.WideShapes.add_plain]
    exact hc j hj

/-- the row that an append may have written lies above base -/
theorem own_from {w : World} {base e size n : Nat} {v : Value} {xs : List Value} (h : w.ownsRow base e size v n xs) : ∀ k, v.ownBlock = some k → base ≤ k := fun k hk => (h.lt k hk).1

/-- block g is the cells cs of type t, none frozen -/
def Blk (w : World) (g : Nat) (t : TypeId) (cs : List Value) : Prop := w.heap[g]? = some (.cells cs.toArray t (0, 0))
theorem Blk.lt {w : World} {g : Nat} {t : TypeId} {cs : List Value} (h : Blk w g t cs) : g < w.heap.size := by
  rcases Nat.lt_or_ge g w.heap.size with hlt | hge
  · exact hlt
  · unfold Blk at h; rw [Array.getElem?_eq_none hge] at h; cases h
theorem Blk.cell {w : World} {g : Nat} {t : TypeId} {cs : List Value} (h : Blk w g t cs) (i : Nat) : w.cell? ⟨g, i, none⟩ = cs[i]? := by
  have := cell_of_row w g i cs.toArray t (0, 0) h
  simpa using this
theorem Blk.frozen {w : World} {g : Nat} {t : TypeId} {cs : List Value} (h : Blk w g t cs) (i : Nat) : w.frozen? ⟨g, i, none⟩ = false := frozen_of_row w g i cs.toArray t h
theorem Blk.new (w : World) (t : TypeId) (cs : List Value) : Blk (w.alloc (.cells cs.toArray t)) w.heap.size t cs := heap_alloc_new w _
theorem Blk.alloc {w : World} {g : Nat} {t : TypeId} {cs : List Value} (h : Blk w g t cs) (o : Obj) : Blk (w.alloc o) g t cs := (Below.heap_alloc w o g h.lt).trans h
theorem Blk.below {w w' : World} {g : Nat} {t : TypeId} {cs : List Value} {B : Nat} (h : Blk w g t cs) (hb : Below B w w') (hg : g < B) : Blk w' g t cs := (hb.block g hg).trans h
theorem Blk.grown {w w' : World} {g : Nat} {t : TypeId} {cs : List Value} {row : Option Nat} (h : Blk w g t cs) (hb : w.grownBy w' row) (hg : some g ≠ row) : Blk w' g t cs := (hb.block g h.lt hg).trans h
theorem Blk.set_ {w : World} {g : Nat} {t : TypeId} {cs : List Value} (h : Blk w g t cs) (i : Nat) (u : Value) : Blk (w.setCell ⟨g, i, none⟩ u) g t (cs.set i u) := by
  unfold Blk at h ⊢
  simp [World.setCell, Array.getElem?_modify, h]
theorem Blk.drew {w : World} {g : Nat} {t : TypeId} {cs : List Value} (h : Blk w g t cs) : Blk w.drew g t cs := h
/-- a stretch of a block of bytes reads as that stretch of the list -/
theorem Blk.rd {w : World} {g : Nat} {t : TypeId} {l : List UInt8} (h : Blk w g t (l.map u8v)) (off n : Nat) (hn : off + n ≤ l.length) : Rd w (g + 1) (some ⟨g, off, none⟩) n ((l.drop off).take n) := by
  have hl : ((l.drop off).take n).length = n := by simp; omega
  refine ⟨hl, fun _ => ⟨g, off, rfl, by omega, fun j hj => ?_⟩⟩
  rw [h.cell, map_u8v_getElem? l (off + j) (by omega)]
  simp

end Go.Proofs.Ytpahfckihcbajaa
namespace Go.Proofs.Ytpahfckihcbajaa
open Go.RowKit Go.ChangeShapes Go.WideShapes Go.ChangeAt

theorem own : ownKnob Try.prog.godebug = none := by kernel_rfl
theorem laidOut : laidOutB Try.prog = true := by kernel_rfl

section
variable {H : Type} {enc : TypeId × Value → H} {P : Program} {W : World}

theorem open_bytes {r : Reach} {b0 : Nat} {t e : TypeId} {v : Value} {d : DataW H} {p : List MemPlace} (ht : P.underlying t = some (.slice e)) (he : P.underlying e = some (.int .u8)) (hc : P.cellsOf e = 1)
    (hv : Value.okWide P W r b0 t v) (h : DataW.Trod enc P W 0 (fun _ => true) true t v d p) :
    ∃ A len cap l, v = .slice A len cap ∧ len ≤ cap ∧ cap ≤ maxLen ∧ Rd W W.heap.size A len l := by
  obtain ⟨A, len, cap, rfl⟩ := okWide_slice ht hv
  obtain ⟨fuel, hf⟩ := h
  rcases open_ints ht he hc hf with ⟨hcs, _⟩ | ⟨x, l, c, zs, hcs, _, hl, hm, hz, _, hcell, hwz⟩
  · simp [Value.cells] at hcs
    obtain ⟨rfl, rfl, rfl⟩ := hcs
    exact ⟨none, 0, 0, [], rfl, Nat.le_refl _, by simp, Rd.nil _ _ _⟩
  · simp [Value.cells] at hcs
    obtain ⟨rfl, rfl, rfl⟩ := hcs
    simp only [if_true] at hz
    have hlen : ((zs.take len).map (fun z => UInt8.ofNat z.toNat)).length = len := by simp; omega
    refine ⟨some x, len, cap, (zs.take len).map (fun z => UInt8.ofNat z.toNat), rfl, hl, hm, hlen, fun hp => ?_⟩
    obtain ⟨b, off, spot⟩ := x
    have h0 := hcell 0 (by omega)
    have hspot : spot = none := by simpa [Addr.add] using World.cell?_spot h0
    subst hspot
    refine ⟨b, off, rfl, by have := World.block_lt_of_cell? W _ h0; simpa [Addr.add] using this, fun j hj => ?_⟩
    have hj' : j < zs.length := by omega
    have hcj := hcell j hj'
    rw [add_plain] at hcj
    have hw := bounds_u8 (hwz zs[j] (List.getElem_mem hj'))
    rw [hcj, List.getElem_map, List.getElem_take]
    have : zs.getD j 0 = zs[j] := by simp [List.getD, hj']
    rw [this, UInt8.toNat_ofNat', Nat.mod_eq_of_lt (by omega)]
    congr 2
    omega

end
end Go.Proofs.Ytpahfckihcbajaa
namespace Go.Proofs.Ytpahfckihcbajaa
open Go.RowKit

end Go.Proofs.Ytpahfckihcbajaa
namespace Go.Proofs.Ytpahfckihcbajaa
open Go.RowKit

theorem getElem?_of_drop {ops : Array Oper} {i : Nat} {o : Oper} {r : List Oper} (h : ops.toList.drop i = o :: r) : ops[i]? = some o := by
  have := List.getElem?_drop (xs := ops.toList) (i := i) (j := 0)
  rw [h] at this
  simpa using this.symm
/-- take an operation first; it is read off the list, written out -/
theorem take_first {P : Program} {md : Region.Mode} {ops : Array Oper} {Q : Exit → Act → World → Prop} {S : World → Prop} {r : List Oper} {oi : Oper} {v : Value} {fuel : Nat} {listed : Array Bool} {a : Act} {w : World} (i : Nat) (hi : ops.toList.drop i = oi :: r)
    (hs : Region.noSelect ops = true) (hf : Region.free md ops listed i = true) (hr : (Region.ready md ops listed).contains i = true)
    (hQ : ∀ c a w, Q (.panic c) (a.put oi.dst v) w → Q (.panic c) a w) (hy : YieldsIf P ops S oi v a) (hS : S w)
    (h : wpAnyH P md ops Q S fuel (listed.setIfInBounds i true) (a.put oi.dst v) w) : wpAnyH P md ops Q S (fuel + 1) listed a w :=
  wpAnyH_take (getElem?_of_drop hi) hs hf hr hQ hy hS h
/-- the one operation that may come up -/
theorem step_one {P : Program} {md : Region.Mode} {ops : Array Oper} {Q : Exit → Act → World → Prop} {S : World → Prop} {r : List Oper} {o : Oper} {fuel : Nat} {listed : Array Bool} {a : Act} {w : World} (i : Nat) (hi : ops.toList.drop i = o :: r)
    (hr : Region.ready md ops listed = [i])
    (h : ∀ K' : Act → World → Prop, Shut (∀ a w, S w → (S w → wpAnyH P md ops Q S fuel (listed.setIfInBounds i true) a w) → K' a w) → if Region.wanted o (yielded ops a.tmps) = true then Oper.wp P o a w K' Q else K' (a.put o.dst undef) w) :
    wpAnyH P md ops Q S (fuel + 1) listed a w :=
  wpAnyH_ready hr (by simp) (AllReadyH.cons (getElem?_of_drop hi) h AllReadyH.nil)
end Go.Proofs.Ytpahfckihcbajaa
namespace Go.Proofs.Ytpahfckihcbajaa
open Go.RowKit

theorem Rd.drop {w : World} {B n : Nat} {A : Option Addr} {l : List UInt8} (h : Rd w B A n l) (m : Nat) (b off : Nat) (hA : A = some ⟨b, off, none⟩) (hm : m ≤ n) : Rd w B (some ⟨b, off + m, none⟩) (n - m) (l.drop m) := by
  have h1 := h.1
  refine ⟨by rw [List.length_drop]; omega, fun hp => ?_⟩
  obtain ⟨b', off', e, hb, hc⟩ := h.2 (by omega)
  rw [hA] at e
  injection e with e
  injection e with e1 e2
  subst e1 e2
  refine ⟨b, off + m, rfl, hb, fun j hj => ?_⟩
  rw [List.length_drop] at hj
  rw [List.getElem_drop, Nat.add_assoc]
  exact hc (m + j) (by omega)
theorem Rd.src {w : World} {B n : Nat} {ad : Addr} {l : List UInt8} (h : Rd w B (some ad) n l) : ∀ j v, (l.map u8v)[j]? = some v → w.cell? (ad.add j) = some v := by
  intro j v hv
  have hj : j < l.length := by simpa using (List.getElem?_eq_some_iff.1 hv).1
  obtain ⟨b, off, he, _, hc⟩ := h.2 (by have := h.1; omega)
  cases he
  rw [Go.WideShapes.add_plain, hc j hj]
  rw [map_u8v_getElem? l j hj] at hv
  exact hv
end Go.Proofs.Ytpahfckihcbajaa
namespace Go.Proofs.Ytpahfckihcbajaa

end Go.Proofs.Ytpahfckihcbajaa
namespace Go.Proofs.Ytpahfckihcbajaa
open Go.RowKit

end Go.Proofs.Ytpahfckihcbajaa
namespace Go.Proofs.Ytpahfckihcbajaa
open Go.RowKit

theorem grown_set {w w' : World} {g : Nat} (h : w.grownBy w' (some g)) (i : Nat) (u : Value) : w.grownBy (w'.setCell ⟨g, i, none⟩ u) (some g) :=
  ⟨h.os, h.tape, h.output, by simpa [World.setCell] using h.size, fun k hk hne => by
    have := h.block k hk hne
    rw [Below.heap_setCell w' ⟨g, i, none⟩ u k (fun e => hne (by simp [e]))]
    exact this⟩

end Go.Proofs.Ytpahfckihcbajaa
namespace Go.Proofs.Ytpahfckihcbajaa
open Go.RowKit Go.ChangeShapes Go.WideShapes Go.ChangeAt

section
variable {H : Type} {enc : TypeId × Value → H} {P : Program} {W : World} {fuel : Nat} {t : TypeId} {cs : List Value} {x : DataW H × List MemPlace}
theorem bytes_cells {n : Nat} {e : TypeId} (ht : P.underlying t = some (.array n e)) (he : P.underlying e = some (.int .u8)) (hc : P.cellsOf e = 1) (hct : P.cellsOf t = n)
    (h : DataW.trod enc P W 0 (fun _ => true) true fuel t cs = some x) : ∃ l : List UInt8, cs = l.map u8v ∧ l.length = n := by
  obtain ⟨xs, m, _, _, hl, hn, hat⟩ := DataW.trod_array ht h
  rw [hct] at hl
  have each : ∀ i (hi : i < n), ∃ b : UInt8, cs[i]'(by omega) = u8v b := by
    intro i hi
    have h1 := hat i hi
    rw [hc, Nat.mul_one, List.getElem?_eq_getElem (by omega)] at h1
    obtain ⟨z, hz, _, hw⟩ := DataW.trod_int he h1
    have hb := bounds_u8 hw
    have h1d : (cs.drop i).take 1 = [cs[i]'(by omega)] := by
      rw [List.drop_eq_getElem_cons (by omega)]
      rfl
    rw [h1d] at hz
    simp only [List.cons.injEq, and_true] at hz
    refine ⟨UInt8.ofNat z.toNat, ?_⟩
    have hz' : cs[i]'(by omega) = .int .u8 z := hz
    rw [hz']
    unfold u8v
    rw [UInt8.toNat_ofNat', Nat.mod_eq_of_lt (by omega)]
    congr 1
    omega
  refine ⟨(List.range n).map fun i => if hi : i < n then (each i hi).choose else 0, ?_, by simp⟩
  refine List.ext_getElem (by simp; omega) fun i h1 h2 => ?_
  have hi : i < n := by omega
  simp only [List.getElem_map, List.getElem_range, dif_pos hi]
  exact (each i hi).choose_spec
theorem bool_cells (ht : P.underlying t = some .bool) (h : DataW.trod enc P W 0 (fun _ => true) true fuel t cs = some x) : ∃ b, cs = [.bool b] := by
  obtain ⟨b, h1, _⟩ := DataW.trod_bool ht h
  exact ⟨b, h1⟩
theorem i64_cells (ht : P.underlying t = some (.int .i64)) (h : DataW.trod enc P W 0 (fun _ => true) true fuel t cs = some x) : ∃ n : Int, cs = [.int .i64 n] ∧ -9223372036854775808 ≤ n ∧ n ≤ 9223372036854775807 := by
  obtain ⟨n, h1, _, hw⟩ := DataW.trod_int ht h
  exact ⟨n, h1, bounds_i64 hw⟩
/-- what a field reads as -/
theorem field_cells {fs : Array Field} (ht : P.underlying t = some (.struct fs)) (h : DataW.trod enc P W 0 (fun _ => true) true fuel t cs = some x) :
    cs.length = P.cellsOf t ∧ ∀ (i : Nat) (ty : TypeId) (off k : Nat), (fs[i]?).map (fun f => (f.type, f.offset)) = some (ty, off) → P.cellsOf ty = k → ∃ n y, DataW.trod enc P W 0 (fun _ => true) true n ty ((cs.drop off).take k) = some y := by
  obtain ⟨xs, n, _, _, hl, hn, hat⟩ := DataW.trod_struct ht h
  refine ⟨hl, fun i ty off k hf hk => ?_⟩
  cases hfi : fs[i]? with
  | none => rw [hfi] at hf; cases hf
  | some f =>
    rw [hfi] at hf
    simp only [Option.map_some, Option.some.injEq, Prod.mk.injEq] at hf
    have h1 := hat i f hfi
    have hi : i < xs.length := by rw [hn]; exact (Array.getElem?_eq_some_iff.1 hfi).1
    rw [List.getElem?_eq_getElem hi, hf.1, hf.2, hk] at h1
    exact ⟨n, _, h1⟩
/-- the cells of a struct, a segment each -/
theorem seg_two (cs : List Value) (a b : Nat) (h : cs.length = a + b) : cs = (cs.drop 0).take a ++ (cs.drop a).take b := by
  rw [List.drop_zero, List.take_of_length_le (l := cs.drop a) (by rw [List.length_drop]; omega), List.take_append_drop]
end
end Go.Proofs.Ytpahfckihcbajaa
namespace Go.Proofs.Ytpahfckihcbajaa
open Go.RowKit

/-- an address: of version 6 or not, and its sixteen bytes -/
structure AddrM where
  six : Bool
  ip : List UInt8
def AddrM.ok (a : AddrM) : Prop := a.ip.length = 16
def AddrM.cells (a : AddrM) : List Value := .bool a.six :: a.ip.map u8v
theorem AddrM.cells_length {a : AddrM} (h : a.ok) : a.cells.length = 17 := by
  rw [AddrM.cells, List.length_cons, List.length_map, h]
def addr0 : AddrM := ⟨false, List.replicate 16 0⟩
theorem addr0_ok : addr0.ok := by simp [AddrM.ok, addr0]
/-- what a packet shows -/
structure InfoM where
  source : AddrM
  dest : AddrM
  len : Nat
def InfoM.ok (i : InfoM) : Prop := i.source.ok ∧ i.dest.ok ∧ i.len ≤ 1000000
def InfoM.cells (i : InfoM) : List Value := i.source.cells ++ (i.dest.cells ++ [.int .i64 (i.len : Int)])
theorem InfoM.cells_length {i : InfoM} (h : i.ok) : i.cells.length = 35 := by
  rw [InfoM.cells, List.length_append, List.length_append, AddrM.cells_length h.1, AddrM.cells_length h.2.1]; rfl
def lessM (a b : AddrM) : Bool := if a.six = b.six then Op.bytesLess a.ip b.ip else !a.six

/-! what Check returns, version by version -/
end Go.Proofs.Ytpahfckihcbajaa
namespace Go.Proofs.Ytpahfckihcbajaa
open Go.RowKit Go.ChangeShapes Go.WideShapes Go.ChangeAt

section
variable {H : Type} {enc : TypeId × Value → H} {P : Program} {W : World} {fuel : Nat} {t : TypeId} {cs : List Value} {x : DataW H × List MemPlace}
end
section
variable {H : Type} {enc : TypeId × Value → H} {W : World} {fuel : Nat} {cs : List Value} {x : DataW H × List MemPlace}
set_option maxRecDepth 100000 in
theorem addr_cells_of (h : DataW.trod enc Try.prog W 0 (fun _ => true) true fuel 35 cs = some x) : ∃ a : AddrM, cs = a.cells ∧ a.ok := by
  obtain ⟨hl, hf⟩ := field_cells Try.underlying35 h
  obtain ⟨n0, y0, h0⟩ := hf 0 4 0 1 rfl (by kernel_rfl)
  obtain ⟨n1, y1, h1⟩ := hf 1 33 1 16 rfl (by kernel_rfl)
  obtain ⟨b, hb⟩ := bool_cells Try.underlying4 h0
  obtain ⟨l, hl1, hll⟩ := bytes_cells Try.underlying33 Try.underlying5 (by kernel_rfl) (by kernel_rfl) h1
  have e2 : Try.prog.cellsOf 35 = 17 := by kernel_rfl
  rw [e2] at hl
  refine ⟨⟨b, l⟩, ?_, hll⟩
  rw [seg_two cs 1 16 hl, hb, hl1]
  rfl
set_option maxRecDepth 100000 in
theorem open_addr {r : Reach} {b0 : Nat} {v : Value} {d : DataW H} {p : List MemPlace} (hv : Value.okWide Try.prog W r b0 35 v) (h : DataW.Trod enc Try.prog W 0 (fun _ => true) true 35 v d p) : ∃ a : AddrM, v = .agg a.cells.toArray ∧ a.ok := by
  simp only [Value.okWide, Try.underlying35] at hv
  obtain ⟨cs, rfl, hsz, _⟩ := hv
  obtain ⟨fuel, hf⟩ := h
  obtain ⟨a, ha, hok⟩ := addr_cells_of hf
  refine ⟨a, ?_, hok⟩
  have hcl : (Value.cells (.agg cs)).toList = cs.toList := rfl
  rw [hcl] at ha
  rw [← ha]
end
end Go.Proofs.Ytpahfckihcbajaa
namespace Go.Proofs.Ytpahfckihcbajaa
open Go.RowKit

/-- row i of a block of rows of n cells -/
theorem Blk.row {w : World} {g : Nat} {t : TypeId} {xs : List Value} (h : Blk w g t xs) (off n : Nat) : ∀ j v, ((xs.drop off).take n)[j]? = some v → w.cell? ⟨g, off + j, none⟩ = some v := fun j v hv => by
  rw [h.cell]
  rw [List.getElem?_take] at hv
  split at hv
  · rwa [List.getElem?_drop] at hv
  · cases hv
end Go.Proofs.Ytpahfckihcbajaa
namespace Go.Proofs.Ytpahfckihcbajaa
open Go.RowKit

theorem foldl_set_list (off : Nat) (xs : List Value) : ∀ (k : Nat) (cs : Array Value), off + k + xs.length ≤ cs.size →
    ((xs.zipIdx k).foldl (fun cs (x : Value × Nat) => cs.setIfInBounds (off + x.2) x.1) cs).toList = cs.toList.take (off + k) ++ xs ++ cs.toList.drop (off + k + xs.length) := by
  induction xs with
  | nil => intro k cs h; simp
  | cons x xs ih =>
    intro k cs h
    rw [List.zipIdx_cons, List.foldl_cons, ih (k + 1) _ (by simp at h ⊢; omega)]
    have hl : off + k < cs.toList.length := by simp at h ⊢; omega
    simp only [Array.toList_setIfInBounds, List.length_cons]
    rw [List.drop_set_of_lt (by omega), show off + (k + 1) = off + k + 1 by omega, List.take_set, List.take_succ_eq_append_getElem hl, List.set_append_right _ _ (by simp; omega)]
    simp [show min (off + k) cs.size = off + k by simp at h; omega, show off + k + 1 + xs.length = off + k + (xs.length + 1) by omega]

theorem two_tests {p q : Prop} [Decidable p] [Decidable q] (hp : ¬p) (hq : ¬q) : ¬(decide p || decide q) = true := by simp [hp, hq]
theorem fill_two (n : Nat) (base a b : Array Value) (hb : base.size = 2 * n) (ha : a.size = n) (hb2 : b.size = n) :
    Instr.fill (fun i => some (i * n, n)) base [(0, .agg a), (1, .agg b)] = some (a ++ b) := by
  have h1 : ∀ (off : Nat) (v cs : Array Value), off + v.size ≤ cs.size → (v.zipIdx.foldl (fun cs (x : Value × Nat) => cs.setIfInBounds (off + x.2) x.1) cs).toList = cs.toList.take off ++ v.toList ++ cs.toList.drop (off + v.size) := by
    intro off v cs h
    have := foldl_set_list off v.toList 0 cs (by simpa using h)
    rw [← Array.foldl_toList]
    simpa using this
  have hA := h1 (0 * n) a base (by omega)
  have hAs : (a.zipIdx.foldl (fun cs (x : Value × Nat) => cs.setIfInBounds (0 * n + x.2) x.1) base).size = 2 * n := by
    rw [← Array.length_toList, hA]; simp; omega
  have hB := h1 (1 * n) b _ (by rw [hAs]; omega)
  refine (if_neg (two_tests (fun hne => hne ha) (fun hlt : 0 * n + a.size > base.size => by omega))).trans ?_
  refine (if_neg (two_tests (fun hne => hne hb2) (fun hlt : 1 * n + b.size > (Array.foldl (fun cs (x : Value × Nat) => cs.setIfInBounds (0 * n + x.2) x.1) base a.zipIdx).size => by rw [hAs] at hlt; omega))).trans ?_
  refine congrArg some (Array.ext' (hB.trans ?_))
  rw [hA]
  have e0 : List.drop (n + n) base.toList = [] := List.drop_eq_nil_of_le (by simp; omega)
  simp [ha, hb2, e0, List.drop_append]
theorem wpList_buildTwo {P : Program} {w : World} {ops : Array Oper} {rest : List Oper} {o : Oper} {act : Act} {Q : Exit → Act → World → Prop} (hgd : o.guard = none) (ty e : TypeId) (x y : Operand) (ho : o.op = .buildSlice ty 2 #[(0, x), (1, y)])
    (a b : Array Value) (hx : act.eval x = .agg a) (hy : act.eval y = .agg b) (n : Nat) (hu : P.underlying ty = some (.slice e)) (i : TypeInfo) (hi : P.info? e = some i) (hs : i.size = n) (z : Value) (hz : i.zero = some z) (hn0 : 0 < n) (hn1 : n ≤ 1000) (ha : a.size = n) (hb : b.size = n)
    (h : wpList P ops Q rest (act.put o.dst (.slice (some ⟨w.heap.size, 0, none⟩) 2 2)) (w.alloc (.cells (a ++ b) e))) : wpList P ops Q (o :: rest) act w :=
  wpList_plain hgd fun K hK => by
    unfold Oper.wp execOp
    have hf := fun z : Array Value => fill_two n ((Array.range (2 * n)).map (z[· % z.size]!)) a b (by simp) ha hb
    have h24 : ¬ 2 * n > 2 ^ 24 := by omega
    have h20 : ¬ 2 * n = 0 := by omega
    simp only [ho, Instr.buildSlice, Sem.run_bind, run_underlying hu, sizeOf, zeroValue, typeInfo, Result.andThen_ok]
    simp [hi, hs, hz, hf, h24, h20, newRow, hx, hy]
    exact hK _ _ h
end Go.Proofs.Ytpahfckihcbajaa
namespace Go.Proofs.Ytpahfckihcbajaa
open Go.RowKit

/-- a struct or an array -/
def isObj (d : TypeDesc) : Bool := match d with | .struct _ | .array _ _ => true | _ => false
/-- the cells at an address -/
def At (w : World) (g off : Nat) (cs : List Value) : Prop := ∀ j v, cs[j]? = some v → w.cell? ⟨g, off + j, none⟩ = some v
theorem Blk.all {w : World} {g : Nat} {t : TypeId} {xs : List Value} (h : Blk w g t xs) : At w g 0 xs := fun j v hv => by
  rw [Nat.zero_add, h.cell]; exact hv
theorem Rd.byt {w : World} {B b off n : Nat} {l : List UInt8} (h : Rd w B (some ⟨b, off, none⟩) n l) (j : Nat) (hj : j < n) : w.cell? ⟨b, off + j, none⟩ = some (.int .u8 ((l.getD j 0).toNat : Int)) := by
  obtain ⟨b', off', e, _, hc⟩ := h.at_ (by omega)
  injection e with e
  injection e with e1 e2
  subst e1
  subst e2
  rw [hc j (by rw [h.1]; exact hj), List.getD_eq_getElem?_getD, List.getElem?_eq_getElem (by rw [h.1]; exact hj)]
  rfl
theorem run_load_obj {P : Program} (w : World) (g off : Nat) (ty : TypeId) (cs : List Value) (hc : At w g off cs) (d : TypeDesc) (hu : P.underlying ty = some d) (hd : isObj d = true) (hi : (P.info? ty).map (·.size) = some cs.length) :
    (loadVar ty ⟨g, off, none⟩).run P w = .ok (.agg cs.toArray) w := by
  have hl := run_loadCells_list (P := P) w ⟨g, off, none⟩ cs (fun j v hv => by
    rw [Go.WideShapes.add_plain]
    exact hc j v hv)
  cases hq : P.info? ty with
  | none => simp [hq] at hi
  | some i =>
    have hs : i.size = cs.length := by simpa [hq] using hi
    have hagg : (isAgg ty).run P w = .ok true w := by
      unfold isAgg
      rw [Sem.run_bind, run_underlying hu w]
      cases d <;> simp_all [isObj]
    simp [loadVar, Sem.run_bind, hagg, sizeOf, typeInfo, hq, hs, hl]
theorem wpList_load_obj {P : Program} {w : World} {ops : Array Oper} {rest : List Oper} {o : Oper} {a : Act} {Q : Exit → Act → World → Prop} (hgd : o.guard = none) (ty : TypeId) (x : Operand) (ho : o.op = .load ty x)
    (g off : Nat) (hx : a.eval x = .pointer (some ⟨g, off, none⟩)) (cs : List Value) (hc : At w g off cs) (d : TypeDesc) (hu : P.underlying ty = some d) (hd : isObj d = true) (hi : (P.info? ty).map (·.size) = some cs.length)
    (h : wpList P ops Q rest (a.put o.dst (.agg cs.toArray)) w) : wpList P ops Q (o :: rest) a w :=
  wpList_plain hgd fun K hK => by
    unfold Oper.wp execOp
    simp only [ho, hx, Instr.loadAt, Instr.sureAddr, Sem.run_bind, Sem.run_pure, Result.andThen_ok, run_load_obj w g off ty cs hc d hu hd hi]
    exact hK _ _ h
theorem yields_load_obj {P : Program} {ops : Array Oper} {S : World → Prop} {o : Oper} {a : Act} (hw : Region.wanted o (yielded ops a.tmps) = true) (ty : TypeId) (x : Operand) (ho : o.op = .load ty x)
    (g off : Nat) (hx : a.eval x = .pointer (some ⟨g, off, none⟩)) (cs : List Value) (hS : ∀ w, S w → At w g off cs) (d : TypeDesc) (hu : P.underlying ty = some d) (hd : isObj d = true) (hi : (P.info? ty).map (·.size) = some cs.length) :
    YieldsIf P ops S o (.agg cs.toArray) a := by
  refine .inl ⟨hw, fun w h => ?_⟩
  unfold execOp
  simp only [ho, hx, Instr.loadAt, Instr.sureAddr, Sem.run_bind, Sem.run_pure, Result.andThen_ok, run_load_obj w g off ty cs (hS w h) d hu hd hi]
/-- what lies at off of a list is replaced -/
def setL {α : Type} (l : List α) (off : Nat) (xs : List α) : List α := l.take off ++ xs ++ l.drop (off + xs.length)
theorem run_store_obj {P : Program} (w : World) (g off : Nat) (t ty : TypeId) (old cs : List Value) (hg : Blk w g t old) (hi : (P.info? ty).map (·.size) = some cs.length) (ho : off + cs.length ≤ old.length) (h1 : ∀ v ∈ cs, v.oneCell' = true) :
    ∃ w', (storeVar ty ⟨g, off, none⟩ (.agg cs.toArray)).run P w = .ok () w' ∧ Blk w' g t (setL old off cs) ∧ w.grownBy w' (some g) := by
  have hst := run_storeCells_at P g off t cs 0 old.toArray w hg (by simpa using ho) h1
  rw [Nat.add_zero] at hst
  refine ⟨w.setRow g (old.toArray.toList.take off ++ cs ++ old.toArray.toList.drop (off + cs.length)).toArray, ?_, ?_, ⟨rfl, rfl, rfl, by simp, fun k _ hk => setRow_other w g k _ (fun e => hk (by simp [e]))⟩⟩
  · cases hq : P.info? ty with
    | none => simp [hq] at hi
    | some i =>
      have hs : cs.length = i.size := by simp [hq] at hi; omega
      simp [storeVar, sizeOf, typeInfo, hq, Value.cells, hs]
      simpa [hs] using hst
  · exact setRow_heap w g old.toArray _ t _ hg
theorem wpList_store_obj {P : Program} {w : World} {ops : Array Oper} {rest : List Oper} {o : Oper} {a : Act} {Q : Exit → Act → World → Prop} (hgd : o.guard = none) (ty : TypeId) (x y : Operand) (ho : o.op = .store ty x y)
    (g off : Nat) (cs : List Value) (hx : a.eval x = .pointer (some ⟨g, off, none⟩)) (hy : a.eval y = .agg cs.toArray)
    (t : TypeId) (old : List Value) (hg : Blk w g t old) (hi : (P.info? ty).map (·.size) = some cs.length) (hold : off + cs.length ≤ old.length) (h1 : ∀ v ∈ cs, v.oneCell' = true)
    (h : ∀ w', Blk w' g t (setL old off cs) → w.grownBy w' (some g) → wpList P ops Q rest (a.put o.dst undef) w') : wpList P ops Q (o :: rest) a w := by
  refine wpList_plain hgd fun K hK => ?_
  obtain ⟨w', hrun, h2, h3⟩ := run_store_obj (P := P) w g off t ty old cs hg hi hold h1
  unfold Oper.wp execOp
  simp only [ho, hx, hy, Instr.storeAt, Instr.sureAddr, Sem.run_bind, Sem.run_pure, Result.andThen_ok, hrun]
  exact hK _ _ (h w' h2 h3)
/-- one result that lies in a block of its own -/
theorem results_obj {P : Program} {fn : Func} {p : Tmp} {ty : TypeId} (h : fn.results = #[.cell p ty]) (tmps : Array Value) (w : World) (g : Nat) (t : TypeId) (cs : List Value) (d : TypeDesc)
    (hp : tmps.getD p undef = .pointer (some ⟨g, 0, none⟩)) (hg : Blk w g t cs) (hu : P.underlying ty = some d) (hd : isObj d = true) (hi : (P.info? ty).map (·.size) = some cs.length) :
    (results fn tmps).run P w = .ok (.agg cs.toArray) w := by
  refine results_cell_row h tmps w g t cs.toArray (0, 0) d hp hg hu ?_ (by simpa using hi)
  cases d <;> simp_all [isObj]
/-! ### a struct or an array that is built of parts: zs are the zero parts, one behind the other -/
theorem yields_build_obj {P : Program} {ops : Array Oper} {S : World → Prop} {o : Oper} {a : Act} (hw : Region.wanted o (yielded ops a.tmps) = true) (t : TypeId) (parts : List (Nat × Operand)) (ho : o.op = .build t parts.toArray) (v : Array Value)
    (hb : P.built t (parts.map fun p => (p.1, a.eval p.2)) = some v) : YieldsIf P ops S o (.agg v) a := by
  refine Or.inl ⟨hw, fun w _ => ?_⟩
  have e : (parts.toArray.map fun (i, x) => (i, a.eval x)).toList = parts.map fun p => (p.1, a.eval p.2) := by simp
  have hr := run_build (P := P) w t (parts.toArray.map fun (i, x) => (i, a.eval x)) v (by rw [e]; exact hb)
  simp only [execOp, ho, Sem.run_bind, hr, Result.andThen_ok, Sem.run_pure]
theorem fill_seg (place : Nat → Option (Nat × Nat)) (segs : List (List Value)) (i : Nat) (hi : i < segs.length) (v : Value) (rest : List (Nat × Value)) (hp : place i = some ((segs.take i).flatten.length, segs[i].length)) (hv : v.cells.size = segs[i].length) :
    Instr.fill place segs.flatten.toArray ((i, v) :: rest) = Instr.fill place (segs.set i v.cells.toList).flatten.toArray rest := by
  have hs : segs = segs.take i ++ (segs[i] :: segs.drop (i + 1)) := by rw [← List.drop_eq_getElem_cons hi, List.take_append_drop]
  have hfl : segs.flatten = (segs.take i).flatten ++ (segs[i] ++ (segs.drop (i + 1)).flatten) := by
    conv => lhs; rw [hs]
    rw [List.flatten_append, List.flatten_cons]
  have hA := foldl_set_list (segs.take i).flatten.length v.cells.toList 0 segs.flatten.toArray (by rw [hfl]; simp [hv])
  simp only [Instr.fill, hp]
  refine (if_neg (two_tests (fun hne => hne hv) (fun hlt : (segs.take i).flatten.length + v.cells.size > segs.flatten.toArray.size => by rw [hfl] at hlt; simp [hv] at hlt; omega))).trans ?_
  congr 1
  apply Array.ext'
  rw [← Array.foldl_toList]
  simp only [Array.toList_zipIdx]
  rw [hA]
  have hset : (segs.set i v.cells.toList).flatten = (segs.take i).flatten ++ (v.cells.toList ++ (segs.drop (i + 1)).flatten) := by
    rw [List.set_eq_take_append_cons_drop, if_pos hi, List.flatten_append, List.flatten_cons]
  have hl : v.cells.toList.length = segs[i].length := by rw [Array.length_toList, hv]
  rw [hset]
  simp only [Nat.add_zero]
  rw [hfl, List.take_left, hl, ← List.drop_drop, List.drop_left, List.drop_left, List.append_assoc]
theorem sum_len : ∀ l : List (List Value), l.flatten.length = (l.map List.length).sum
  | [] => rfl
  | x :: l => by rw [List.flatten_cons, List.length_append, sum_len l, List.map_cons, List.sum_cons]
theorem fill_segs (place : Nat → Option (Nat × Nat)) (lens : List Nat) (hp : ∀ i, (h : i < lens.length) → place i = some ((lens.take i).sum, lens[i])) : ∀ (parts : List (Nat × Value)) (segs : List (List Value)), segs.map List.length = lens → (∀ p ∈ parts, lens[p.1]? = some p.2.cells.size) →
    Instr.fill place segs.flatten.toArray parts = some (parts.foldl (fun s p => s.set p.1 p.2.cells.toList) segs).flatten.toArray
  | [], segs, _, _ => rfl
  | (i, v) :: parts, segs, hl, hc => by
    have h0 := hc (i, v) (by simp)
    obtain ⟨hi, he⟩ := List.getElem?_eq_some_iff.1 h0
    have hi2 : i < segs.length := by rw [← hl, List.length_map] at hi; exact hi
    have hsi : segs[i].length = lens[i] := by subst hl; simp
    rw [fill_seg place segs i hi2 v parts (by rw [hp i hi, sum_len, List.map_take, hl, hsi]) (by rw [hsi, he])]
    rw [fill_segs place lens hp parts (segs.set i v.cells.toList) (by
      rw [List.map_set, hl, Array.length_toList]
      apply List.ext_getElem?
      intro j
      rw [List.getElem?_set]
      split
      · rename_i hj; subst hj; exact h0.symm
      · rfl) (fun p hp' => hc p (by simp [hp'])), List.foldl_cons]
/-- what is built: the parts in place of the zero ones -/
theorem built_of {P : Program} (t : TypeId) (lens : List Nat) (zs : List (List Value)) (hz : zs.map List.length = lens) (places : Array (Nat × Nat)) (hb : ∀ parts, P.built t parts = Instr.fill (places[·]?) zs.flatten.toArray parts) (hp : ∀ i, (h : i < lens.length) → places[i]? = some ((lens.take i).sum, lens[i])) (parts : List (Nat × Value)) (hc : ∀ p ∈ parts, lens[p.1]? = some p.2.cells.size) :
    P.built t parts = some (parts.foldl (fun s p => s.set p.1 p.2.cells.toList) zs).flatten.toArray := by
  rw [hb, fill_segs _ lens hp parts zs hz hc]
/-! ### equality -/
section
variable {P : Program}
def LitsAt (P : Program) (D : Nat) (t : TypeId) (cs : List Value) : Prop := ∃ ls, P.keyLits D t cs = some ls
theorem mapM_some' {α β : Type} {f : α → Option β} : ∀ (l : List α), (∀ a ∈ l, ∃ b, f a = some b) → ∃ bs, l.mapM f = some bs
  | [], _ => ⟨[], rfl⟩
  | a :: l, h => by
    obtain ⟨b, hb⟩ := h a (by simp)
    obtain ⟨bs, hbs⟩ := mapM_some' l fun x hx => h x (by simp [hx])
    exact ⟨b :: bs, by simp [hb, hbs]⟩
theorem lits_bool {D : Nat} {t : TypeId} (h : P.underlying t = some .bool) (b : Bool) : LitsAt P (D + 1) t [.bool b] :=
  ⟨[.bool b], by unfold Program.keyLits; simp only [h]⟩
theorem lits_int {D : Nat} {t : TypeId} {k : IntKind} (h : P.underlying t = some (.int k)) (n : Int) (hn : k.min ≤ n ∧ n ≤ k.max) : LitsAt P (D + 1) t [.int k n] :=
  ⟨[.int k n], by unfold Program.keyLits; simp only [h]; simp [Lit.wf, hn.1, hn.2]⟩
theorem lits_array {D : Nat} {t e : TypeId} {n m : Nat} (h : P.underlying t = some (.array n e)) (he : P.cellsOf e = m) (cs : List Value) (hl : P.cellsOf t = cs.length) (hc : ∀ i, i < n → LitsAt P D e ((cs.drop (i * m)).take m)) : LitsAt P (D + 1) t cs := by
  unfold LitsAt Program.keyLits
  simp only [h]
  subst he
  obtain ⟨bs, hbs⟩ := mapM_some' (f := fun i => P.keyLits D e ((cs.drop (i * P.cellsOf e)).take (P.cellsOf e))) (List.range n) fun i hi => hc i (List.mem_range.1 hi)
  rw [if_pos hl.symm, hbs]
  exact ⟨bs.flatten, rfl⟩
theorem lits_bytes {D : Nat} {t e : TypeId} {n : Nat} (h : P.underlying t = some (.array n e)) (hu : P.underlying e = some (.int .u8)) (he : P.cellsOf e = 1) (l : List UInt8) (hl : l.length = n) (ht : P.cellsOf t = n) : LitsAt P (D + 2) t (l.map u8v) := by
  refine lits_array h he (l.map u8v) (by rw [List.length_map, hl, ht]) (fun i hi => ?_)
  rw [Nat.mul_one, List.drop_eq_getElem_cons (by simpa [hl] using hi)]
  simp only [List.take_succ_cons, List.take_zero, List.getElem_map]
  have := (l[i]'(by omega)).toNat_lt
  exact lits_int hu _ ⟨by simp [IntKind.min, IntKind.signed], by simp [IntKind.max, IntKind.signed, IntKind.bits]; omega⟩
theorem lits_struct {D : Nat} {t : TypeId} {fs : Array Field} (h : P.underlying t = some (.struct fs)) (cs : List Value) (hl : P.cellsOf t = cs.length) (hn : fs.all (·.name != "_") = true) (hc : ∀ f ∈ fs.toList, LitsAt P D f.type ((cs.drop f.offset).take (P.cellsOf f.type))) : LitsAt P (D + 1) t cs := by
  unfold LitsAt Program.keyLits
  simp only [h]
  obtain ⟨bs, hbs⟩ := mapM_some' (f := fun f : Field => P.keyLits D f.type ((cs.drop f.offset).take (P.cellsOf f.type))) fs.toList hc
  rw [if_pos ⟨hl.symm, hn⟩, hbs]
  exact ⟨bs.flatten, rfl⟩
end
end Go.Proofs.Ytpahfckihcbajaa
namespace Go.Proofs.Ytpahfckihcbajaa
open Go.RowKit

/-- a fact that speaks of the blocks from lo to hi only -/
structure Ent where
  lo : Nat
  hi : Nat
  P : World → Prop
  loc : ∀ W W' : World, (∀ k, lo ≤ k → k < hi → W'.heap[k]? = W.heap[k]?) → P W → P W'
/-- a block -/
def blkE (g : Nat) (t : TypeId) (cs : List Value) : Ent := ⟨g, g + 1, fun W => Blk W g t cs, fun W W' h hp => by
  unfold Blk at *
  rw [h g (Nat.le_refl _) (by omega)]
  exact hp⟩
/-- bytes that lie somewhere from lo to hi -/
def RdIn (lo hi : Nat) (A : Option Addr) (n : Nat) (l : List UInt8) (W : World) : Prop :=
  l.length = n ∧ (0 < n → ∃ b off, A = some ⟨b, off, none⟩ ∧ lo ≤ b ∧ b < hi ∧ ∀ j (h : j < l.length), W.cell? ⟨b, off + j, none⟩ = some (.int .u8 (l[j].toNat : Int)))
def rdE (lo hi : Nat) (A : Option Addr) (n : Nat) (l : List UInt8) : Ent := ⟨lo, hi, RdIn lo hi A n l, fun W W' h hp => ⟨hp.1, fun hn => by
  obtain ⟨b, off, e, h1, h2, hc⟩ := hp.2 hn
  exact ⟨b, off, e, h1, h2, fun j hj => (World.cell?_of_block (w := W) (h b h1 h2)).trans (hc j hj)⟩⟩⟩
theorem RdIn.rd {lo hi : Nat} {A : Option Addr} {n : Nat} {l : List UInt8} {W : World} (h : RdIn lo hi A n l W) : Rd W hi A n l :=
  ⟨h.1, fun hn => by
    obtain ⟨b, off, e, _, h2, hc⟩ := h.2 hn
    exact ⟨b, off, e, h2, hc⟩⟩
/-- the entries, each above the one behind it in the list -/
def MemE (b : Nat) : List Ent → Nat → World → Prop
  | [], top, _ => b ≤ top
  | e :: r, top, W => e.hi ≤ top ∧ e.lo ≤ e.hi ∧ e.P W ∧ MemE b r e.lo W
def Mem (w0 : World) (E : List Ent) (W : World) : Prop := MemE w0.heap.size E W.heap.size W ∧ Below w0.heap.size w0 W
theorem MemE.base {b : Nat} : ∀ {E : List Ent} {top : Nat} {W : World}, MemE b E top W → b ≤ top
  | [], _, _, h => h
  | _ :: _, _, _, h => Nat.le_trans (MemE.base h.2.2.2) (Nat.le_trans h.2.1 h.1)
theorem MemE.keep {b : Nat} : ∀ {E : List Ent} {top top' : Nat} {W W' : World}, MemE b E top W → top ≤ top' → (∀ k, b ≤ k → k < top → W'.heap[k]? = W.heap[k]?) → MemE b E top' W'
  | [], _, _, _, _, h, ht, _ => Nat.le_trans h ht
  | e :: _, _, _, W, W', h, ht, hk => ⟨Nat.le_trans h.1 ht, h.2.1, e.loc W W' (fun k h1 h2 => hk k (Nat.le_trans (MemE.base h.2.2.2) h1) (Nat.lt_of_lt_of_le h2 h.1)) h.2.2.1, MemE.keep h.2.2.2 (Nat.le_refl _) (fun k h1 h2 => hk k h1 (Nat.lt_of_lt_of_le h2 (Nat.le_trans h.2.1 h.1)))⟩
theorem MemE.get {b : Nat} : ∀ {E : List Ent} {top : Nat} {W : World}, MemE b E top W → ∀ (i : Nat) (e : Ent), E[i]? = some e → e.P W
  | [], _, _, _, i, _, he => by simp at he
  | x :: r, _, _, h, 0, e, he => by
    have : x = e := by simpa using he
    exact this ▸ h.2.2.1
  | x :: r, _, _, h, i + 1, e, he => MemE.get h.2.2.2 i e (by simpa using he)
/-- a place of the list is written anew, within its own blocks -/
theorem MemE.put {b : Nat} : ∀ {E : List Ent} {top : Nat} {W W' : World}, MemE b E top W → ∀ (i : Nat) (e e' : Ent), E[i]? = some e → e'.lo = e.lo → e'.hi = e.hi → (∀ k, k < top → ¬(e.lo ≤ k ∧ k < e.hi) → W'.heap[k]? = W.heap[k]?) → e'.P W' → MemE b (E.set i e') top W'
  | [], _, _, _, _, i, _, _, he, _, _, _, _ => by simp at he
  | x :: r, top, W, W', h, 0, e, e', he, h1, h2, hk, hp => by
    have hx : x = e := by simpa using he
    subst hx
    refine ⟨by rw [h2]; exact h.1, by rw [h1, h2]; exact h.2.1, hp, ?_⟩
    rw [h1]
    exact MemE.keep h.2.2.2 (Nat.le_refl _) (fun k _ hlt => hk k (Nat.lt_of_lt_of_le hlt (Nat.le_trans h.2.1 h.1)) (fun hh => by omega))
  | x :: r, top, W, W', h, i + 1, e, e', he, h1, h2, hk, hp => by
    have he' : r[i]? = some e := by simpa using he
    have hin : e.hi ≤ x.lo := MemE.under h.2.2.2 i e he'
    exact ⟨h.1, h.2.1, x.loc W W' (fun k h3 h4 => hk k (Nat.lt_of_lt_of_le h4 h.1) (fun hh => by omega)) h.2.2.1, MemE.put h.2.2.2 i e e' he' h1 h2 (fun k hlt => hk k (Nat.lt_of_lt_of_le hlt (Nat.le_trans h.2.1 h.1))) hp⟩
where
  MemE.under {b : Nat} : ∀ {E : List Ent} {top : Nat} {W : World}, MemE b E top W → ∀ (i : Nat) (e : Ent), E[i]? = some e → e.hi ≤ top
  | [], _, _, _, i, _, he => by simp at he
  | x :: r, _, _, h, 0, e, he => by
    have : x = e := by simpa using he
    exact this ▸ h.1
  | x :: r, _, _, h, i + 1, e, he => Nat.le_trans (MemE.under h.2.2.2 i e (by simpa using he)) (Nat.le_trans h.2.1 h.1)
theorem MemE.low {b : Nat} : ∀ {E : List Ent} {top : Nat} {W : World}, MemE b E top W → ∀ (i : Nat) (e : Ent), E[i]? = some e → b ≤ e.lo
  | [], _, _, _, i, _, he => by simp at he
  | x :: r, _, _, h, 0, e, he => by
    have : x = e := by simpa using he
    exact this ▸ MemE.base h.2.2.2
  | x :: r, _, _, h, i + 1, e, he => MemE.low h.2.2.2 i e (by simpa using he)

section
variable {w0 W W' : World} {E : List Ent}
theorem Mem.nil (w0 : World) : Mem w0 [] w0 := ⟨Nat.le_refl _, Below.refl _ _⟩
theorem Mem.bel (h : Mem w0 E W) : Below w0.heap.size w0 W := h.2
theorem Mem.size (h : Mem w0 E W) : w0.heap.size ≤ W.heap.size := h.2.size
theorem Mem.get (h : Mem w0 E W) (i : Nat) {e : Ent} (he : E[i]? = some e) : e.P W := h.1.get i e he
theorem Mem.blk (h : Mem w0 E W) (i : Nat) {g : Nat} {t : TypeId} {cs : List Value} (he : E[i]? = some (blkE g t cs)) : Blk W g t cs := h.1.get i _ he
theorem Mem.rd (h : Mem w0 E W) (i : Nat) {lo hi : Nat} {A : Option Addr} {n : Nat} {l : List UInt8} (he : E[i]? = some (rdE lo hi A n l)) : Rd W W.heap.size A n l :=
  (RdIn.rd (h.1.get i _ he)).mono (MemE.put.MemE.under h.1 i _ he)
theorem Mem.below (h : Mem w0 E W) (hb : Below W.heap.size W W') : Mem w0 E W' := ⟨h.1.keep hb.size (fun k _ hk => hb.block k hk), h.2.trans (hb.mono h.2.size)⟩
theorem Mem.drew (h : Mem w0 E W) : Mem w0 E W.drew := h.below ((Below.refl _ _).drew)
theorem Mem.alloc (h : Mem w0 E W) {g : Nat} (hg : g = W.heap.size) (t : TypeId) (arr : Array Value) (cs : List Value) (ha : arr = cs.toArray) : Mem w0 (blkE g t cs :: E) (W.alloc (.cells arr t)) := by
  subst hg ha
  have hb : Below W.heap.size W (W.alloc (.cells cs.toArray t)) := (Below.refl _ _).alloc (Nat.le_refl _) _
  refine ⟨⟨?_, Nat.le_succ _, Blk.new W t cs, h.1.keep (Nat.le_refl _) (fun k _ hk => hb.block k hk)⟩, h.2.trans (hb.mono h.2.size)⟩
  show W.heap.size + 1 ≤ _
  simp
/-- what a call returns -/
theorem Mem.call (h : Mem w0 E W) (hb : Below W.heap.size W W') (e : Ent) (hl : e.lo = W.heap.size) (hh : e.hi = W'.heap.size) (hp : e.P W') : Mem w0 (e :: E) W' :=
  ⟨⟨by rw [hh]; exact Nat.le_refl _, by rw [hl, hh]; exact hb.size, hp, by rw [hl]; exact h.1.keep (Nat.le_refl _) (fun k _ hk => hb.block k hk)⟩, h.2.trans (hb.mono h.2.size)⟩
/-- a store into one block of the list -/
theorem Mem.put (h : Mem w0 E W) (i : Nat) {g : Nat} {t : TypeId} {cs : List Value} (he : E[i]? = some (blkE g t cs)) (cs' : List Value) (hg : W.grownBy W' (some g)) (hb : Blk W' g t cs') : Mem w0 (E.set i (blkE g t cs')) W' := by
  have hsz := hg.size
  refine ⟨(MemE.put h.1 i _ (blkE g t cs') he rfl rfl (fun k hk hne => hg.block k hk (fun e => hne ?_)) hb).keep hg.size (fun _ _ _ => rfl), ?_⟩
  · injection e with e
    subst e
    exact ⟨Nat.le_refl _, Nat.lt_succ_self _⟩
  · exact Below.grown h.2 hg h.2.size (fun k hk => by injection hk with hk; subst hk; exact MemE.low h.1 i _ he)
theorem Mem.setCell (h : Mem w0 E W) (i : Nat) {g : Nat} {t : TypeId} {cs : List Value} (he : E[i]? = some (blkE g t cs)) (j : Nat) (u : Value) : Mem w0 (E.set i (blkE g t (cs.set j u))) (W.setCell ⟨g, j, none⟩ u) := by
  have hw : W.heap.size ≤ (W.setCell ⟨g, j, none⟩ u).heap.size := by simp [World.setCell]
  refine ⟨(MemE.put h.1 i _ (blkE g t (cs.set j u)) he rfl rfl (fun k hk hne => Below.heap_setCell _ _ _ _ (fun e => hne ?_)) ((h.blk i he).set_ j u)).keep hw (fun _ _ _ => rfl), ?_⟩
  · dsimp only at e
    subst e
    exact ⟨Nat.le_refl _, Nat.lt_succ_self _⟩
  · exact h.2.setCell (MemE.low h.1 i _ he) _
end
/-- the entries lie below B, whatever lies above it -/
def MemB (w0 : World) (B : Nat) (E : List Ent) (W : World) : Prop := MemE w0.heap.size E B W ∧ Below w0.heap.size w0 W ∧ B ≤ W.heap.size
section
variable {w0 W W' : World} {B : Nat} {E : List Ent}
theorem MemB.below (h : MemB w0 B E W) (hb : Below B W W') : MemB w0 B E W' := ⟨h.1.keep (Nat.le_refl _) (fun k _ hk => hb.block k hk), h.2.1.trans (hb.mono h.1.base), Nat.le_trans h.2.2 hb.size⟩
/-- behind an append to a row that lies above -/
theorem MemB.grown (h : MemB w0 B E W) {v : Value} {e n : Nat} {xs : List Value} (ho : W.ownsRow B e 1 v n xs) (hg : W.grownBy W' v.ownBlock) : MemB w0 B E W' := h.below ((Below.refl _ _).grown hg h.2.2 (own_from ho))
/-- the row that lies above becomes an entry -/
theorem MemB.row (h : MemB w0 B E W) {A : Option Addr} {n c : Nat} {l : List UInt8} (ho : W.ownsRow B 5 1 (.slice A n c) n (l.map u8v)) : Mem w0 (rdE B W.heap.size A n l :: E) W :=
  ⟨⟨Nat.le_refl _, h.2.2, by
    have hr := Rd.of_own ho
    refine ⟨hr.1, fun hn => ?_⟩
    obtain ⟨b, off, e, h1, hc⟩ := hr.2 hn
    subst e
    exact ⟨b, off, rfl, (ho.lt b rfl).1, h1, hc⟩, h.1⟩, h.2.1⟩
end
end Go.Proofs.Ytpahfckihcbajaa
namespace Go.Proofs.Ytpahfckihcbajaa
open Go.RowKit

theorem flat_length {k : Nat} : ∀ {os : List (List Value)}, (∀ o ∈ os, o.length = k) → os.flatten.length = os.length * k
  | [], _ => by simp
  | o :: r, h => by
    rw [List.flatten_cons, List.length_append, h o (List.mem_cons_self ..), flat_length (fun x hx => h x (List.mem_cons_of_mem _ hx)), List.length_cons, Nat.succ_mul, Nat.add_comm]
theorem flat_at {k : Nat} : ∀ {os : List (List Value)}, (∀ o ∈ os, o.length = k) → ∀ (i : Nat) (o : List Value), os[i]? = some o → ∀ (j : Nat) (v : Value), o[j]? = some v → os.flatten[i * k + j]? = some v
  | [], _, i, o, hi, _, _, _ => by simp at hi
  | a :: r, h, 0, o, hi, j, v, hj => by
    simp only [List.getElem?_cons_zero, Option.some.injEq] at hi
    subst hi
    rw [List.flatten_cons, Nat.zero_mul, Nat.zero_add, List.getElem?_append_left (List.getElem?_eq_some_iff.1 hj).1]
    exact hj
  | a :: r, h, i + 1, o, hi, j, v, hj => by
    have ha := h a (List.mem_cons_self ..)
    rw [List.flatten_cons, List.getElem?_append_right (by rw [ha, Nat.succ_mul]; omega), ha, show (i + 1) * k + j - k = i * k + j from by rw [Nat.succ_mul]; omega]
    exact flat_at (fun x hx => h x (List.mem_cons_of_mem _ hx)) i o (by simpa using hi) j v hj
theorem flat_drop {k : Nat} : ∀ (n : Nat) {os : List (List Value)}, (∀ o ∈ os, o.length = k) → (os.drop n).flatten = os.flatten.drop (n * k)
  | 0, os, _ => by simp
  | n + 1, [], _ => by simp
  | n + 1, a :: r, h => by
    have ha := h a (List.mem_cons_self ..)
    rw [List.drop_succ_cons, List.flatten_cons, flat_drop n (fun x hx => h x (List.mem_cons_of_mem _ hx)), List.drop_append, ha, Nat.succ_mul, List.drop_eq_nil_of_le (show a.length ≤ n * k + k by rw [ha]; omega), List.nil_append, Nat.add_sub_cancel]
theorem flat_take {k : Nat} : ∀ (n : Nat) {os : List (List Value)}, (∀ o ∈ os, o.length = k) → (os.take n).flatten = os.flatten.take (n * k)
  | 0, os, _ => by simp
  | n + 1, [], _ => by simp
  | n + 1, a :: r, h => by
    have ha := h a (List.mem_cons_self ..)
    rw [List.take_succ_cons, List.flatten_cons, List.flatten_cons, flat_take n (fun x hx => h x (List.mem_cons_of_mem _ hx)), List.take_append, ha, Nat.succ_mul, List.take_of_length_le (show a.length ≤ n * k + k by rw [ha]; omega), Nat.add_sub_cancel]
/-- n objects of k cells that lie one after the other below B -/
def RdRow (W : World) (B : Nat) (A : Option Addr) (k n : Nat) (os : List (List Value)) : Prop :=
  os.length = n ∧ (∀ o ∈ os, o.length = k) ∧ (0 < n → ∃ b off, A = some ⟨b, off, none⟩ ∧ b < B ∧ ∀ j v, os.flatten[j]? = some v → W.cell? ⟨b, off + j, none⟩ = some v)
theorem RdRow.below {w W : World} {B k n : Nat} {A : Option Addr} {os : List (List Value)} (h : RdRow w B A k n os) (hb : Below B w W) : RdRow W B A k n os :=
  ⟨h.1, h.2.1, fun hn => by
    obtain ⟨b, off, e, hlt, hc⟩ := h.2.2 hn
    exact ⟨b, off, e, hlt, fun j v hv => (World.cell?_of_block (hb.block b hlt)).trans (hc j v hv)⟩⟩
theorem RdRow.mono {W : World} {B C k n : Nat} {A : Option Addr} {os : List (List Value)} (h : RdRow W B A k n os) (hc : B ≤ C) : RdRow W C A k n os :=
  ⟨h.1, h.2.1, fun hn => by
    obtain ⟨b, off, e, hlt, hc2⟩ := h.2.2 hn
    exact ⟨b, off, e, by omega, hc2⟩⟩
theorem RdRow.nil {W : World} {B k : Nat} {A : Option Addr} : RdRow W B A k 0 [] := ⟨rfl, (by simp), fun h => by omega⟩
theorem RdRow.of_own {W : World} {B k n c : Nat} {e : TypeId} {A : Option Addr} {os : List (List Value)} (hn : os.length = n) (hk : ∀ o ∈ os, o.length = k) (h : W.ownsRow B e k (.slice A n c) n os.flatten) : RdRow W W.heap.size A k n os := by
  refine ⟨hn, hk, fun h0 => ?_⟩
  rcases h.2 with ⟨_, e⟩ | ⟨g, cap, cur, hv, hbg, hg, hcap, hm, hs, hr⟩
  · omega
  · injection hv with hA _ _
    refine ⟨g, 0, hA, ?_, fun j v hj => ?_⟩
    · rcases Nat.lt_or_ge g W.heap.size with h | h
      · exact h
      · rw [Array.getElem?_eq_none h] at hg; cases hg
    · rw [← hr, List.getElem?_take] at hj
      split at hj
      · rw [Nat.zero_add]
        simp only [World.cell?, hg]
        simpa using hj
      · cases hj
/-- the object at a place of a row -/
theorem RdRow.at {W : World} {B k n b off : Nat} {os : List (List Value)} (h : RdRow W B (some ⟨b, off, none⟩) k n os) (i : Nat) (o : List Value) (hi : os[i]? = some o) : b < B ∧ At W b (off + i * k) o := by
  have hl : i < os.length := (List.getElem?_eq_some_iff.1 hi).1
  obtain ⟨b', off', e, hlt, hc⟩ := h.2.2 (by rw [← h.1]; omega)
  injection e with e
  injection e with e1 e2 _
  subst e1 e2
  exact ⟨hlt, fun j v hj => by rw [Nat.add_assoc]; exact hc _ v (flat_at h.2.1 i o hi j v hj)⟩
theorem RdRow.addr {W : World} {B k n : Nat} {A : Option Addr} {os : List (List Value)} (h : RdRow W B A k n os) (hn : 0 < n) : ∃ b off, A = some ⟨b, off, none⟩ := by
  obtain ⟨b, off, e, _⟩ := h.2.2 hn
  exact ⟨b, off, e⟩
theorem RdRow.take {W : World} {B k n : Nat} {A : Option Addr} {os : List (List Value)} (h : RdRow W B A k n os) (i : Nat) (hi : i ≤ n) : RdRow W B A k i (os.take i) := by
  refine ⟨by rw [List.length_take, h.1]; omega, fun o ho => h.2.1 o (List.mem_of_mem_take ho), fun h0 => ?_⟩
  obtain ⟨b, off, e, hlt, hc⟩ := h.2.2 (by omega)
  refine ⟨b, off, e, hlt, fun j v hj => hc j v ?_⟩
  rw [flat_take i h.2.1, List.getElem?_take] at hj
  split at hj
  · exact hj
  · cases hj
theorem RdRow.drop {W : World} {B k n b off : Nat} {os : List (List Value)} (h : RdRow W B (some ⟨b, off, none⟩) k n os) (i : Nat) (hi : i ≤ n) : RdRow W B (some ⟨b, off + i * k, none⟩) k (n - i) (os.drop i) := by
  refine ⟨by rw [List.length_drop, h.1], fun o ho => h.2.1 o (List.mem_of_mem_drop ho), fun h0 => ?_⟩
  obtain ⟨b', off', e, hlt, hc⟩ := h.2.2 (by omega)
  injection e with e
  injection e with e1 e2 _
  subst e1 e2
  refine ⟨b, off + i * k, rfl, hlt, fun j v hj => ?_⟩
  rw [flat_drop i h.2.1, List.getElem?_drop] at hj
  rw [Nat.add_assoc]
  exact hc _ v hj
end Go.Proofs.Ytpahfckihcbajaa
namespace Go.Proofs.Ytpahfckihcbajaa
open Go.RowKit Go.ChangeShapes Go.WideShapes Go.ChangeAt Go.Deep

theorem open_objs {H : Type} {enc : TypeId × Value → H} {P : Program} {W : World} {r : Reach} {b0 : Nat} {t e : TypeId} {v : Value} {d : DataW H} {p : List MemPlace} (ht : P.underlying t = some (.slice e)) (k : Nat) (hk : P.cellsOf e = k) (hk0 : 0 < k) (Q : List Value → Prop)
    (hel : ∀ fuel cs x, DataW.trod enc P W 0 (fun _ => true) true fuel e cs = some x → Q cs) (hv : Value.okWide P W r b0 t v) (h : DataW.Trod enc P W 0 (fun _ => true) true t v d p) :
    ∃ A len cap os, v = .slice A len cap ∧ len ≤ cap ∧ cap ≤ maxLen ∧ RdRow W W.heap.size A k len os ∧ ∀ o ∈ os, Q o := by
  obtain ⟨A, len, cap, rfl⟩ := okWide_slice ht hv
  obtain ⟨fuel, hf⟩ := h
  rcases open_slice ht hf with ⟨hcs, _⟩ | ⟨a, len', cap', m, n, D, Pl, hcs, _, hl, hm, hmm, _, hall⟩
  · simp [Value.cells] at hcs
    obtain ⟨rfl, rfl, rfl⟩ := hcs
    exact ⟨none, 0, 0, [], rfl, Nat.le_refl _, by simp, RdRow.nil, by simp⟩
  · simp [Value.cells] at hcs
    obtain ⟨rfl, rfl, rfl⟩ := hcs
    rw [hk] at hall
    simp only [if_true] at hmm
    have hget : ∀ i, i < len → ∃ cs', W.cells? 0 (a.add (i * k)) k = some cs' ∧ Q cs' := fun i hi => by
      obtain ⟨cs', h1, h2⟩ := hall i (by omega)
      exact ⟨cs', h1, hel _ _ _ h2⟩
    obtain ⟨g, hg⟩ : ∃ g : Nat → List Value, ∀ i, i < len → W.cells? 0 (a.add (i * k)) k = some (g i) ∧ Q (g i) := ⟨fun i => if hi : i < len then (hget i hi).choose else [], fun i hi => by
      simp only [dif_pos hi]
      exact (hget i hi).choose_spec⟩
    clear hget hall
    have hkl : ∀ o ∈ (List.range len).map g, o.length = k := by
      intro o ho
      obtain ⟨i, hi, rfl⟩ := List.mem_map.1 ho
      exact (World.cells?_some (hg i (List.mem_range.1 hi)).1).2.1
    refine ⟨some a, len, cap, (List.range len).map g, rfl, hl, hm, ⟨by simp, hkl, fun h0 => ?_⟩, fun o ho => ?_⟩
    · have h1 := World.cells?_some (hg 0 h0).1
      obtain ⟨c0, hc0⟩ : ∃ c0, W.cell? ((a.add (0 * k)).add 0) = some c0 := by
        have h2 := h1.2.2 0 hk0
        exact ⟨_, h2.trans (List.getElem?_eq_getElem (by rw [h1.2.1]; exact hk0))⟩
      obtain ⟨b, off, spot⟩ := a
      have hspot : spot = none := by simpa [Addr.add] using World.cell?_spot hc0
      subst hspot
      refine ⟨b, off, rfl, by have := World.block_lt_of_cell? W _ hc0; simpa [Addr.add] using this, fun j v hj => ?_⟩
      have hjl := (List.getElem?_eq_some_iff.1 hj).1
      rw [flat_length hkl, List.length_map, List.length_range] at hjl
      have hi : j / k < len := Nat.div_lt_of_lt_mul (by rw [Nat.mul_comm]; exact hjl)
      have hr : j % k < k := Nat.mod_lt _ hk0
      have hs := World.cells?_some (hg (j / k) hi).1
      have hjj : j / k * k + j % k = j := by rw [Nat.mul_comm]; exact Nat.div_add_mod j k
      have hlt : j % k < (g (j / k)).length := by rw [hs.2.1]; exact hr
      have hfa := flat_at hkl (j / k) (g (j / k)) (by rw [List.getElem?_map, List.getElem?_range hi]; rfl) (j % k) _ (List.getElem?_eq_getElem hlt)
      rw [hjj, hj] at hfa
      injection hfa with hfa
      have h3 := hs.2.2 (j % k) hr
      rw [add_plain, add_plain, Nat.add_assoc, hjj, List.getElem?_eq_getElem hlt] at h3
      rw [h3, hfa]
    · obtain ⟨i, hi, rfl⟩ := List.mem_map.1 ho
      exact (hg i (List.mem_range.1 hi)).2
end Go.Proofs.Ytpahfckihcbajaa
namespace Go.Proofs.Ytpahfckihcbajaa
open Go.RowKit

def inI64 (x : Int) : Prop := -9223372036854775808 ≤ x ∧ x ≤ 9223372036854775807
end Go.Proofs.Ytpahfckihcbajaa
namespace Go.Proofs.Ytpahfckihcbajaa
open Go.RowKit

theorem fill_one (n : Nat) (base a : Array Value) (hb : base.size = n) (ha : a.size = n) :
    Instr.fill (fun i => some (i * n, n)) base [(0, .agg a)] = some a := by
  have hA : (a.zipIdx.foldl (fun cs (x : Value × Nat) => cs.setIfInBounds (0 * n + x.2) x.1) base).toList = base.toList.take (0 * n) ++ a.toList ++ base.toList.drop (0 * n + a.size) := by
    have := foldl_set_list (0 * n) a.toList 0 base (by simp; omega)
    rw [← Array.foldl_toList]
    simpa using this
  refine (if_neg (two_tests (fun hne => hne ha) (fun hlt : 0 * n + a.size > base.size => by omega))).trans ?_
  refine congrArg some (Array.ext' (hA.trans ?_))
  have e0 : List.drop (0 * n + a.size) base.toList = [] := List.drop_eq_nil_of_le (by simp; omega)
  rw [e0]
  simp
theorem step_buildOne {P : Program} {w : World} {ops : Array Oper} {o : Oper} {act : Act} {K : Act → World → Prop} {Q : Exit → Act → World → Prop} {E : Prop} (hgd : o.guard = none) (ty e : TypeId) (x : Operand) (ho : o.op = .buildSlice ty 1 #[(0, x)])
    (a : Array Value) (hx : act.eval x = .agg a) (n : Nat) (hu : P.underlying ty = some (.slice e)) (i : TypeInfo) (hi : P.info? e = some i) (hs : i.size = n) (z : Value) (hz : i.zero = some z) (hn0 : 0 < n) (hn1 : n ≤ 1000) (ha : a.size = n)
    (h : K (act.put o.dst (.slice (some ⟨w.heap.size, 0, none⟩) 1 1)) (w.alloc (.cells a e))) : if Region.wanted o (yielded ops act.tmps) = true then Oper.wp P o act w K Q else E := by
  have hw : Region.wanted o (yielded ops act.tmps) = true := by simp [Region.wanted, hgd]
  rw [if_pos hw]
  unfold Oper.wp execOp
  have hf := fun z : Array Value => fill_one n ((Array.range n).map (z[· % z.size]!)) a (by simp) ha
  have h24 : ¬ n > 2 ^ 24 := by omega
  have h20 : ¬ n = 0 := by omega
  simp only [ho, Instr.buildSlice, Sem.run_bind, run_underlying hu, sizeOf, zeroValue, typeInfo, Result.andThen_ok]
  simp [hi, hs, hz, hf, h24, h20, newRow, hx]
  exact h
end Go.Proofs.Ytpahfckihcbajaa
namespace Go.Proofs.Ytpahfckihcbajaa
open Go.RowKit

theorem At.mono {w W : World} {b off B : Nat} {cs : List Value} (h : At w b off cs) (hb : Below B w W) (hlt : b < B) : At W b off cs := fun j v hv => (World.cell?_of_block (hb.block b hlt)).trans (h j v hv)
end Go.Proofs.Ytpahfckihcbajaa
namespace Go.Proofs.Ytpahfckihcbajaa
open Go.RowKit

theorem wpList_buildOne {P : Program} {w : World} {ops : Array Oper} {rest : List Oper} {o : Oper} {act : Act} {Q : Exit → Act → World → Prop} (hgd : o.guard = none) (ty e : TypeId) (x : Operand) (ho : o.op = .buildSlice ty 1 #[(0, x)])
    (a : Array Value) (hx : act.eval x = .agg a) (n : Nat) (hu : P.underlying ty = some (.slice e)) (i : TypeInfo) (hi : P.info? e = some i) (hs : i.size = n) (z : Value) (hz : i.zero = some z) (hn0 : 0 < n) (hn1 : n ≤ 1000) (ha : a.size = n)
    (h : wpList P ops Q rest (act.put o.dst (.slice (some ⟨w.heap.size, 0, none⟩) 1 1)) (w.alloc (.cells a e))) : wpList P ops Q (o :: rest) act w :=
  wpList_step fun _ hK => step_buildOne hgd ty e x ho a hx n hu i hi hs z hz hn0 hn1 ha (hK _ _ h)
theorem setL_all (old cs : List Value) (h : cs.length = old.length) : setL old 0 cs = cs := by
  rw [setL, List.take_zero, List.nil_append, Nat.zero_add, h, List.drop_length, List.append_nil]
theorem take_snoc {α : Type} {l : List α} {j : Nat} {r : α} (h : l[j]? = some r) : l.take (j + 1) = l.take j ++ [r] := by rw [List.take_add_one, h]; rfl
/-- an object in a block that was just laid and then written: all that was there ahead is as it was -/
theorem below_fresh {w w' : World} {o : Obj} (hg : (w.alloc o).grownBy w' (some w.heap.size)) : Below w.heap.size w w' :=
  ((Below.refl w.heap.size w).alloc (Nat.le_refl _) o).grown hg (by simp) (fun k hk => by injection hk with hk; omega)
end Go.Proofs.Ytpahfckihcbajaa
namespace Go.Proofs.Ytpahfckihcbajaa
open Go.RowKit

theorem off_of {parts : List (List Value)} {ls : List Nat} (h : parts.map List.length = ls) (i : Nat) : (parts.take i).flatten.length = (ls.take i).sum := by
  rw [sum_len, List.map_take, h]
theorem parts_split {parts : List (List Value)} {i : Nat} {p : List Value} (hi : parts[i]? = some p) : parts.flatten = (parts.take i).flatten ++ (p ++ (parts.drop (i + 1)).flatten) := by
  obtain ⟨hlt, rfl⟩ := List.getElem?_eq_some_iff.1 hi
  have h : parts = parts.take i ++ (parts[i] :: parts.drop (i + 1)) := by rw [← List.drop_eq_getElem_cons hlt, List.take_append_drop]
  conv => lhs; rw [h]
  rw [List.flatten_append, List.flatten_cons]
/-- a part of what lies at an address -/
theorem seg_at {w : World} {g off i o : Nat} {parts : List (List Value)} {ls : List Nat} {p : List Value} (h : At w g off parts.flatten) (hl : parts.map List.length = ls) (hi : parts[i]? = some p) (ho : (ls.take i).sum = o) : At w g (off + o) p := fun j v hj => by
  rw [Nat.add_assoc]
  refine h (o + j) v ?_
  rw [parts_split hi, List.getElem?_append_right (by rw [off_of hl, ho]; omega), off_of hl, ho, Nat.add_sub_cancel_left, List.getElem?_append_left (List.getElem?_eq_some_iff.1 hj).1]
  exact hj
theorem seg_get {i o : Nat} {parts : List (List Value)} {ls : List Nat} {v : Value} (hl : parts.map List.length = ls) (hi : parts[i]? = some [v]) (ho : (ls.take i).sum = o) : parts.flatten[o]? = some v := by
  rw [parts_split hi, List.getElem?_append_right (by rw [off_of hl, ho]; exact Nat.le_refl _), off_of hl, ho, Nat.sub_self]
  rfl
theorem seg_drop {i o n : Nat} {parts : List (List Value)} {ls : List Nat} {p : List Value} (hl : parts.map List.length = ls) (hi : parts[i]? = some p) (ho : (ls.take i).sum = o) (hn : p.length = n) : (parts.flatten.drop o).take n = p := by
  subst hn
  rw [parts_split hi, ← ho, ← off_of hl, List.drop_left, List.take_left]
theorem take_set_same {α : Type} (l : List α) (i : Nat) (x : α) : (l.set i x).take i = l.take i := by
  rw [List.take_set_of_le (Nat.le_refl _)]
theorem seg_set1 {i o : Nat} {parts : List (List Value)} {ls : List Nat} {u v : Value} (hl : parts.map List.length = ls) (hi : parts[i]? = some [u]) (ho : (ls.take i).sum = o) : parts.flatten.set o v = (parts.set i [v]).flatten := by
  have hlt := (List.getElem?_eq_some_iff.1 hi).1
  have h2 : (parts.set i [v])[i]? = some [v] := by rw [List.getElem?_set_self hlt]
  rw [parts_split h2, take_set_same, List.drop_set_of_lt (by omega), parts_split hi, ← ho, ← off_of hl, List.set_append_right _ _ (Nat.le_refl _), Nat.sub_self]
  rfl
theorem flat_inj : ∀ {ps qs : List (List Value)}, ps.map List.length = qs.map List.length → ps.flatten = qs.flatten → ps = qs
  | [], [], _, _ => rfl
  | [], _ :: _, h, _ => by cases h
  | _ :: _, [], h, _ => by cases h
  | p :: ps, q :: qs, h, e => by
    rw [List.map_cons, List.map_cons] at h
    injection h with h1 h2
    rw [List.flatten_cons, List.flatten_cons] at e
    obtain ⟨e1, e2⟩ := List.append_inj e h1
    rw [e1, flat_inj h2 e2]
theorem parts_one {parts : List (List Value)} (h : ∀ p ∈ parts, ∀ v ∈ p, v.oneCell' = true) : ∀ v ∈ parts.flatten, v.oneCell' = true := fun v hv => by
  obtain ⟨p, hp, hv⟩ := List.mem_flatten.1 hv
  exact h p hp v hv
theorem cell_one {v : Value} (h : v.oneCell' = true) : ∀ u ∈ [v], u.oneCell' = true := fun u hu => by rw [List.mem_singleton.1 hu]; exact h
theorem i64_range {x : Int} (h : inI64 x) : IntKind.i64.min ≤ x ∧ x ≤ IntKind.i64.max := by
  unfold inI64 at h
  exact ⟨by simp [IntKind.min, IntKind.signed, IntKind.bits]; omega, by simp [IntKind.max, IntKind.signed, IntKind.bits]; omega⟩
end Go.Proofs.Ytpahfckihcbajaa
namespace Go.Proofs.Ytpahfckihcbajaa
open Go.RowKit

theorem u8v_inj {x y : List UInt8} : x.map u8v = y.map u8v ↔ x = y := by
  refine List.map_inj_right (fun a b hab => ?_)
  have : ((a.toNat : Nat) : Int) = (b.toNat : Int) := by simpa [u8v] using hab
  exact UInt8.toNat.inj (by omega)
end Go.Proofs.Ytpahfckihcbajaa
namespace Go.Proofs.Ytpahfckihcbajaa
open Go.RowKit

instance : DecidableEq AddrM := fun a b =>
  if h : a.six = b.six ∧ a.ip = b.ip then .isTrue (by cases a; cases b; simp_all) else .isFalse (fun e => h ⟨by rw [e], by rw [e]⟩)
end Go.Proofs.Ytpahfckihcbajaa
namespace Go.Proofs.Ytpahfckihcbajaa
open Go.RowKit

theorem eq_obj {P : Program} (m D : Nat) (t : TypeId) (hm : m ≤ 10000) (hk : P.keyTypeAt m t = true) (ht : P.tiled m t = true) (cs ds : List Value) (hc : LitsAt P D t cs) (hd : LitsAt P D t ds) (d : TypeDesc) (hu : P.underlying t = some d) (ho : isObj d = true) (hs : P.cellsOf t = cs.length) (hs2 : P.cellsOf t = ds.length) (b : Bool) (hb : b = true ↔ cs = ds) (w : World) :
    (Op.equalIn 10000 t (.agg cs.toArray) (.agg ds.toArray)).run P w = .ok b w := by
  obtain ⟨la, hla⟩ := hc
  obtain ⟨lb, hlb⟩ := hd
  have hf : (Value.agg cs.toArray).formed P t = true := by
    cases d <;> simp_all [Value.formed, isObj]
  have hg : (Value.agg ds.toArray).formed P t = true := by
    cases d <;> simp_all [Value.formed, isObj]
  obtain ⟨r, hr, hiff⟩ := run_equalIn_deep (P := P) (10000 - m) m t hk w D D (.agg cs.toArray) (.agg ds.toArray) la lb hf hg hla hlb
  rw [Nat.sub_add_cancel hm] at hr
  rw [hr]
  have h : r = true ↔ cs = ds := by
    rw [hiff]
    constructor
    · intro e
      rw [cells_of_lits m t ht D cs la hla, cells_of_lits m t ht D ds lb hlb, e]
    · rintro rfl
      rw [hla] at hlb
      exact Option.some.inj hlb
  rw [show r = b by rw [Bool.eq_iff_iff, h, hb]]
end Go.Proofs.Ytpahfckihcbajaa
namespace Go.Proofs.Ytpahfckihcbajaa
open Go.RowKit

end Go.Proofs.Ytpahfckihcbajaa
namespace Go.Proofs.Ytpahfckihcbajaa
open Go.RowKit

theorem addr_noguard : Try.prog.eqGuardType Try.prog.depth 35 = false := by kernel_rfl
theorem addr_lits (D : Nat) (a : AddrM) (h : a.ok) : LitsAt Try.prog (D + 3) 35 a.cells := by
  refine lits_struct Try.underlying35 a.cells ?_ (by simp) ?_
  · rw [AddrM.cells_length h]; kernel_rfl
  · intro f hf
    simp only [List.mem_cons, List.not_mem_nil, or_false] at hf
    rcases hf with rfl | rfl
    · have e : (a.cells.drop 0).take (Try.prog.cellsOf 4) = [.bool a.six] := by
        rw [show Try.prog.cellsOf 4 = 1 by kernel_rfl]; rfl
      exact e ▸ lits_bool Try.underlying4 a.six
    · have e : (a.cells.drop 1).take (Try.prog.cellsOf 33) = a.ip.map u8v := by
        rw [show Try.prog.cellsOf 33 = 16 by kernel_rfl, AddrM.cells, List.drop_succ_cons, List.drop_zero, List.take_of_length_le (by rw [List.length_map, h]; omega)]
      exact e ▸ lits_bytes Try.underlying33 Try.underlying5 (by kernel_rfl) a.ip h (by kernel_rfl)
end Go.Proofs.Ytpahfckihcbajaa
namespace Go.Proofs.Ytpahfckihcbajaa
open Go.RowKit

theorem addr_inj {a b : AddrM} : a.cells = b.cells ↔ a = b := by
  refine ⟨fun h => ?_, fun h => by rw [h]⟩
  cases a; cases b
  simp only [AddrM.cells, List.cons.injEq] at h
  obtain ⟨h1, h2⟩ := h
  injection h1 with h1
  rw [u8v_inj] at h2
  rw [h1, h2]
theorem addr_eqd (a b : AddrM) (ha : a.ok) (hb : b.ok) (w : World) : (Op.equalIn 10000 35 (.agg a.cells.toArray) (.agg b.cells.toArray)).run Try.prog w = .ok (decide (a = b)) w :=
  eq_obj 6 3 35 (by omega) (by kernel_rfl) (by kernel_rfl) a.cells b.cells (addr_lits 0 a ha) (addr_lits 0 b hb) _ Try.underlying35 rfl (by rw [AddrM.cells_length ha]; kernel_rfl) (by rw [AddrM.cells_length hb]; kernel_rfl) _ (by rw [decide_eq_true_iff, addr_inj]) w
end Go.Proofs.Ytpahfckihcbajaa
namespace Go.Proofs.Ytpahfckihcbajaa
open Go.RowKit

theorem wpList_build_as {P : Program} {ops : Array Oper} {rest : List Oper} {o : Oper} {a : Act} {w : World} {Q : Exit → Act → World → Prop} (hg : o.guard = none) (t : TypeId) (parts : List (Nat × Operand)) (ho : o.op = .build t parts.toArray) (v : Array Value)
    (hb : P.built t (parts.map fun p => (p.1, a.eval p.2)) = some v) (h : wpList P ops Q rest (a.put o.dst (.agg v)) w) : wpList P ops Q (o :: rest) a w :=
  have e : (parts.toArray.map fun (i, x) => (i, a.eval x)).toList = parts.map fun p => (p.1, a.eval p.2) := by simp
  wpList_build hg t parts.toArray ho (by rw [e, hb]; rfl) (by rw [e, hb]; exact h)
end Go.Proofs.Ytpahfckihcbajaa
namespace Go.Proofs.Ytpahfckihcbajaa
open Go.RowKit

theorem addr_one (b : Bool) (l : List UInt8) : ∀ v ∈ (.bool b :: l.map u8v : List Value), v.oneCell' = true := by
  intro v hv
  rcases List.mem_cons.1 hv with rfl | hv
  · rfl
  · exact u8v_one l v hv
theorem AddrM.one (a : AddrM) : ∀ v ∈ a.cells, v.oneCell' = true := addr_one a.six a.ip
theorem addr_cellsOf (a : AddrM) (h : a.ok) : (Try.prog.info? 35).map (·.size) = some a.cells.length := by
  rw [AddrM.cells_length h]; kernel_rfl
end Go.Proofs.Ytpahfckihcbajaa
namespace Go.Proofs.Ytpahfckihcbajaa
open Go.RowKit

/-- burrow/api.Bucket -/
structure BucketM where
  a : AddrM
  tok : Int
  tm : Int
  deriving DecidableEq
def BucketM.ok (t : BucketM) : Prop := t.a.ok ∧ inI64 t.tok ∧ inI64 t.tm
def BucketM.parts (t : BucketM) : List (List Value) := [t.a.cells, [.int .i64 t.tok], [.int .i64 t.tm]]
def BucketM.cells (t : BucketM) : List Value := t.parts.flatten
theorem bk_sizes {t : BucketM} (h : t.ok) : t.parts.map List.length = [17, 1, 1] := by
  simp only [BucketM.parts, List.map_cons, List.map_nil, List.cons.injEq, and_true]
  exact ⟨AddrM.cells_length h.1, rfl, rfl⟩
theorem BucketM.cells_length {t : BucketM} (h : t.ok) : t.cells.length = 19 := by
  rw [BucketM.cells, sum_len, bk_sizes h]
  rfl
def bk0 : BucketM := ⟨addr0, 0, 0⟩
theorem bk0_ok : bk0.ok := ⟨addr0_ok, (show inI64 0 from by unfold inI64; omega), (show inI64 0 from by unfold inI64; omega)⟩
theorem bk_one (t : BucketM) : ∀ v ∈ t.cells, v.oneCell' = true := by
  refine parts_one fun p hp => ?_
  simp only [BucketM.parts, List.mem_cons, List.not_mem_nil, or_false] at hp
  rcases hp with rfl | rfl | rfl
  · exact AddrM.one t.a
  · exact cell_one rfl
  · exact cell_one rfl
theorem bk_inj {r s : BucketM} (hr : r.ok) (hs : s.ok) : r.cells = s.cells ↔ r = s := by
  refine ⟨fun h => ?_, fun h => by rw [h]⟩
  have hp := flat_inj (by rw [bk_sizes hr, bk_sizes hs]) h
  simp only [BucketM.parts] at hp
  injection hp with e0 hp
  injection hp with e1 hp
  injection hp with e2 hp
  have f0 : r.a = s.a := addr_inj.1 e0
  have f1 : r.tok = s.tok := by have h := e1; simp only [List.cons.injEq, Value.int.injEq, and_true, true_and] at h; exact h
  have f2 : r.tm = s.tm := by have h := e2; simp only [List.cons.injEq, Value.int.injEq, and_true, true_and] at h; exact h
  cases r; cases s
  simp_all
end Go.Proofs.Ytpahfckihcbajaa
namespace Go.Proofs.Ytpahfckihcbajaa
open Go.RowKit

structure Low where
  P : World → Prop
  keep : ∀ W W' : World, Below W.heap.size W W' → P W → P W'
/-- bytes that a slice reads as -/
def rdL (A : Option Addr) (n : Nat) (l : List UInt8) : Low := ⟨fun W => Rd W W.heap.size A n l, fun _ _ hb h => (h.below hb).mono hb.size⟩
/-- a block -/
def blkL (g : Nat) (t : TypeId) (cs : List Value) : Low := ⟨fun W => Blk W g t cs, fun _ _ hb h => h.below hb h.lt⟩
/-- a row of bytes that was made above base -/
def ownL (base : Nat) (v : Value) (n : Nat) (xs : List Value) : Low := ⟨fun W => W.ownsRow base 5 1 v n xs, fun _ _ hb h => ⟨h.1, by
  rcases h.2 with h1 | ⟨g, cap, cur, hv, hbg, hg, hr⟩
  · exact .inl h1
  · exact .inr ⟨g, cap, cur, hv, hbg, (hb.block g (h.lt g (by rw [hv]; rfl)).2).trans hg, hr⟩⟩⟩
def Lows (w0 : World) (E : List Low) (W : World) : Prop := (∀ f ∈ E, f.P W) ∧ Below w0.heap.size w0 W
section
variable {w0 W W' : World} {E : List Low}
theorem Lows.nil (w0 : World) : Lows w0 [] w0 := ⟨fun f hf => absurd hf (by simp), Below.refl _ _⟩
theorem Lows.bel (h : Lows w0 E W) : Below w0.heap.size w0 W := h.2
theorem Lows.size (h : Lows w0 E W) : w0.heap.size ≤ W.heap.size := h.2.size
theorem Lows.below (h : Lows w0 E W) (hb : Below W.heap.size W W') : Lows w0 E W' := ⟨fun f hf => f.keep _ _ hb (h.1 f hf), h.2.trans (hb.mono h.2.size)⟩
theorem Lows.drew (h : Lows w0 E W) : Lows w0 E W.drew := h.below ((Below.refl _ _).drew)
theorem Lows.cons (h : Lows w0 E W) (f : Low) (hf : f.P W) : Lows w0 (f :: E) W :=
  ⟨fun g hg => by
    rcases List.mem_cons.1 hg with rfl | hg
    · exact hf
    · exact h.1 g hg, h.2⟩
theorem Lows.get (h : Lows w0 E W) (i : Nat) {f : Low} (he : E[i]? = some f) : f.P W := h.1 _ (List.mem_of_getElem? he)
theorem Lows.rd (h : Lows w0 E W) (i : Nat) {A : Option Addr} {n : Nat} {l : List UInt8} (he : E[i]? = some (rdL A n l)) : Rd W W.heap.size A n l := h.get i he
theorem Lows.blk (h : Lows w0 E W) (i : Nat) {g : Nat} {t : TypeId} {cs : List Value} (he : E[i]? = some (blkL g t cs)) : Blk W g t cs := h.get i he
theorem Lows.own (h : Lows w0 E W) (i : Nat) {base : Nat} {v : Value} {n : Nat} {xs : List Value} (he : E[i]? = some (ownL base v n xs)) : W.ownsRow base 5 1 v n xs := h.get i he
/-- a new block -/
theorem Lows.alloc (h : Lows w0 E W) (t : TypeId) (arr : Array Value) (cs : List Value) (ha : arr = cs.toArray) : Lows w0 (blkL W.heap.size t cs :: E) (W.alloc (.cells arr t)) := by
  subst ha
  exact (h.below ((Below.refl _ _).alloc (Nat.le_refl _) _)).cons (blkL _ _ _) (Blk.new W t cs)
/-- a block above is written -/
theorem Lows.grown (h : Lows w0 E W) {W2 : World} (hb : Below W.heap.size W W') {row : Option Nat} (hg : W'.grownBy W2 row) (hr : ∀ k, row = some k → W.heap.size ≤ k) : Lows w0 E W2 := h.below (hb.grown hg hb.size hr)
end
end Go.Proofs.Ytpahfckihcbajaa
namespace Go.Proofs.Ytpahfckihcbajaa
open Go.RowKit

/-- the address behind i objects of k cells, as the model keeps it -/
def addrK (A : Option Addr) (i c k : Nat) : Option Addr := if c = i then A else A.map (·.add (i * k))
theorem RdRow.behind {W : World} {B k n : Nat} {A : Option Addr} {os : List (List Value)} (h : RdRow W B A k n os) (i c : Nat) (hi : i ≤ n) (hc : n ≤ c) : RdRow W B (addrK A i c k) k (n - i) (os.drop i) := by
  unfold addrK
  rcases Nat.eq_zero_or_pos (n - i) with h0 | h0
  · rw [h0, List.drop_of_length_le (by have := h.1; omega)]
    exact RdRow.nil
  · obtain ⟨b, off, rfl⟩ := h.addr (by omega)
    rw [if_neg (by omega), Option.map_some, Go.WideShapes.add_plain]
    exact h.drop i hi
theorem RdRow.src {W : World} {B k n : Nat} {os : List (List Value)} {ad : Addr} (h : RdRow W B (some ad) k n os) : ∀ j u, os.flatten[j]? = some u → W.cell? (ad.add j) = some u := by
  intro j u hj
  rcases Nat.eq_zero_or_pos n with h0 | h0
  · have : os = [] := List.eq_nil_of_length_eq_zero (by rw [h.1, h0])
    subst this
    simp at hj
  · obtain ⟨b, off, e, _, hc⟩ := h.2.2 h0
    injection e with e
    subst e
    rw [Go.WideShapes.add_plain]
    exact hc j u hj
theorem RdRow.len {W : World} {B k n : Nat} {A : Option Addr} {os : List (List Value)} (h : RdRow W B A k n os) : os.flatten.length = n * k := by rw [flat_length h.2.1, h.1]
theorem run_append_rows_none {P : Program} {w : World} (base : Nat) (t ty e : TypeId) (i : TypeInfo) (size : Nat) (ht : P.underlying t = some (.slice e)) (hi : P.info? e = some i)
    (v : Value) (n c : Nat) (xs : List Value) (hown : w.ownsRow base e size v n xs) :
    (Builtin.append_ #[t, t] ty #[v, .slice none 0 c]).run P w = .ok v w := by
  rcases hown.2 with ⟨rfl, rfl⟩ | ⟨g, cap, cur, rfl, _, _, hnc, _⟩
  · simp [Builtin.append_, run_underlying ht, sizeOf, typeInfo, hi, Builtin.lenOf, Builtin.firstCells]
  · simp [Builtin.append_, run_underlying ht, sizeOf, typeInfo, hi, Builtin.lenOf, Builtin.firstCells, hnc, storeCells]
/-- a row of objects appended to a row of the call's own -/
theorem run_append_rows {P : Program} (w : World) (base : Nat) (t ty e : TypeId) (i : TypeInfo) (z : Value) (size bytes : Nat) (ht : P.underlying t = some (.slice e)) (hi : P.info? e = some i) (hz : i.zero = some z)
    (hsize : i.size = size) (hby : i.bytes = bytes) (hzs : z.cells.size = size) (hsz : 0 < size) (v : Value) (n : Nat) (xs : List Value) (hown : w.ownsRow base e size v n xs)
    (B : Nat) (A : Option Addr) (m c : Nat) (os : List (List Value)) (hr : RdRow w B A size m os) (h1 : ∀ u ∈ os.flatten, u.oneCell' = true) (h63 : n + m ≤ maxLen) (hbytes : (n + m) * bytes ≤ 140737488355328) (hbase : base ≤ w.heap.size) :
    ∃ v' w', (Builtin.append_ #[t, t] ty #[v, .slice A m c]).run P w = .ok v' w' ∧ w'.ownsRow base e size v' (n + m) (xs ++ os.flatten) ∧ w.grownBy w' v.ownBlock ∧ (v'.ownBlock = v.ownBlock ∨ v'.ownBlock = some w.heap.size) := by
  cases A with
  | some ad =>
    obtain ⟨v', w', hrun, r1, r2, _, r4⟩ := run_append_own_at (P := P) w base t ty e i z size bytes ht hi hz hsize hby hzs hsz v n xs hown ad m c os.flatten hr.len hr.src h1 h63 hbytes hbase
    exact ⟨v', w', hrun, r1, r2, r4⟩
  | none =>
    have hm : m = 0 := by
      rcases Nat.eq_zero_or_pos m with h | h
      · exact h
      · obtain ⟨_, _, e⟩ := hr.addr h
        cases e
    subst hm
    have ho : os = [] := List.eq_nil_of_length_eq_zero hr.1
    subst ho
    exact ⟨v, w, run_append_rows_none base t ty e i size ht hi v n c xs hown, by simpa using hown, ⟨rfl, rfl, rfl, Nat.le_refl _, fun _ _ _ => rfl⟩, .inl rfl⟩
/-- a row of objects appended to one that has no room: a new row -/
theorem run_append_full {P : Program} (w : World) (t ty e : TypeId) (i : TypeInfo) (z : Value) (size bytes : Nat) (ht : P.underlying t = some (.slice e)) (hi : P.info? e = some i) (hz : i.zero = some z)
    (hsize : i.size = size) (hby : i.bytes = bytes) (hzs : z.cells.size = size) (B : Nat) (A : Option Addr) (n c : Nat) (hcn : n = 0 ∧ A = none ∧ c = 0 ∨ c = n ∧ A ≠ none) (os : List (List Value)) (hr : RdRow w B A size n os)
    (B' : Nat) (A' : Option Addr) (m c' : Nat) (hm : 0 < m) (os' : List (List Value)) (hr' : RdRow w B' A' size m os') (h63 : n + m ≤ maxLen) (hbytes : (n + m) * bytes ≤ 140737488355328) :
    ∃ v' w', (Builtin.append_ #[t, t] ty #[.slice A n c, .slice A' m c']).run P w = .ok v' w' ∧ w'.ownsRow w.heap.size e size v' (n + m) (os.flatten ++ os'.flatten) ∧ Below w.heap.size w w' := by
  subst hsize
  subst hby
  obtain ⟨b', off', rfl⟩ := hr'.addr hm
  have hlen : (os.flatten ++ os'.flatten).length = (n + m) * i.size := by rw [List.length_append, hr.len, hr'.len, Nat.add_mul]
  have grown : ∀ (old : Nat), old < n + m →
      (w.drew.alloc (.cells (os.flatten.toArray ++ os'.flatten.toArray ++ Builtin.zeroCells z.cells (grownCap w (n + m) old e - (n + m))) e)).ownsRow w.heap.size e i.size
        (.slice (some ⟨w.heap.size, 0, none⟩) (n + m) (grownCap w (n + m) old e)) (n + m) (os.flatten ++ os'.flatten) ∧
      Below w.heap.size w (w.drew.alloc (.cells (os.flatten.toArray ++ os'.flatten.toArray ++ Builtin.zeroCells z.cells (grownCap w (n + m) old e - (n + m))) e)) := by
    intro old ho
    have hge := grownCap_ge w (n + m) old e
    have hcm : grownCap w (n + m) old e ≤ maxLen := grownCap_le_maxLen w (n + m) old e h63
    refine ⟨⟨hlen, .inr ⟨w.heap.size, _, _, rfl, Nat.le_refl _, heap_alloc_new w.drew _, hge, hcm, ?_, ?_⟩⟩, (Below.refl _ _).drew.alloc (Nat.le_refl _) _⟩
    · simp only [Array.size_append, List.size_toArray, size_zeroCells, hzs, hr.len, hr'.len, ← Nat.add_mul]
      congr 1
      omega
    · simp only [Array.toList_append, List.append_assoc]
      rw [← List.append_assoc, ← hlen]
      exact List.take_left
  rcases hcn with ⟨rfl, rfl, rfl⟩ | ⟨rfl, hA⟩
  · have ho : os = [] := List.eq_nil_of_length_eq_zero hr.1
    subst ho
    have hru := run_append_nil (P := P) w t ty e i z ht hi hz ⟨b', off', none⟩ m c' os'.flatten hr'.len hr'.src hm (by simp only [maxLen] at h63; omega) (by have hb := hbytes; simp only [Nat.zero_add] at hb; omega)
    have hgr := grown 0 (by omega)
    simp only [Nat.zero_add, List.flatten_nil, List.nil_append, Array.empty_append] at hgr ⊢
    exact ⟨_, _, hru, hgr.1, hgr.2⟩
  · cases A with
    | none => exact absurd rfl hA
    | some ad =>
      have hru := run_append_grow (P := P) w t ty e i z ht hi hz ad c c os.flatten hr.len hr.src ⟨b', off', none⟩ m c' os'.flatten hr'.len hr'.src (by omega) (by simp only [maxLen] at h63; omega) (growslice_fits (by omega) hbytes)
      have hgr := grown c (by omega)
      exact ⟨_, _, hru, hgr.1, hgr.2⟩
theorem wpList_append_rows {P : Program} (w : World) {ops : Array Oper} {rest : List Oper} {o : Oper} {a : Act} {Q : Exit → Act → World → Prop} (hgd : o.guard = none) (s x : Operand) (t : TypeId)
    (ho : o.op = .call { callee := .builtin .append, args := #[s, x], argTypes := #[t, t] })
    (base : Nat) (e : TypeId) (i : TypeInfo) (z : Value) (size bytes : Nat) (ht : P.underlying t = some (.slice e)) (hi : P.info? e = some i) (hz : i.zero = some z) (hsize : i.size = size) (hby : i.bytes = bytes) (hzs : z.cells.size = size) (hsz : 0 < size)
    (v : Value) (n : Nat) (xs : List Value) (hs : a.eval s = v) (hown : w.ownsRow base e size v n xs) (B : Nat) (A : Option Addr) (m c : Nat) (os : List (List Value)) (hx : a.eval x = .slice A m c) (hr : RdRow w B A size m os) (h1 : ∀ u ∈ os.flatten, u.oneCell' = true)
    (h63 : n + m ≤ maxLen) (hbytes : (n + m) * bytes ≤ 140737488355328) (hbase : base ≤ w.heap.size)
    (h : ∀ v' w', w'.ownsRow base e size v' (n + m) (xs ++ os.flatten) → w.grownBy w' v.ownBlock → (v'.ownBlock = v.ownBlock ∨ v'.ownBlock = some w.heap.size) → wpList P ops Q rest (a.put o.dst v') w') : wpList P ops Q (o :: rest) a w := by
  refine wpList_plain hgd fun K hK => ?_
  obtain ⟨v', w', hrun, h2, h3, h4⟩ := run_append_rows (P := P) w base t o.type e i z size bytes ht hi hz hsize hby hzs hsz v n xs hown B A m c os hr h1 h63 hbytes hbase
  unfold Oper.wp execOp
  simp only [ho, resolve, invoke, builtin, Sem.run_bind, Sem.run_pure, Result.andThen_ok, List.map_toArray, List.map_cons, List.map_nil, hs, hx, hrun]
  exact hK _ _ (h v' w' h2 h3 h4)
theorem step_append_rows {P : Program} (w : World) {ops : Array Oper} {o : Oper} {a : Act} {K : Act → World → Prop} {Q : Exit → Act → World → Prop} {E : Prop} (hgd : o.guard = none) (s x : Operand) (t : TypeId)
    (ho : o.op = .call { callee := .builtin .append, args := #[s, x], argTypes := #[t, t] })
    (base : Nat) (e : TypeId) (i : TypeInfo) (z : Value) (size bytes : Nat) (ht : P.underlying t = some (.slice e)) (hi : P.info? e = some i) (hz : i.zero = some z) (hsize : i.size = size) (hby : i.bytes = bytes) (hzs : z.cells.size = size) (hsz : 0 < size)
    (v : Value) (n : Nat) (xs : List Value) (hs : a.eval s = v) (hown : w.ownsRow base e size v n xs) (B : Nat) (A : Option Addr) (m c : Nat) (os : List (List Value)) (hx : a.eval x = .slice A m c) (hr : RdRow w B A size m os) (h1 : ∀ u ∈ os.flatten, u.oneCell' = true)
    (h63 : n + m ≤ maxLen) (hbytes : (n + m) * bytes ≤ 140737488355328) (hbase : base ≤ w.heap.size)
    (h : ∀ v' w', w'.ownsRow base e size v' (n + m) (xs ++ os.flatten) → w.grownBy w' v.ownBlock → (v'.ownBlock = v.ownBlock ∨ v'.ownBlock = some w.heap.size) → K (a.put o.dst v') w') : if Region.wanted o (yielded ops a.tmps) = true then Oper.wp P o a w K Q else E := by
  rw [if_pos (by simp [Region.wanted, hgd])]
  obtain ⟨v', w', hrun, h2, h3, h4⟩ := run_append_rows (P := P) w base t o.type e i z size bytes ht hi hz hsize hby hzs hsz v n xs hown B A m c os hr h1 h63 hbytes hbase
  unfold Oper.wp execOp
  simp only [ho, resolve, invoke, builtin, Sem.run_bind, Sem.run_pure, Result.andThen_ok, List.map_toArray, List.map_cons, List.map_nil, hs, hx, hrun]
  exact h v' w' h2 h3 h4
theorem step_append_full {P : Program} (w : World) {ops : Array Oper} {o : Oper} {act : Act} {K : Act → World → Prop} {Q : Exit → Act → World → Prop} {E : Prop} (hgd : o.guard = none) (s x : Operand) (t : TypeId)
    (ho : o.op = .call { callee := .builtin .append, args := #[s, x], argTypes := #[t, t] })
    (e : TypeId) (i : TypeInfo) (z : Value) (size bytes : Nat) (ht : P.underlying t = some (.slice e)) (hi : P.info? e = some i) (hz : i.zero = some z) (hsize : i.size = size) (hby : i.bytes = bytes) (hzs : z.cells.size = size)
    (B : Nat) (A : Option Addr) (n c : Nat) (hs : act.eval s = .slice A n c) (hcn : n = 0 ∧ A = none ∧ c = 0 ∨ c = n ∧ A ≠ none) (os : List (List Value)) (hr : RdRow w B A size n os)
    (B' : Nat) (A' : Option Addr) (m c' : Nat) (hx : act.eval x = .slice A' m c') (hm : 0 < m) (os' : List (List Value)) (hr' : RdRow w B' A' size m os') (h63 : n + m ≤ maxLen) (hbytes : (n + m) * bytes ≤ 140737488355328)
    (h : ∀ v' w', w'.ownsRow w.heap.size e size v' (n + m) (os.flatten ++ os'.flatten) → Below w.heap.size w w' → K (act.put o.dst v') w') : if Region.wanted o (yielded ops act.tmps) = true then Oper.wp P o act w K Q else E := by
  rw [if_pos (by simp [Region.wanted, hgd])]
  obtain ⟨v', w', hrun, h2, h3⟩ := run_append_full (P := P) w t o.type e i z size bytes ht hi hz hsize hby hzs B A n c hcn os hr B' A' m c' hm os' hr' h63 hbytes
  unfold Oper.wp execOp
  simp only [ho, resolve, invoke, builtin, Sem.run_bind, Sem.run_pure, Result.andThen_ok, List.map_toArray, List.map_cons, List.map_nil, hs, hx, hrun]
  exact h v' w' h2 h3
end Go.Proofs.Ytpahfckihcbajaa
