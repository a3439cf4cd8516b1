/-
  Words of this seat for byte strings in memory: what it is for a slice value to read as a list of bytes, and how that is kept when the world goes on. How the arguments of a law are opened: a byte slice, a fixed array of bytes. What a row's condition on package-level variables gives: the blocks of listed arrays of numbers, one deep and two deep. What the package-level variables of the library hold that the functions of layer 13 come to. The library's package-level variables that layer 13 comes to, out of a row's condition. A row that lists variables, its walk being given the world's shape too. Words for arrays of bytes that lie in a block of their own: a whole array stored and loaded, and a function's results of which the first is such an array. Words for a region that draws its order, walked by hand: the condition on the world may be made stronger on the way, so that what a call has made can be read first, too. Words for blocks, slices and the regions that draw their order which the texts of several layers share. Plain mathematics of numbers and their bytes, with no program in sight: the bytes of a number, the number of bytes, and that the one gives the other back. The mathematics of ChaCha20: quarter round, double round, core, block and stream over lists of words and bytes; no function of the program is named here. Words in memory, zero bytes, and what a walk says of slices of the call's own. The mathematics of the packets in the tunnel: addresses, prefixes, headers. No function of the program is named here. Plain mathematics of keys in base64, with no program in sight: what a text stands for, and that text and key give each other back. The mathematics of the texts of addresses, endpoints and prefixes. No function of the program is named here. Addresses, endpoints and prefixes are recovered from their texts. No function of the program is named here. Numbers of 64 bits. Whether two addresses are equal can be decided. No function of the program is named here. The load of a whole array that lies at an offset inside a block of several. A slice built of two arrays: its block holds the one behind the other. No statement is proved here.
-/
import Derived.Test.YtcbfchkhbngpkaaGreatDoorRows
import Derived.WalkKit
import Derived.WalkSpells
import Derived.WalkLawsBesides
import Derived.Lib.Hide
import Derived.Laws.OwnMore
import Derived.Laws.IdiomStrings
import Derived.Deep.Draws
import Derived.Deep.AppendLies
import Derived.Laws.CopyRow
import Derived.Laws.Rows
import Derived.ProofKit
import Derived.OpenShut
import Derived.LaidMore
import Derived.Stop.Joined
import Derived.MakeChecks
import Derived.Lib.LaidTab
import Derived.Lib.ItoaNum
import Derived.Shelf.Vars
import Derived.Handed
import Derived.LaidLaws
import Derived.Laws.Tables
import Derived.Stop.BytesEq
import Derived.Deep.RegionHeld3
import Derived.Below
import Derived.Laws.BitsAllLaws
import Derived.Lib.Bytealg
namespace Go.Proofs.YtcbfchkhbngpkaaGreatDoor
open Go.RowKit

theorem Tryz.info5 : (Tryz.prog.info? 5).map (fun i => (i.zero, i.size, i.bytes)) = some (some (.int .u8 0), 1, 1) := by kernel_rfl

theorem ret_int {k : IntKind} {a b : Int} (h : a = b) : Ending.returned (.int k a) = .returned (.int k b) := by rw [h]

/-- a byte as a cell -/
def u8v (b : UInt8) : Value := .int .u8 (b.toNat : Int)

/-- the slice value '.slice A n _' reads in w as the bytes l; its array lies below block B -/
def Rd (w : World) (B : Nat) (A : Option Addr) (n : Nat) (l : List UInt8) : Prop :=
  l.length = n ∧ (0 < n → ∃ b off, A = some ⟨b, off, none⟩ ∧ b < B ∧ ∀ j (h : j < l.length), w.cell? ⟨b, off + j, none⟩ = some (.int .u8 (l[j].toNat : Int)))

section
variable {w w' : World} {B B' n : Nat} {A : Option Addr} {l : List UInt8}

theorem Rd.nil (w : World) (B : Nat) (A : Option Addr) : Rd w B A 0 [] := ⟨rfl, fun h => absurd h (by omega)⟩
theorem Rd.keep (h : Rd w B A n l) (hk : ∀ p : Addr, p.block < B → w'.cell? p = w.cell? p) : Rd w' B A n l :=
  ⟨h.1, fun hn => by
    obtain ⟨b, off, e, hb, hc⟩ := h.2 hn
    exact ⟨b, off, e, hb, fun j hj => (hk _ hb).trans (hc j hj)⟩⟩
theorem Rd.mono (h : Rd w B A n l) (hB : B ≤ B') : Rd w B' A n l :=
  ⟨h.1, fun hn => by
    obtain ⟨b, off, e, hb, hc⟩ := h.2 hn
    exact ⟨b, off, e, by omega, hc⟩⟩
theorem Rd.below (h : Rd w B A n l) (hb : Below B w w') : Rd w' B A n l := h.keep fun _ hp => hb.cell hp
theorem Rd.drew (h : Rd w B A n l) : Rd w.drew B A n l := h
theorem Rd.drewN (h : Rd w B A n l) (k : Nat) : Rd (w.drewN k) B A n l := h
theorem Rd.alloc (h : Rd w B A n l) (hB : B ≤ w.heap.size) (o : Obj) : Rd (w.alloc o) B A n l := h.keep fun p hp => World.cell?_alloc_lt w o p (by omega)
/-- what is known inside a round: the address, and the cells -/
theorem Rd.at_ (h : Rd w B A n l) (hn : 0 < n) : ∃ b off, A = some ⟨b, off, none⟩ ∧ b < B ∧ ∀ j (hj : j < l.length), w.cell? ⟨b, off + j, none⟩ = some (.int .u8 (l[j].toNat : Int)) := h.2 hn
/-- a prefix of the same slice -/
theorem Rd.take (h : Rd w B A n l) {m : Nat} (hm : m ≤ n) : Rd w B A m (l.take m) := by
  have h1 := h.1
  refine ⟨by rw [List.length_take]; omega, fun hp => ?_⟩
  obtain ⟨b, off, e, hb, hc⟩ := h.2 (by omega)
  refine ⟨b, off, e, hb, fun j hj => ?_⟩
  rw [List.getElem_take]
  exact hc j _
end

theorem map_u8v_getElem? (l : List UInt8) (j : Nat) (hj : j < l.length) : (l.map u8v)[j]? = some (.int .u8 (l[j].toNat : Int)) := by simp [u8v, hj]

theorem u8v_one (l : List UInt8) : ∀ v ∈ l.map u8v, v.oneCell' = true := by
  intro v hv
  obtain ⟨b, _, rfl⟩ := List.mem_map.1 hv
  rfl

/-- what the call owns reads as the bytes -/
theorem Rd.of_own {w : World} {base n c : Nat} {A : Option Addr} {l : List UInt8} (h : w.ownsRow base 5 1 (.slice A n c) n (l.map u8v)) : Rd w w.heap.size A n l := by
  have hl : l.length = n := by simpa using h.1
  refine ⟨hl, fun hn => ?_⟩
  rcases h.2 with ⟨_, h0⟩ | ⟨g, cap, cur, hv, _, hg, _⟩
  · omega
  · simp only [Value.slice.injEq] at hv
    obtain ⟨rfl, _, rfl⟩ := hv
    refine ⟨g, 0, rfl, ?_, fun j hj => ?_⟩
    · exact ((h.lt g rfl)).2
    · rw [Nat.zero_add, h.cellAt j (by omega)]
      exact map_u8v_getElem? l j hj

theorem own_slice {w : World} {base e n : Nat} {v : Value} {xs : List Value} (h : w.ownsRow base e 1 v n xs) : ∃ A c, v = .slice A n c ∧ (A = none → n = 0) := by
  rcases h.2 with ⟨rfl, rfl⟩ | ⟨g, cap, cur, rfl, _⟩
  · exact ⟨none, 0, rfl, fun _ => rfl⟩
  · exact ⟨_, _, rfl, fun e => by cases e⟩

/-- what is owned above block 'base' stays owned while only blocks below the heap's size of then are spared -/
theorem own_below {w w' : World} {base e size n : Nat} {v : Value} {xs : List Value} (h : w.ownsRow base e size v n xs) (hb : Below w.heap.size w w') : w'.ownsRow base e size v n xs := by
  refine ⟨h.1, ?_⟩
  rcases h.2 with h1 | ⟨g, cap, cur, rfl, hbg, hg, hr⟩
  · exact .inl h1
  · exact .inr ⟨g, cap, cur, rfl, hbg, (hb.block g (h.lt g rfl).2).trans hg, hr⟩

theorem only_drew {a w : World} {row : Option Nat} (h : a.grownBy w row) : a.grownBy w.drew row := ⟨h.os, h.tape, h.output, h.size, h.block⟩
theorem grownBy_trans {a b c : World} {row : Option Nat} (h : a.grownBy b row) (k : b.grownBy c row) : a.grownBy c row :=
  ⟨k.os.trans h.os, k.tape.trans h.tape, k.output.trans h.output, Nat.le_trans h.size k.size, fun i hi hne => (k.block i (Nat.lt_of_lt_of_le hi h.size) hne).trans (h.block i hi hne)⟩

/-- 'string(b)' of a slice that reads as l -/
theorem run_string_of_rd {P : Program} {w : World} {B n : Nat} {A : Option Addr} {l : List UInt8} (src dst e : TypeId) (cap : Nat) (hs : P.underlying src = some (.slice e)) (he : P.underlying e = some (.int .u8)) (hd : P.underlying dst = some .string)
    (h : Rd w B A n l) : (convert src dst (.slice A n cap)).run P w = .ok (.string ⟨l.toArray⟩) w := by
  obtain ⟨rfl, h2⟩ := h
  rcases A with _ | a
  · have : l = [] := by
      rcases l with _ | ⟨x, l⟩
      · rfl
      · obtain ⟨_, _, h, _⟩ := h2 (by simp)
        cases h
    subst this
    rw [run_convert_bytes_string w src dst e none _ _ hs he hd]
    rfl
  · refine run_convert_bytes_back w src dst e a cap l hs he hd fun j hj => ?_
    obtain ⟨b, off, he, _, hc⟩ := h2 (by omega)
    cases he
    rw [Go.WideShapes.add_plain]
    exact hc j hj

/-- the row that an append may have written lies above base -/
theorem own_from {w : World} {base e size n : Nat} {v : Value} {xs : List Value} (h : w.ownsRow base e size v n xs) : ∀ k, v.ownBlock = some k → base ≤ k := fun k hk => (h.lt k hk).1

/-- block g is the cells cs of type t, none frozen -/
def Blk (w : World) (g : Nat) (t : TypeId) (cs : List Value) : Prop := w.heap[g]? = some (.cells cs.toArray t (0, 0))
theorem Blk.lt {w : World} {g : Nat} {t : TypeId} {cs : List Value} (h : Blk w g t cs) : g < w.heap.size := by
  rcases Nat.lt_or_ge g w.heap.size with hlt | hge
  · exact hlt
  · unfold Blk at h; rw [Array.getElem?_eq_none hge] at h; cases h
theorem Blk.cell {w : World} {g : Nat} {t : TypeId} {cs : List Value} (h : Blk w g t cs) (i : Nat) : w.cell? ⟨g, i, none⟩ = cs[i]? := by
  have := cell_of_row w g i cs.toArray t (0, 0) h
  simpa using this
theorem Blk.frozen {w : World} {g : Nat} {t : TypeId} {cs : List Value} (h : Blk w g t cs) (i : Nat) : w.frozen? ⟨g, i, none⟩ = false := frozen_of_row w g i cs.toArray t h
theorem Blk.new (w : World) (t : TypeId) (cs : List Value) : Blk (w.alloc (.cells cs.toArray t)) w.heap.size t cs := heap_alloc_new w _
theorem Blk.alloc {w : World} {g : Nat} {t : TypeId} {cs : List Value} (h : Blk w g t cs) (o : Obj) : Blk (w.alloc o) g t cs := (Below.heap_alloc w o g h.lt).trans h
theorem Blk.below {w w' : World} {g : Nat} {t : TypeId} {cs : List Value} {B : Nat} (h : Blk w g t cs) (hb : Below B w w') (hg : g < B) : Blk w' g t cs := (hb.block g hg).trans h
theorem Blk.grown {w w' : World} {g : Nat} {t : TypeId} {cs : List Value} {row : Option Nat} (h : Blk w g t cs) (hb : w.grownBy w' row) (hg : some g ≠ row) : Blk w' g t cs := (hb.block g h.lt hg).trans h
theorem Blk.set_ {w : World} {g : Nat} {t : TypeId} {cs : List Value} (h : Blk w g t cs) (i : Nat) (u : Value) : Blk (w.setCell ⟨g, i, none⟩ u) g t (cs.set i u) := by
  unfold Blk at h ⊢
  simp [World.setCell, Array.getElem?_modify, h]
theorem Blk.drew {w : World} {g : Nat} {t : TypeId} {cs : List Value} (h : Blk w g t cs) : Blk w.drew g t cs := h
/-- a stretch of a block of bytes reads as that stretch of the list -/
theorem Blk.rd {w : World} {g : Nat} {t : TypeId} {l : List UInt8} (h : Blk w g t (l.map u8v)) (off n : Nat) (hn : off + n ≤ l.length) : Rd w (g + 1) (some ⟨g, off, none⟩) n ((l.drop off).take n) := by
  have hl : ((l.drop off).take n).length = n := by simp; omega
  refine ⟨hl, fun _ => ⟨g, off, rfl, by omega, fun j hj => ?_⟩⟩
  rw [h.cell, map_u8v_getElem? l (off + j) (by omega)]
  simp

/-- the builtin copy of a whole row into a block, inside a region that draws its order -/
theorem step_copy_bytes {P : Program} (w : World) {ops : Array Oper} {o : Oper} {a : Act} {K : Act → World → Prop} {Q : Exit → Act → World → Prop} {E : Prop} (hgd : o.guard = none) (d s : Operand) (dT sT : TypeId)
    (ho : o.op = .call { callee := .builtin .copy, args := #[d, s], argTypes := #[dT, sT] }) (elem : TypeId) (hu : P.underlying dT = some (.slice elem)) (hsz : (P.info? elem).map (·.size) = some 1)
    (g off dLen dCap : Nat) (ad : Addr) (sLen sCap : Nat) (hd : a.eval d = .slice (some ⟨g, off, none⟩) dLen dCap) (hs : a.eval s = .slice (some ad) sLen sCap)
    (cur : List Value) (t : TypeId) (hg : Blk w g t cur) (cs : List Value) (hn : cs.length = Nat.min sLen dLen)
    (hsrc : ∀ j v, cs[j]? = some v → w.cell? (ad.add j) = some v) (hfit : off + cs.length ≤ cur.length) (h1 : ∀ v ∈ cs, v.oneCell' = true)
    (h : ∀ w', Blk w' g t (cur.take off ++ cs ++ cur.drop (off + cs.length)) → w.grownBy w' (some g) → K (a.put o.dst (goInt cs.length)) w') :
    if Region.wanted o (yielded ops a.tmps) = true then Oper.wp P o a w K Q else E := by
  have hw : Region.wanted o (yielded ops a.tmps) = true := by simp [Region.wanted, hgd]
  rw [if_pos hw]
  have hrun := run_copy_row (P := P) w dT sT o.type elem g off dLen dCap ad sLen sCap cur.toArray t cs hu hsz hg hn hsrc (by simpa using hfit) h1
  unfold Oper.wp execOp
  simp only [ho, resolve, invoke, builtin, Sem.run_bind, Sem.run_pure, Result.andThen_ok, List.map_toArray, List.map_cons, List.map_nil, hs, hd, hrun]
  refine h _ ?_ ⟨rfl, rfl, rfl, by simp, fun k _ hk => setRow_other w g k _ (fun e => hk (by simp [e]))⟩
  unfold Blk
  exact setRow_heap w g cur.toArray _ t _ hg

/-- 'x[l:h]' of an array of bytes that begins a block -/
theorem run_slice_array {P : Program} (w : World) (t e : TypeId) (N : Nat) (ht : P.underlying t = some (.array N e)) (i : TypeInfo) (hi : P.info? e = some i) (hs : i.size = 1)
    (b : Nat) (kl kh : IntKind) (l h : Nat) (L H : Int) (hL : L = (l : Int)) (hH : H = (h : Int)) (h1 : l ≤ h) (h2 : h ≤ N) (h3 : l < N) :
    (Instr.sliceAt t (.pointer (some ⟨b, 0, none⟩)) (some (.int kl L)) (some (.int kh H)) none).run P w = .ok (.slice (some ⟨b, l, none⟩) (h - l) (N - l)) w := by
  subst hL hH
  have eN : P.arrayLen t = N := by simp [Program.arrayLen, ht]
  have eE : P.elem t = e := by simp [Program.elem, ht]
  have := run_sliceAt_array_lh (P := P) w t ⟨b, 0, none⟩ (by rw [eN, eE]; exact ht) kl kh l h (by omega) (by omega) (by rw [eN]; omega)
  rw [this, eN, eE]
  have hz : (sizeOf e).run P w = .ok 1 w := by simp [sizeOf, typeInfo, hi, hs]
  rw [hz]
  simp [Result.andThen, slicedAt]
  rw [if_neg (by omega), Go.WideShapes.add_plain, Nat.zero_add]

/-- the builtin append onto a row of the call's own, outside such a region -/
theorem wpList_append_bytes {P : Program} (w : World) {ops : Array Oper} {rest : List Oper} {o : Oper} {a : Act} {Q : Exit → Act → World → Prop} (hgd : o.guard = none) (s x : Operand) (t : TypeId)
    (ho : o.op = .call { callee := .builtin .append, args := #[s, x], argTypes := #[t, t] })
    (base : Nat) (e : TypeId) (i : TypeInfo) (z : Value) (ht : P.underlying t = some (.slice e)) (hi : P.info? e = some i) (hz : i.zero = some z) (hsize : i.size = 1) (hby : i.bytes = 1) (hzs : z.cells.size = 1)
    (v : Value) (n : Nat) (xs : List Value) (hs : a.eval s = v) (hown : w.ownsRow base e 1 v n xs)
    (ad : Addr) (m c : Nat) (news : List Value) (hx : a.eval x = .slice (some ad) m c) (hl : news.length = m) (hnews : ∀ j u, news[j]? = some u → w.cell? (ad.add j) = some u) (h1 : ∀ u ∈ news, u.oneCell' = true)
    (h63 : n + m ≤ 100000000) (hbase : base ≤ w.heap.size)
    (h : ∀ v' w', w'.ownsRow base e 1 v' (n + m) (xs ++ news) → w.grownBy w' v.ownBlock → wpList P ops Q rest (a.put o.dst v') w') : wpList P ops Q (o :: rest) a w :=
  wpList_append_own w hgd s x t ho base e i z 1 1 ht hi hz hsize hby hzs (by omega) v n xs hs hown ad m c news hx (by rw [hl, Nat.mul_one]) hnews h1 (by unfold maxLen; omega) (by omega) hbase fun v' w' a b _ => h v' w' a b
theorem one_u8 (b : UInt8) : ∀ u ∈ [Value.int .u8 (b.toNat : Int)], u.oneCell' = true := by
  intro u hu
  simp only [List.mem_singleton] at hu
  subst hu
  rfl

/-- 'x[l:]' of an array of bytes that begins a block -/
theorem run_slice_array_from {P : Program} (w : World) (t e : TypeId) (N : Nat) (ht : P.underlying t = some (.array N e)) (i : TypeInfo) (hi : P.info? e = some i) (hs : i.size = 1)
    (b : Nat) (kl : IntKind) (l : Nat) (L : Int) (hL : L = (l : Int)) (h3 : l < N) :
    (Instr.sliceAt t (.pointer (some ⟨b, 0, none⟩)) (some (.int kl L)) none none).run P w = .ok (.slice (some ⟨b, l, none⟩) (N - l) (N - l)) w := by
  subst hL
  have eN : P.arrayLen t = N := by simp [Program.arrayLen, ht]
  have eE : P.elem t = e := by simp [Program.elem, ht]
  have := run_sliceAt_array_l (P := P) w t ⟨b, 0, none⟩ (by rw [eN, eE]; exact ht) kl l (by omega) (by rw [eN]; omega)
  rw [this, eN, eE]
  have hz : (sizeOf e).run P w = .ok 1 w := by simp [sizeOf, typeInfo, hi, hs]
  rw [hz]
  simp [Result.andThen, slicedAt]
  rw [if_neg (by omega), Go.WideShapes.add_plain, Nat.zero_add]
end Go.Proofs.YtcbfchkhbngpkaaGreatDoor
namespace Go.Proofs.YtcbfchkhbngpkaaGreatDoor
open Go.RowKit Go.ChangeShapes Go.WideShapes Go.ChangeAt

theorem own : ownKnob Tryz.prog.godebug = none := by kernel_rfl
theorem laidOut : laidOutB Tryz.prog = true := by kernel_rfl

section
variable {H : Type} {enc : TypeId × Value → H} {P : Program} {W : World}

theorem open_bytes {r : Reach} {b0 : Nat} {t e : TypeId} {v : Value} {d : DataW H} {p : List MemPlace} (ht : P.underlying t = some (.slice e)) (he : P.underlying e = some (.int .u8)) (hc : P.cellsOf e = 1)
    (hv : Value.okWide P W r b0 t v) (h : DataW.Trod enc P W 0 (fun _ => true) true t v d p) :
    ∃ A len cap l, v = .slice A len cap ∧ len ≤ cap ∧ cap ≤ maxLen ∧ Rd W W.heap.size A len l := by
  obtain ⟨A, len, cap, rfl⟩ := okWide_slice ht hv
  obtain ⟨fuel, hf⟩ := h
  rcases open_ints ht he hc hf with ⟨hcs, _⟩ | ⟨x, l, c, zs, hcs, _, hl, hm, hz, _, hcell, hwz⟩
  · simp [Value.cells] at hcs
    obtain ⟨rfl, rfl, rfl⟩ := hcs
    exact ⟨none, 0, 0, [], rfl, Nat.le_refl _, by simp, Rd.nil _ _ _⟩
  · simp [Value.cells] at hcs
    obtain ⟨rfl, rfl, rfl⟩ := hcs
    simp only [if_true] at hz
    have hlen : ((zs.take len).map (fun z => UInt8.ofNat z.toNat)).length = len := by simp; omega
    refine ⟨some x, len, cap, (zs.take len).map (fun z => UInt8.ofNat z.toNat), rfl, hl, hm, hlen, fun hp => ?_⟩
    obtain ⟨b, off, spot⟩ := x
    have h0 := hcell 0 (by omega)
    have hspot : spot = none := by simpa [Addr.add] using World.cell?_spot h0
    subst hspot
    refine ⟨b, off, rfl, by have := World.block_lt_of_cell? W _ h0; simpa [Addr.add] using this, fun j hj => ?_⟩
    have hj' : j < zs.length := by omega
    have hcj := hcell j hj'
    rw [add_plain] at hcj
    have hw := bounds_u8 (hwz zs[j] (List.getElem_mem hj'))
    rw [hcj, List.getElem_map, List.getElem_take]
    have : zs.getD j 0 = zs[j] := by simp [List.getD, hj']
    rw [this, UInt8.toNat_ofNat', Nat.mod_eq_of_lt (by omega)]
    congr 2
    omega

end
end Go.Proofs.YtcbfchkhbngpkaaGreatDoor
namespace Go.Proofs.YtcbfchkhbngpkaaGreatDoor
open Go.RowKit Go.ChangeShapes Go.WideShapes Go.ChangeAt

theorem laid_data {P : Program} {l : List (String × DataW Unit)} {W : World} (h : laidMetH P l W) : laidMet P (l.filter fun x => x.2.handleName?.isNone) W := by
  unfold laidMetH at h
  generalize hfl : (l.filter fun x => x.2.handleName?.isSome) = fl at h
  cases fl with
  | nil =>
    have e : (l.filter fun x => x.2.handleName?.isNone) = l := by
      rw [List.filter_eq_self]
      intro x hx
      have := (List.filter_eq_nil_iff.1 hfl) x hx
      cases hn : x.2.handleName? with
      | none => rfl
      | some s => rw [hn] at this; exact absurd rfl this
    rw [e]
    exact h
  | cons y ys => exact h.1
theorem laid_in {P : Program} {W : World} : ∀ {l : List (String × DataW Unit)} {ps : List MemPlace}, DataW.LaidVars P W l ps → ∀ {n : String} {d : DataW Unit}, (n, d) ∈ l →
    ∃ g t cs fuel p, P.globalNamed n = some g ∧ (P.globals[g]?).map (·.type) = some t ∧ W.var? P n = some cs ∧ DataW.trod (fun _ => ()) P W 0 (fun _ => true) false fuel t cs.toList = some (d, p) ∧ (0 < cs.size → MemPlace.cell g 0 ∈ ps)
  | [], _, _, _, _, hx => by cases hx
  | (n0, d0) :: r, ps, h, n, d, hx => by
    obtain ⟨g, t, cs, fuel, p, q, hg, ht, hv, hd, hr, hps⟩ := h
    rcases List.mem_cons.1 hx with e | hx'
    · obtain ⟨rfl, rfl⟩ := Prod.mk.injEq .. ▸ e
      refine ⟨g, t, cs, fuel, p, hg, ht, hv, hd, fun h0 => ?_⟩
      rw [hps]
      refine List.mem_append_left _ (List.mem_append_left _ ?_)
      unfold MemPlace.row
      exact List.mem_map.2 ⟨0, List.mem_range.2 h0, rfl⟩
    · obtain ⟨g', t', cs', fuel', p', h1, h2, h3, h4, h5⟩ := laid_in hr hx'
      refine ⟨g', t', cs', fuel', p', h1, h2, h3, h4, fun h0 => ?_⟩
      rw [hps]
      exact List.mem_append_right _ (h5 h0)
/-- a listed variable's block -/
theorem laid_blk {P : Program} {W : World} {l : List (String × DataW Unit)} (h : laidMetH P l W) {n : String} {d : DataW Unit} (hx : (n, d) ∈ l) (hn : d.handleName?.isNone = true) {g0 : Nat} {t0 : TypeId} (hg0 : P.globalNamed n = some g0) (ht0 : (P.globals[g0]?).map (·.type) = some t0) :
    ∃ (cs : List Value) (fuel : Nat) (p : List MemPlace), DataW.trod (fun _ => ()) P W 0 (fun _ => true) false fuel t0 cs = some (d, p) ∧ (0 < cs.length → ∃ t, Blk W g0 t cs) := by
  obtain ⟨ps, hl, _, hcell⟩ := laid_data h
  obtain ⟨g, t, cs, fuel, p, hg, ht, hv, hd, hp⟩ := laid_in hl (List.mem_filter.2 ⟨hx, hn⟩)
  obtain rfl := Option.some.inj (hg0.symm.trans hg)
  obtain rfl := Option.some.inj (ht0.symm.trans ht)
  refine ⟨cs.toList, fuel, p, hd, fun h0 => ?_⟩
  obtain ⟨⟨c, t, hc⟩, _⟩ := hcell g0 0 (hp (by simpa using h0))
  refine ⟨t, ?_⟩
  simp only [World.var?, hg, Option.bind_some, hc, Option.some.injEq] at hv
  subst hv
  exact hc
section
variable {H : Type} {enc : TypeId × Value → H} {P : Program} {w : World} {base : Nat} {sp : Nat → Bool} {held : Bool}
theorem laid_ints {fuel : Nat} {t e : TypeId} {n : Nat} {k : IntKind} {cs : List Value} {zs : List Int} {p : List MemPlace} (ht : P.underlying t = some (.array n e)) (he : P.underlying e = some (.int k)) (hc : P.cellsOf e = 1) (hct : P.cellsOf t = n)
    (h : DataW.trod enc P w base sp held fuel t cs = some (.agg (zs.map fun z => .lit (.int k z)), p)) : cs = zs.map fun z => .int k z := by
  obtain ⟨xs, m, _, hx, hl, hn, hat⟩ := DataW.trod_array ht h
  simp only [Prod.mk.injEq, DataW.agg.injEq] at hx
  have hzl : zs.length = n := by
    have := congrArg List.length hx.1
    simp only [List.length_map] at this
    omega
  apply List.ext_getElem?
  intro i
  by_cases hi : i < n
  · have h1 := hat i hi
    rw [hc, Nat.mul_one] at h1
    have hxi : xs[i]? = some (xs[i]'(by omega)) := List.getElem?_eq_getElem (by omega)
    rw [hxi] at h1
    obtain ⟨z, hz, hy, _⟩ := DataW.trod_int he h1
    have h2 : (zs.map fun z => (DataW.lit (.int k z) : DataW H))[i]? = (xs.map (·.1))[i]? := by rw [hx.1]
    rw [List.getElem?_map, List.getElem?_map, hxi, hy, List.getElem?_eq_getElem (show i < zs.length by omega)] at h2
    simp only [Option.map_some, Option.some.injEq, DataW.lit.injEq, Lit.int.injEq, true_and] at h2
    have h3 : cs[i]? = some (.int k z) := by
      have h4 := congrArg (fun l : List Value => l[0]?) hz
      simpa [List.getElem?_take, List.getElem?_drop] using h4
    rw [h3, List.getElem?_map, List.getElem?_eq_getElem (show i < zs.length by omega), ← h2]
    rfl
  · rw [List.getElem?_eq_none (by omega), List.getElem?_eq_none (by simp; omega)]
end
end Go.Proofs.YtcbfchkhbngpkaaGreatDoor
namespace Go.Proofs.YtcbfchkhbngpkaaGreatDoor
open Go.RowKit

/-- the powers of ten, the table of trailing zeros at 16, the error of a number's form, the greatest length of bytealg -/
def LvCf (w : World) : Prop :=
  Lib.TabIs Tryz.prog w "internal/strconv.uint64pow10" .u64 Lib.pow10Tab ∧
  w.cell? ⟨7, 15, none⟩ = some (.int .u8 4) ∧
  (∃ tp p, w.var? Tryz.prog "strconv.ErrSyntax" = some #[.iface tp p]) ∧
  ∃ m, w.cell? ⟨1, 0, none⟩ = some (.int .i64 m)
theorem var_below {P : Program} {w w' : World} {n : String} {cs : Array Value} (h : w.var? P n = some cs) (hb : Below w.heap.size w w') : w'.var? P n = some cs := by
  unfold World.var? at h ⊢
  cases hg : P.globalNamed n with
  | none => rw [hg] at h; cases h
  | some g =>
    rw [hg] at h
    simp only [Option.bind_some] at h ⊢
    cases hx : w.heap[g]? with
    | none => rw [hx] at h; cases h
    | some o =>
      rw [hb.block g (Array.getElem?_eq_some_iff.1 hx).1, hx]
      rw [hx] at h
      exact h
theorem cell_below {w w' : World} {a : Addr} {v : Value} (h : w.cell? a = some v) (hb : Below w.heap.size w w') : w'.cell? a = some v := by
  refine (hb.cell ?_).trans h
  unfold World.cell? at h
  cases hx : w.heap[a.block]? with
  | none => simp [hx] at h
  | some o => exact (Array.getElem?_eq_some_iff.1 hx).1
theorem LvCf.below {w w' : World} (h : LvCf w) (hb : Below w.heap.size w w') : LvCf w' := by
  obtain ⟨h1, h2, ⟨tp, p, h3⟩, m, h4⟩ := h
  exact ⟨var_below h1 hb, cell_below h2 hb, ⟨tp, p, var_below h3 hb⟩, m, cell_below h4 hb⟩
end Go.Proofs.YtcbfchkhbngpkaaGreatDoor
namespace Go.Proofs.YtcbfchkhbngpkaaGreatDoor
open Go.RowKit

def laidL : List (String × DataW Unit) := [("math/bits.deBruijn32tab", Rows.laid_math_bits_deBruijn32tab), ("math/bits.deBruijn64tab", Rows.laid_math_bits_deBruijn64tab), ("internal/strconv.uint64pow10", Rows.laid_internal_strconv_uint64pow10), ("unicode/utf8.acceptRanges", Rows.laid_unicode_utf8_acceptRanges), ("strconv.ErrRange", Rows.laid_strconv_ErrRange), ("strconv.ErrSyntax", Rows.laid_strconv_ErrSyntax), ("unicode/utf8.first", Rows.laid_unicode_utf8_first)]
def db64 : List Int := [0, 1, 56, 2, 57, 49, 28, 3, 61, 58, 42, 50, 38, 29, 17, 4, 62, 47, 59, 36, 45, 43, 51, 22, 53, 39, 33, 30, 24, 18, 12, 5, 63, 55, 48, 27, 60, 41, 37, 16, 46, 35, 44, 21, 52, 32, 23, 11, 54, 26, 40, 15, 34, 20, 31, 10, 25, 14, 19, 9, 13, 8, 7, 6]
set_option maxRecDepth 100000 in
theorem laid_db_is : (Rows.laid_math_bits_deBruijn64tab : DataW Unit) = .agg (db64.map fun z => .lit (.int .u8 z)) := by kernel_rfl
set_option maxRecDepth 100000 in
theorem laid_pow_is : (Rows.laid_internal_strconv_uint64pow10 : DataW Unit) = .agg (Lib.pow10Tab.map fun z => .lit (.int .u64 z)) := by kernel_rfl
/-- a listed variable, as it is looked up by its name -/
theorem laid_var {P : Program} {W : World} {l : List (String × DataW Unit)} (h : laidMetH P l W) {n : String} {d : DataW Unit} (hx : (n, d) ∈ l) (hn : d.handleName?.isNone = true) {g0 : Nat} {t0 : TypeId} (hg0 : P.globalNamed n = some g0) (ht0 : (P.globals[g0]?).map (·.type) = some t0) :
    ∃ (cs : Array Value) (fuel : Nat) (p : List MemPlace), W.var? P n = some cs ∧ DataW.trod (fun _ => ()) P W 0 (fun _ => true) false fuel t0 cs.toList = some (d, p) := by
  obtain ⟨ps, hl, _, _⟩ := laid_data h
  obtain ⟨g, t, cs, fuel, p, hg, ht, hv, hd, _⟩ := laid_in hl (List.mem_filter.2 ⟨hx, hn⟩)
  obtain rfl := Option.some.inj (hg0.symm.trans hg)
  obtain rfl := Option.some.inj (ht0.symm.trans ht)
  exact ⟨cs, fuel, p, hv, hd⟩
theorem lvCf_of {W : World} (h : laidMetH Tryz.prog laidL W) (hs : W.ShapedOpen Tryz.prog) : LvCf W := by
  refine ⟨?_, ?_, ?_, cell_of_shapedOpen_int (t := 3) (zero := #[.int .i64 0]) hs (of_decide_eq_true (by kernel_rfl)) (by kernel_rfl) rfl (by kernel_rfl) (by kernel_rfl) Tryz.underlying3⟩
  · obtain ⟨cs, fuel, p, hv, hd⟩ := laid_var h (.tail _ (.tail _ (.head _))) (by kernel_rfl) (show Tryz.prog.globalNamed "internal/strconv.uint64pow10" = some 0 by kernel_rfl) (show (Tryz.prog.globals[0]?).map (·.type) = some 161 by kernel_rfl)
    rw [laid_pow_is] at hd
    have e := laid_ints Tryz.underlying161 Tryz.underlying90 (by kernel_rfl) (by kernel_rfl) hd
    rw [Lib.TabIs, hv, ← e]
  · obtain ⟨cs, fuel, p, hd, hb⟩ := laid_blk h (.tail _ (.head _)) (by kernel_rfl) (show Tryz.prog.globalNamed "math/bits.deBruijn64tab" = some 7 by kernel_rfl) (show (Tryz.prog.globals[7]?).map (·.type) = some 207 by kernel_rfl)
    rw [laid_db_is] at hd
    have e := laid_ints Tryz.underlying207 Tryz.underlying5 (by kernel_rfl) (by kernel_rfl) hd
    subst e
    obtain ⟨t, hb⟩ := hb (by decide)
    exact hb.cell 15
  · obtain ⟨cs, fuel, p, hv, hd⟩ := laid_var h (.tail _ (.tail _ (.tail _ (.tail _ (.tail _ (.head _)))))) (by kernel_rfl) (show Tryz.prog.globalNamed "strconv.ErrSyntax" = some 2 by kernel_rfl) (show (Tryz.prog.globals[2]?).map (·.type) = some 99 by kernel_rfl)
    obtain ⟨f1, u, v, e, _, _⟩ := iface_of_trod Tryz.underlying99 hd
    refine ⟨u, v, ?_⟩
    rw [hv]
    exact congrArg some (Array.toList_inj.1 e)
end Go.Proofs.YtcbfchkhbngpkaaGreatDoor
namespace Go.Proofs.YtcbfchkhbngpkaaGreatDoor
open Go.RowKit

theorem returns_shaped {H : Type} {enc : TypeId × Value → H} {a : Assume} {C : Checked} {os : Os} {f : FuncId} {fn : Func} {s : ChangeSpec} {conds : List PathCond} {apart fresh handsOn again : Bool} {X : World → Array Value → Prop}
    (hX : ∀ (w w' : World) (args : Array Value), w.heap = w'.heap → X w args → X w' args)
    (own : ownKnob C.prog.godebug = none) (started : os.Started) (noInit : C.prog.inits.idxOf? f = none) (hfn : C.prog.funcs[f]? = some fn)
    (witness : ∃ (w : World) (tape : Tape) (i : Input), w.os = os ∧ (w.forCall tape i).Shaped C.prog ∧ i.vars = [] ∧ Input.okWide C.prog (w.forCall tape i) .any w.heap.size f i ∧
      ((s.pre enc C.prog fn conds apart (w.forCall tape i).memory i.args ∧ X (w.forCall tape i).memory i.args) ∧ sizedMet enc C.prog fn (OpenSpec.ofChange s) apart (w.forCall tape i).memory i.args) ∧ a.holds C.prog (lone (Frame.enter C.prog f i.args .normal) [] (w.forCall tape i)))
    (walk : ∀ (W : World) (base : Nat) (args : Array Value) (ds gs : List (DataW H)) (before : List MemPlace), W.ShapedOpen C.prog →
      (∀ (j : Nat) t v, fn.params[j]? = some t → args[j]? = some v → Value.okWide C.prog W .any base t v) →
      DataW.Whole enc C.prog fn.params.toList s.vars apart W args.toList ds gs before → X W args →
      Calls C.prog f args W fun e W' => ∃ v, e = .returned v ∧ s.post enc C.prog fn apart fresh handsOn again W args v W') :
    ReturnsInHanded a C os f .any (fun w args => (s.pre enc C.prog fn conds apart w args ∧ X w args) ∧ sizedMet enc C.prog fn (OpenSpec.ofChange s) apart w args) (s.post enc C.prog fn apart fresh handsOn again) := by
  refine returnsInHanded_of_calls own started noInit witness ?_
  intro w tape i _ hsh _ hok hpre _
  obtain ⟨_, _, _, fn2, hfn2, _, _, _, _, hval⟩ := hok
  obtain rfl : fn2 = fn := Option.some.inj (hfn2.symm.trans hfn)
  obtain ⟨⟨⟨ds, gs, before, hw, _⟩, hx⟩, _⟩ := hpre
  refine (walk (w.forCall tape i) w.heap.size i.args ds gs before hsh hval (DataW.Whole.of_heap (w' := w.forCall tape i) (by rfl) hw) (hX _ _ _ (by rfl) hx)).mono ?_
  rintro e W' ⟨v, rfl, hp⟩
  exact ChangeSpec.post_blind hp
end Go.Proofs.YtcbfchkhbngpkaaGreatDoor
namespace Go.Proofs.YtcbfchkhbngpkaaGreatDoor
open Go.RowKit

theorem wpList_store_blk {P : Program} {w : World} {ops : Array Oper} {rest : List Oper} {o : Oper} {a : Act} {Q : Exit → Act → World → Prop} (hgd : o.guard = none) (ty : TypeId) (x y : Operand) (ho : o.op = .store ty x y)
    (g : Nat) (cs : List Value) (hx : a.eval x = .pointer (some ⟨g, 0, none⟩)) (hy : a.eval y = .agg cs.toArray)
    (t : TypeId) (old : List Value) (hg : Blk w g t old) (hi : (P.info? ty).map (·.size) = some cs.length) (hold : old.length = cs.length) (h1 : ∀ v ∈ cs, v.oneCell' = true)
    (h : ∀ w', Blk w' g t cs → w.grownBy w' (some g) → wpList P ops Q rest (a.put o.dst undef) w') : wpList P ops Q (o :: rest) a w := by
  refine wpList_store_row hgd ty x y ho g cs.toArray hx hy t old.toArray hg (by simpa using hi) (by simpa using hold) (by simpa using h1) (h _ ?_ ⟨rfl, rfl, rfl, by simp, fun k _ hk => setRow_other w g k _ (fun e => hk (by simp [e]))⟩)
  exact setRow_heap w g old.toArray _ t _ hg

theorem wpList_load_blk {P : Program} {w : World} {ops : Array Oper} {rest : List Oper} {o : Oper} {a : Act} {Q : Exit → Act → World → Prop} (hgd : o.guard = none) (ty : TypeId) (x : Operand) (ho : o.op = .load ty x)
    (g : Nat) (hx : a.eval x = .pointer (some ⟨g, 0, none⟩)) (t : TypeId) (cs : List Value) (hg : Blk w g t cs) (n : Nat) (e : TypeId) (hu : P.underlying ty = some (.array n e)) (hi : (P.info? ty).map (·.size) = some cs.length)
    (h : wpList P ops Q rest (a.put o.dst (.agg cs.toArray)) w) : wpList P ops Q (o :: rest) a w :=
  wpList_load_row hgd ty x ho g hx t cs.toArray (0, 0) _ hg hu rfl (by simpa using hi) h

theorem results_key {P : Program} {fn : Func} {p q : Tmp} {ty : TypeId} (h : fn.results = #[.cell p ty, .tmp q]) (tmps : Array Value) (w : World) (g : Nat) (t : TypeId) (cs : List Value) (n : Nat) (e : TypeId)
    (hp : tmps.getD p undef = .pointer (some ⟨g, 0, none⟩)) (hg : Blk w g t cs) (hu : P.underlying ty = some (.array n e)) (hi : (P.info? ty).map (·.size) = some cs.length) :
    (results fn tmps).run P w = .ok (.tuple #[.agg cs.toArray, tmps.getD q undef]) w := by
  have hp' : tmps[p]?.getD undef = .pointer (some ⟨g, 0, none⟩) := by simpa using hp
  simp [results, h, hp', asAddr, run_loadVar_row w g t ty cs.toArray (0, 0) _ hg hu rfl (by simpa using hi)]
theorem Blk.far {w : World} {g : Nat} {t : TypeId} {cs : List Value} (h : Blk w g t cs) {p : Addr} (hp : g ≠ p.block) (u : Value) : Blk (w.setCell p u) g t cs := (Below.heap_setCell w p u g hp).trans h
theorem below_blk {w0 w w' : World} {g : Nat} (h : Below w0.heap.size w0 w) (hg : w.grownBy w' (some g)) (hb : w0.heap.size ≤ g) : Below w0.heap.size w0 w' :=
  h.grown hg h.size (fun k hk => by injection hk with hk; omega)

end Go.Proofs.YtcbfchkhbngpkaaGreatDoor
namespace Go.Proofs.YtcbfchkhbngpkaaGreatDoor
open Go.RowKit

theorem getElem?_of_drop {ops : Array Oper} {i : Nat} {o : Oper} {r : List Oper} (h : ops.toList.drop i = o :: r) : ops[i]? = some o := by
  have := List.getElem?_drop (xs := ops.toList) (i := i) (j := 0)
  rw [h] at this
  simpa using this.symm
/-- take an operation first; it is read off the list, written out -/
theorem take_first {P : Program} {md : Region.Mode} {ops : Array Oper} {Q : Exit → Act → World → Prop} {S : World → Prop} {r : List Oper} {oi : Oper} {v : Value} {fuel : Nat} {listed : Array Bool} {a : Act} {w : World} (i : Nat) (hi : ops.toList.drop i = oi :: r)
    (hs : Region.noSelect ops = true) (hf : Region.free md ops listed i = true) (hr : (Region.ready md ops listed).contains i = true)
    (hQ : ∀ c a w, Q (.panic c) (a.put oi.dst v) w → Q (.panic c) a w) (hy : YieldsIf P ops S oi v a) (hS : S w)
    (h : wpAnyH P md ops Q S fuel (listed.setIfInBounds i true) (a.put oi.dst v) w) : wpAnyH P md ops Q S (fuel + 1) listed a w :=
  wpAnyH_take (getElem?_of_drop hi) hs hf hr hQ hy hS h
/-- the one operation that may come up -/
theorem step_one {P : Program} {md : Region.Mode} {ops : Array Oper} {Q : Exit → Act → World → Prop} {S : World → Prop} {r : List Oper} {o : Oper} {fuel : Nat} {listed : Array Bool} {a : Act} {w : World} (i : Nat) (hi : ops.toList.drop i = o :: r)
    (hr : Region.ready md ops listed = [i])
    (h : ∀ K' : Act → World → Prop, Shut (∀ a w, S w → (S w → wpAnyH P md ops Q S fuel (listed.setIfInBounds i true) a w) → K' a w) → if Region.wanted o (yielded ops a.tmps) = true then Oper.wp P o a w K' Q else K' (a.put o.dst undef) w) :
    wpAnyH P md ops Q S (fuel + 1) listed a w :=
  wpAnyH_ready hr (by simp) (AllReadyH.cons (getElem?_of_drop hi) h AllReadyH.nil)
end Go.Proofs.YtcbfchkhbngpkaaGreatDoor
namespace Go.Proofs.YtcbfchkhbngpkaaGreatDoor
open Go.RowKit

theorem Rd.drop {w : World} {B n : Nat} {A : Option Addr} {l : List UInt8} (h : Rd w B A n l) (m : Nat) (b off : Nat) (hA : A = some ⟨b, off, none⟩) (hm : m ≤ n) : Rd w B (some ⟨b, off + m, none⟩) (n - m) (l.drop m) := by
  have h1 := h.1
  refine ⟨by rw [List.length_drop]; omega, fun hp => ?_⟩
  obtain ⟨b', off', e, hb, hc⟩ := h.2 (by omega)
  rw [hA] at e
  injection e with e
  injection e with e1 e2
  subst e1 e2
  refine ⟨b, off + m, rfl, hb, fun j hj => ?_⟩
  rw [List.length_drop] at hj
  rw [List.getElem_drop, Nat.add_assoc]
  exact hc (m + j) (by omega)
theorem Rd.src {w : World} {B n : Nat} {ad : Addr} {l : List UInt8} (h : Rd w B (some ad) n l) : ∀ j v, (l.map u8v)[j]? = some v → w.cell? (ad.add j) = some v := by
  intro j v hv
  have hj : j < l.length := by simpa using (List.getElem?_eq_some_iff.1 hv).1
  obtain ⟨b, off, he, _, hc⟩ := h.2 (by have := h.1; omega)
  cases he
  rw [Go.WideShapes.add_plain, hc j hj]
  rw [map_u8v_getElem? l j hj] at hv
  exact hv
/-- a store of a whole array inside a region that draws its order -/
theorem step_store_blk {P : Program} (w : World) {ops : Array Oper} {o : Oper} {a : Act} {K : Act → World → Prop} {Q : Exit → Act → World → Prop} {E : Prop} (hgd : o.guard = none) (ty : TypeId) (x y : Operand) (ho : o.op = .store ty x y)
    (g : Nat) (cs : List Value) (hx : a.eval x = .pointer (some ⟨g, 0, none⟩)) (hy : a.eval y = .agg cs.toArray) (t : TypeId) (old : List Value) (hg : Blk w g t old) (hi : (P.info? ty).map (·.size) = some cs.length) (hold : old.length = cs.length) (h1 : ∀ v ∈ cs, v.oneCell' = true)
    (h : ∀ w', Blk w' g t cs → w.grownBy w' (some g) → K (a.put o.dst undef) w') : if Region.wanted o (yielded ops a.tmps) = true then Oper.wp P o a w K Q else E := by
  have hw : Region.wanted o (yielded ops a.tmps) = true := by simp [Region.wanted, hgd]
  rw [if_pos hw]
  refine wp_store_row ty x y ho g cs.toArray hx hy t old.toArray hg (by simpa using hi) (by simpa using hold) (by simpa using h1) (h _ ?_ ⟨rfl, rfl, rfl, by simp, fun k _ hk => setRow_other w g k _ (fun e => hk (by simp [e]))⟩)
  exact setRow_heap w g old.toArray _ t _ hg
theorem step_two {P : Program} {md : Region.Mode} {ops : Array Oper} {Q : Exit → Act → World → Prop} {S : World → Prop} {r r' : List Oper} {o o' : Oper} {fuel : Nat} {listed : Array Bool} {a : Act} {w : World} (i j : Nat) (hi : ops.toList.drop i = o :: r) (hj : ops.toList.drop j = o' :: r')
    (hr : Region.ready md ops listed = [i, j])
    (h : ∀ K' : Act → World → Prop, Shut (∀ a w, S w → (S w → wpAnyH P md ops Q S fuel (listed.setIfInBounds i true) a w) → K' a w) → if Region.wanted o (yielded ops a.tmps) = true then Oper.wp P o a w K' Q else K' (a.put o.dst undef) w)
    (h' : ∀ K' : Act → World → Prop, Shut (∀ a w, S w → (S w → wpAnyH P md ops Q S fuel (listed.setIfInBounds j true) a w) → K' a w) → if Region.wanted o' (yielded ops a.tmps) = true then Oper.wp P o' a w K' Q else K' (a.put o'.dst undef) w) :
    wpAnyH P md ops Q S (fuel + 1) listed a w :=
  wpAnyH_ready hr (by simp) (AllReadyH.cons (getElem?_of_drop hi) h (AllReadyH.cons (getElem?_of_drop hj) h' AllReadyH.nil))
/-- the builtin copy of a whole row into a block -/
theorem wpList_copy_bytes {P : Program} (w : World) {ops : Array Oper} {rest : List Oper} {o : Oper} {a : Act} {Q : Exit → Act → World → Prop} (hgd : o.guard = none) (d s : Operand) (dT sT : TypeId)
    (ho : o.op = .call { callee := .builtin .copy, args := #[d, s], argTypes := #[dT, sT] }) (elem : TypeId) (hu : P.underlying dT = some (.slice elem)) (hsz : (P.info? elem).map (·.size) = some 1)
    (g off dLen dCap : Nat) (ad : Addr) (sLen sCap : Nat) (hd : a.eval d = .slice (some ⟨g, off, none⟩) dLen dCap) (hs : a.eval s = .slice (some ad) sLen sCap)
    (cur : List Value) (t : TypeId) (hg : Blk w g t cur) (cs : List Value) (hn : cs.length = Nat.min sLen dLen)
    (hsrc : ∀ j v, cs[j]? = some v → w.cell? (ad.add j) = some v) (hfit : off + cs.length ≤ cur.length) (h1 : ∀ v ∈ cs, v.oneCell' = true)
    (h : ∀ w', Blk w' g t (cur.take off ++ cs ++ cur.drop (off + cs.length)) → w.grownBy w' (some g) → wpList P ops Q rest (a.put o.dst (goInt cs.length)) w') : wpList P ops Q (o :: rest) a w := by
  refine wpList_plain hgd fun K hK => ?_
  have hrun := run_copy_row (P := P) w dT sT o.type elem g off dLen dCap ad sLen sCap cur.toArray t cs hu hsz hg hn hsrc (by simpa using hfit) h1
  unfold Oper.wp execOp
  simp only [ho, resolve, invoke, builtin, Sem.run_bind, Sem.run_pure, Result.andThen_ok, List.map_toArray, List.map_cons, List.map_nil, hs, hd, hrun]
  refine hK _ _ (h _ ?_ ⟨rfl, rfl, rfl, by simp, fun k _ hk => setRow_other w g k _ (fun e => hk (by simp [e]))⟩)
  unfold Blk
  exact setRow_heap w g cur.toArray _ t _ hg
end Go.Proofs.YtcbfchkhbngpkaaGreatDoor
namespace Go.Proofs.YtcbfchkhbngpkaaGreatDoor

theorem getD_lt {l : List UInt8} {i : Nat} (h : i < l.length) : l.getD i 0 = l[i] := by simp [List.getD, h]

/-- byte i of the number n -/
def byteOf (n i : Nat) : UInt8 := UInt8.ofNat (n / 2 ^ (8 * i) % 256)
theorem byteOf_toNat (n i : Nat) : (byteOf n i).toNat = n / 2 ^ (8 * i) % 256 := by
  unfold byteOf
  rw [UInt8.toNat_ofNat']
  exact Nat.mod_eq_of_lt (by omega)
theorem byteOf_cast (n i : Nat) : ((byteOf n i).toNat : Int) = (n : Int) / 2 ^ (8 * i) % 256 := by
  rw [byteOf_toNat, Int.natCast_emod, Int.natCast_ediv, Int.natCast_pow]; rfl

/-- the k lowest bytes, the least significant one first -/
def littleL (n k : Nat) : List UInt8 := (List.range k).map (byteOf n)
theorem littleL_length (n k : Nat) : (littleL n k).length = k := by simp [littleL]
theorem littleL_succ (n k : Nat) : littleL n (k + 1) = littleL n k ++ [byteOf n k] := by simp [littleL, List.range_succ]
/-- a row of k bytes whose first j are those of n, the others 0 -/
def littleRow (n k j : Nat) : List UInt8 := littleL n j ++ List.replicate (k - j) 0
theorem littleRow_zero (n k : Nat) : littleRow n k 0 = List.replicate k 0 := by simp [littleRow, littleL]
theorem littleRow_end (n k : Nat) : littleRow n k k = littleL n k := by simp [littleRow]
theorem littleRow_set (n k j : Nat) (h : j < k) : (littleRow n k j).set j (byteOf n j) = littleRow n k (j + 1) := by
  unfold littleRow
  rw [List.set_append_right _ _ (by rw [littleL_length]; exact Nat.le_refl _), littleL_length, Nat.sub_self, littleL_succ, show k - j = (k - (j + 1)) + 1 from by omega, List.replicate_succ, List.set_cons_zero, List.append_assoc]
  rfl

/-- the number of bytes, the least significant one first -/
def numL : List UInt8 → Nat
  | [] => 0
  | b :: l => b.toNat + 256 * numL l
theorem numL_lt : ∀ l : List UInt8, numL l < 256 ^ l.length
  | [] => by simp [numL]
  | b :: l => by
    have h := numL_lt l
    have hb := b.toNat_lt
    simp only [numL, List.length_cons, Nat.pow_succ]
    omega
theorem numL_append : ∀ l r : List UInt8, numL (l ++ r) = numL l + 256 ^ l.length * numL r
  | [], r => by simp [numL]
  | b :: l, r => by
    simp only [List.cons_append, numL, numL_append l r, List.length_cons, Nat.pow_succ]
    rw [Nat.mul_add, Nat.mul_comm (256 ^ l.length) 256, Nat.mul_assoc]
    omega
theorem pow_256 (j : Nat) : 256 ^ j = 2 ^ (8 * j) := by rw [Nat.pow_mul]
theorem numL_little (n : Nat) : ∀ k, numL (littleL n k) = n % 256 ^ k
  | 0 => by simp [littleL, numL, Nat.mod_one]
  | k + 1 => by
    rw [littleL_succ, numL_append, littleL_length, numL_little n k]
    simp only [numL, byteOf_toNat, Nat.mul_zero, Nat.add_zero]
    rw [← pow_256, Nat.pow_succ, Nat.mod_mul]
theorem numL_reverse_concat (l : List UInt8) (b : UInt8) : numL ((l ++ [b]).reverse) = numL l.reverse * 256 + b.toNat := by
  simp [numL]; omega
/-- the number of bytes, the most significant one first -/
def numB (l : List UInt8) : Nat := numL l.reverse
theorem numB_take_succ (l : List UInt8) (j : Nat) (h : j < l.length) : numB (l.take (j + 1)) = numB (l.take j) * 256 + l[j].toNat := by
  unfold numB
  rw [List.take_succ_eq_append_getElem h, numL_reverse_concat]

/-- a list whose first k and last k elements have changed places -/
def revRow (l : List UInt8) (k : Nat) : List UInt8 := (List.range l.length).map fun m => if m < k ∨ l.length - 1 - m < k then l.getD (l.length - 1 - m) 0 else l.getD m 0
theorem revRow_length (l : List UInt8) (k : Nat) : (revRow l k).length = l.length := by simp [revRow]
theorem revRow_get (l : List UInt8) (k m : Nat) (h : m < (revRow l k).length) : (revRow l k)[m] = if m < k ∨ l.length - 1 - m < k then l.getD (l.length - 1 - m) 0 else l.getD m 0 := by simp [revRow]
theorem revRow_zero (l : List UInt8) : revRow l 0 = l := by
  refine List.ext_getElem (revRow_length l 0) fun m h1 h2 => ?_
  rw [revRow_get, if_neg (by omega), getD_lt h2]
theorem revRow_end (l : List UInt8) (k : Nat) (h : l.length ≤ 2 * k + 1) : revRow l k = l.reverse := by
  refine List.ext_getElem (by rw [revRow_length, List.length_reverse]) fun m h1 h2 => ?_
  have hm : m < l.length := by rwa [revRow_length] at h1
  rw [revRow_get, List.getElem_reverse, ← getD_lt (l := l) (by omega)]
  split
  · rfl
  · rw [show l.length - 1 - m = m from by omega]
theorem revRow_step (l : List UInt8) (k : Nat) (h : k < l.length - 1 - k) :
    ((revRow l k).set k ((revRow l k).getD (l.length - 1 - k) 0)).set (l.length - 1 - k) ((revRow l k).getD k 0) = revRow l (k + 1) := by
  have hl := revRow_length l k
  have e1 : (revRow l k).getD (l.length - 1 - k) 0 = l.getD (l.length - 1 - k) 0 := by
    rw [getD_lt (by omega), revRow_get, if_neg (by omega)]
  have e2 : (revRow l k).getD k 0 = l.getD k 0 := by
    rw [getD_lt (by omega), revRow_get, if_neg (by omega)]
  rw [e1, e2]
  refine List.ext_getElem (by simp [revRow_length]) fun m h1 h2 => ?_
  have hm : m < l.length := by rwa [revRow_length] at h2
  rw [revRow_get, List.getElem_set, List.getElem_set, revRow_get]
  by_cases c1 : l.length - 1 - k = m
  · rw [if_pos c1, if_pos (by omega), show l.length - 1 - m = k from by omega]
  · rw [if_neg c1]
    by_cases c2 : k = m
    · rw [if_pos c2, if_pos (by omega), ← c2]
    · rw [if_neg c2]
      by_cases c3 : m < k ∨ l.length - 1 - m < k
      · rw [if_pos c3, if_pos (by omega)]
      · rw [if_neg c3, if_neg (by omega)]

/-- the digit of a number below 16 -/
def hexD (d : Nat) : UInt8 := if d < 10 then UInt8.ofNat (48 + d) else UInt8.ofNat (87 + d)
/-- the characters of base64 -/
def b64T : List UInt8 := [65, 66, 67, 68, 69, 70, 71, 72, 73, 74, 75, 76, 77, 78, 79, 80, 81, 82, 83, 84, 85, 86, 87, 88, 89, 90, 97, 98, 99, 100, 101, 102, 103, 104, 105, 106, 107, 108, 109, 110, 111, 112, 113, 114, 115, 116, 117, 118, 119, 120, 121, 122, 48, 49, 50, 51, 52, 53, 54, 55, 56, 57, 43, 47]
def b64D (d : Nat) : UInt8 := b64T.getD d 0
theorem b64Idx {d : Nat} (k : Nat) (h : d = k ∧ k < 64) (h' : d < (ByteArray.mk #[65, 66, 67, 68, 69, 70, 71, 72, 73, 74, 75, 76, 77, 78, 79, 80, 81, 82, 83, 84, 85, 86, 87, 88, 89, 90, 97, 98, 99, 100, 101, 102, 103, 104, 105, 106, 107, 108, 109, 110, 111, 112, 113, 114, 115, 116, 117, 118, 119, 120, 121, 122, 48, 49, 50, 51, 52, 53, 54, 55, 56, 57, 43, 47]).size) :
    (ByteArray.mk #[65, 66, 67, 68, 69, 70, 71, 72, 73, 74, 75, 76, 77, 78, 79, 80, 81, 82, 83, 84, 85, 86, 87, 88, 89, 90, 97, 98, 99, 100, 101, 102, 103, 104, 105, 106, 107, 108, 109, 110, 111, 112, 113, 114, 115, 116, 117, 118, 119, 120, 121, 122, 48, 49, 50, 51, 52, 53, 54, 55, 56, 57, 43, 47])[d] = b64D k := by
  obtain ⟨rfl, h⟩ := h
  have : ∀ d : Fin 64, (ByteArray.mk #[65, 66, 67, 68, 69, 70, 71, 72, 73, 74, 75, 76, 77, 78, 79, 80, 81, 82, 83, 84, 85, 86, 87, 88, 89, 90, 97, 98, 99, 100, 101, 102, 103, 104, 105, 106, 107, 108, 109, 110, 111, 112, 113, 114, 115, 116, 117, 118, 119, 120, 121, 122, 48, 49, 50, 51, 52, 53, 54, 55, 56, 57, 43, 47])[d.val]'(d.isLt) = b64D d.val := by decide
  exact this ⟨d, h⟩
/-- six bits of a list of bytes: place i of its text -/
def sext (f : List UInt8) (i : Nat) : Nat := numB ((f.drop (i / 4 * 3)).take 3) / 2 ^ (6 * (3 - i % 4)) % 64
def chrs (k : List UInt8) (n : Nat) : List UInt8 := (List.range n).map fun i => b64D (sext (k ++ [0]) i)
theorem chrs_length (k : List UInt8) (n : Nat) : (chrs k n).length = n := by simp [chrs]
theorem chrs_succ (k : List UInt8) (n : Nat) : chrs k (n + 1) = chrs k n ++ [b64D (sext (k ++ [0]) n)] := by simp [chrs, List.range_succ]
/-- the text of a key -/
def textL (k : List UInt8) : List UInt8 := chrs k 43 ++ [61]
theorem textL_length (k : List UInt8) : (textL k).length = 44 := by simp [textL, chrs]
theorem chrs_set (k : List UInt8) : (chrs k 44).set 43 61 = textL k := by
  rw [chrs_succ, List.set_append_right _ _ (by rw [chrs_length]; omega), chrs_length]
  rfl

end Go.Proofs.YtcbfchkhbngpkaaGreatDoor
namespace Go.Proofs.YtcbfchkhbngpkaaGreatDoor
open Go.RowKit

def wd (w : List UInt32) (i : Nat) : UInt32 := w.getD i 0
end Go.Proofs.YtcbfchkhbngpkaaGreatDoor
namespace Go.Proofs.YtcbfchkhbngpkaaGreatDoor
open Go.RowKit

theorem Blk.drewN {w : World} {g : Nat} {t : TypeId} {cs : List Value} (h : Blk w g t cs) (n : Nat) : Blk (w.drewN n) g t cs := h
def aeZ (n : Nat) : List Value := List.replicate n (.int .u8 0)
theorem own_addr {w : World} {base e n : Nat} {A : Option Addr} {c : Nat} {xs : List Value} (h : w.ownsRow base e 1 (.slice A n c) n xs) : n ≤ c ∧ c ≤ maxLen ∧ (0 < n → ∃ g, A = some ⟨g, 0, none⟩) := by
  rcases h.2 with ⟨hv, h0⟩ | ⟨g, cap, cur, hv, _, _, hnc, hcm, _⟩
  · simp only [Value.slice.injEq] at hv
    exact ⟨by omega, by rw [hv.2.2]; exact Nat.zero_le _, fun h => by omega⟩
  · simp only [Value.slice.injEq] at hv
    exact ⟨by rw [hv.2.2]; exact hnc, by rw [hv.2.2]; exact hcm, fun _ => ⟨g, hv.1⟩⟩
/-- l with xs in the place of what stands behind off -/
def putL {α : Type} (l : List α) (off : Nat) (xs : List α) : List α := l.take off ++ xs ++ l.drop (off + xs.length)
theorem putL_map {α β : Type} (f : α → β) (l : List α) (off : Nat) (xs : List α) : (l.map f).take off ++ xs.map f ++ (l.map f).drop (off + (xs.map f).length) = (putL l off xs).map f := by
  simp only [putL, List.map_append, List.map_take, List.map_drop, List.length_map]
theorem grown_set {w w' : World} {g : Nat} (h : w.grownBy w' (some g)) (i : Nat) (u : Value) : w.grownBy (w'.setCell ⟨g, i, none⟩ u) (some g) :=
  ⟨h.os, h.tape, h.output, by simpa [World.setCell] using h.size, fun k hk hne => by
    have := h.block k hk hne
    rw [Below.heap_setCell w' ⟨g, i, none⟩ u k (fun e => hne (by simp [e]))]
    exact this⟩

end Go.Proofs.YtcbfchkhbngpkaaGreatDoor
namespace Go.Proofs.YtcbfchkhbngpkaaGreatDoor
open Go.RowKit

/-- an address: of version 6 or not, and its sixteen bytes -/
structure AddrM where
  six : Bool
  ip : List UInt8
def AddrM.ok (a : AddrM) : Prop := a.ip.length = 16
def AddrM.cells (a : AddrM) : List Value := .bool a.six :: a.ip.map u8v
theorem AddrM.cells_length {a : AddrM} (h : a.ok) : a.cells.length = 17 := by
  rw [AddrM.cells, List.length_cons, List.length_map, h]
def addr0 : AddrM := ⟨false, List.replicate 16 0⟩
theorem addr0_ok : addr0.ok := by simp [AddrM.ok, addr0]
/-- what a packet shows -/
structure InfoM where
  source : AddrM
  dest : AddrM
  len : Nat
def InfoM.ok (i : InfoM) : Prop := i.source.ok ∧ i.dest.ok ∧ i.len ≤ 1000000
def InfoM.cells (i : InfoM) : List Value := i.source.cells ++ (i.dest.cells ++ [.int .i64 (i.len : Int)])
theorem InfoM.cells_length {i : InfoM} (h : i.ok) : i.cells.length = 35 := by
  rw [InfoM.cells, List.length_append, List.length_append, AddrM.cells_length h.1, AddrM.cells_length h.2.1]; rfl
/-- prefixes -/
def soundM (a : AddrM) : Bool := a.six || (a.ip.drop 4).all (· == 0)
def widthM (a : AddrM) : Nat := if a.six then 128 else 32
def bitM (ip : List UInt8) (i : Nat) : Nat := (ip.getD (i / 8) 0).toNat / 2 ^ (7 - i % 8) % 2
def validM (a : AddrM) (bits : Int) : Bool := soundM a && (decide (0 ≤ bits) && (decide (bits ≤ (widthM a : Int)) && (List.range 128).all fun i => decide ((i : Int) < bits) || bitM a.ip i == 0))
def containsM (a : AddrM) (bits : Int) (x : AddrM) : Bool := validM a bits && (soundM x && (x.six == a.six && (List.range 128).all fun i => decide (bits ≤ (i : Int)) || bitM x.ip i == bitM a.ip i))
end Go.Proofs.YtcbfchkhbngpkaaGreatDoor
namespace Go.Proofs.YtcbfchkhbngpkaaGreatDoor

/-- the value of a hexadecimal digit; 16 if it is none -/
def hexVal (c : UInt8) : Nat := if 48 ≤ c.toNat ∧ c.toNat ≤ 57 then c.toNat - 48 else if 97 ≤ c.toNat ∧ c.toNat ≤ 102 then c.toNat - 87 else if 65 ≤ c.toNat ∧ c.toNat ≤ 70 then c.toNat - 55 else 16
def hexOk (c : UInt8) : Bool := decide (hexVal c < 16)
def hexV (c : UInt8) : Nat := if hexVal c < 16 then hexVal c else 0
theorem hexV_lt (c : UInt8) : hexV c < 16 := by unfold hexV; split <;> omega
def pairB (s : List UInt8) (i : Nat) : UInt8 := UInt8.ofNat (hexV (s.getD (2 * i) 0) * 16 + hexV (s.getD (2 * i + 1) 0))
def pairs (s : List UInt8) (n : Nat) : List UInt8 := (List.range n).map (pairB s)
theorem pairs_length (s : List UInt8) (n : Nat) : (pairs s n).length = n := by simp [pairs]
theorem pairs_succ (s : List UInt8) (n : Nat) : pairs s (n + 1) = pairs s n ++ [pairB s n] := by simp [pairs, List.range_succ]
def parseH (s : List UInt8) : Option (List UInt8) := if s.length % 2 = 0 ∧ s.all hexOk = true then some (pairs s (s.length / 2)) else none
/-- a row of n bytes whose first j are read, the others 0 -/
def pairRow (s : List UInt8) (n j : Nat) : List UInt8 := pairs s j ++ List.replicate (n - j) 0
theorem pairRow_zero (s : List UInt8) (n : Nat) : pairRow s n 0 = List.replicate n 0 := by simp [pairRow, pairs]
theorem pairRow_end (s : List UInt8) (n : Nat) : pairRow s n n = pairs s n := by simp [pairRow]
theorem pairRow_set (s : List UInt8) (n j : Nat) (h : j < n) : (pairRow s n j).set j (pairB s j) = pairRow s n (j + 1) := by
  unfold pairRow
  rw [List.set_append_right _ _ (by rw [pairs_length]; exact Nat.le_refl _), pairs_length, Nat.sub_self, pairs_succ, show n - j = (n - (j + 1)) + 1 from by omega, List.replicate_succ, List.set_cons_zero, List.append_assoc]
  rfl
/-- the value of a character; -1 if it is none of base64 -/
def b64V (c : UInt8) : Int := Lib.indexByte b64T c
theorem b64V_D (d : Nat) (h : d < 64) : b64V (b64D d) = (d : Int) := by
  have : ∀ d : Fin 64, b64V (b64D d.val) = (d.val : Int) := by decide +kernel
  exact this ⟨d, h⟩
theorem b64V_or (c : UInt8) : b64V c = -1 ∨ (0 ≤ b64V c ∧ b64V c < 64 ∧ b64D (b64V c).toNat = c) := by
  have : ∀ n : Fin 256, b64V (UInt8.ofNat n.val) = -1 ∨ (0 ≤ b64V (UInt8.ofNat n.val) ∧ b64V (UInt8.ofNat n.val) < 64 ∧ b64D (b64V (UInt8.ofNat n.val)).toNat = UInt8.ofNat n.val) := by decide +kernel
  have h := this ⟨c.toNat, c.toNat_lt⟩
  simpa using h
def valid (c : UInt8) : Bool := decide (0 ≤ b64V c)
def grpN (l : List UInt8) : Nat := l.foldl (fun n c => n * 64 + (b64V c).toNat) 0
def grpOk (l : List UInt8) : Bool := l.all valid
theorem grpN_concat (l : List UInt8) (c : UInt8) : grpN (l ++ [c]) = grpN l * 64 + (b64V c).toNat := by simp [grpN]
theorem b64V_lt (c : UInt8) : (b64V c).toNat < 64 := by
  rcases b64V_or c with h | ⟨_, h, _⟩ <;> omega
theorem grp_fold_lt : ∀ (l : List UInt8) (n : Nat), l.foldl (fun n c => n * 64 + (b64V c).toNat) n < (n + 1) * 64 ^ l.length
  | [], n => by simp
  | c :: l, n => by
    have h := grp_fold_lt l (n * 64 + (b64V c).toNat)
    have hv := b64V_lt c
    have h2 : (n * 64 + (b64V c).toNat + 1) * 64 ^ l.length ≤ ((n + 1) * 64) * 64 ^ l.length := Nat.mul_le_mul_right _ (by omega)
    rw [List.foldl_cons, List.length_cons, Nat.pow_succ, Nat.mul_comm (64 ^ l.length) 64, ← Nat.mul_assoc]
    exact Nat.lt_of_lt_of_le h h2
theorem grpN_lt (l : List UInt8) : grpN l < 64 ^ l.length := by
  have := grp_fold_lt l 0
  simpa [grpN] using this
def bytes3 (n : Nat) : List UInt8 := (littleL n 3).reverse
theorem bytes3_length (n : Nat) : (bytes3 n).length = 3 := by simp [bytes3, littleL_length]
theorem numB_bytes3 (n : Nat) (h : n < 16777216) : numB (bytes3 n) = n := by
  unfold numB bytes3
  rw [List.reverse_reverse, numL_little]
  exact Nat.mod_eq_of_lt h
theorem byteOf_zero_cons (b : UInt8) (n : Nat) : byteOf (b.toNat + 256 * n) 0 = b := by
  apply UInt8.toNat_inj.1
  rw [byteOf_toNat]
  have := b.toNat_lt
  omega
theorem byteOf_succ_cons (b : UInt8) (n i : Nat) : byteOf (b.toNat + 256 * n) (i + 1) = byteOf n i := by
  apply UInt8.toNat_inj.1
  rw [byteOf_toNat, byteOf_toNat, show 8 * (i + 1) = 8 + 8 * i from by omega, Nat.pow_add, ← Nat.div_div_eq_div_mul]
  have := b.toNat_lt
  congr 2
  omega
theorem littleL_numL : ∀ l : List UInt8, littleL (numL l) l.length = l
  | [] => rfl
  | b :: l => by
    have ih := littleL_numL l
    unfold littleL at ih ⊢
    rw [List.length_cons, List.range_succ_eq_map, List.map_cons, List.map_map, numL, byteOf_zero_cons]
    congr 1
    have : (byteOf (b.toNat + 256 * numL l) ∘ Nat.succ) = byteOf (numL l) := funext fun i => byteOf_succ_cons b (numL l) i
    rw [this]
    exact ih
theorem bytes3_numB (l : List UInt8) (h : l.length = 3) : bytes3 (numB l) = l := by
  unfold bytes3 numB
  have := littleL_numL l.reverse
  rw [List.length_reverse, h] at this
  rw [this, List.reverse_reverse]
/-- lists of three, one behind the other -/
def flat3 (f : Nat → List UInt8) (m : Nat) : List UInt8 := ((List.range m).map f).flatten
theorem flat3_succ (f : Nat → List UInt8) (m : Nat) : flat3 f (m + 1) = flat3 f m ++ f m := by simp [flat3, List.range_succ]
theorem flat3_length (f : Nat → List UInt8) (h : ∀ i, (f i).length = 3) : ∀ m, (flat3 f m).length = 3 * m
  | 0 => rfl
  | m + 1 => by rw [flat3_succ, List.length_append, flat3_length f h m, h]; omega
theorem flat3_at (f : Nat → List UInt8) (h : ∀ i, (f i).length = 3) (m g : Nat) (hg : g < m) : ((flat3 f m).drop (g * 3)).take 3 = f g := by
  have : ∃ r, flat3 f m = flat3 f g ++ (f g ++ r) := by
    induction m with
    | zero => omega
    | succ m ih =>
      rw [flat3_succ]
      by_cases e : g = m
      · subst e; exact ⟨[], by simp⟩
      · obtain ⟨r, hr⟩ := ih (by omega)
        exact ⟨r ++ f m, by rw [hr]; simp⟩
  obtain ⟨r, hr⟩ := this
  rw [hr, List.drop_append_of_le_length (by rw [flat3_length f h]; omega), List.drop_of_length_le (by rw [flat3_length f h]; omega), List.nil_append, List.take_append_of_le_length (by rw [h]; exact Nat.le_refl _), List.take_of_length_le (by rw [h]; exact Nat.le_refl _)]
theorem flat3_congr (f f' : Nat → List UInt8) (m : Nat) (h : ∀ i, i < m → f i = f' i) : flat3 f m = flat3 f' m := by
  unfold flat3
  congr 1
  refine List.map_congr_left fun i hi => h i (List.mem_range.1 hi)
theorem flat3_chunks (K : List UInt8) : ∀ m, flat3 (fun g => (K.drop (g * 3)).take 3) m = K.take (m * 3)
  | 0 => by simp [flat3]
  | m + 1 => by
    rw [flat3_succ, flat3_chunks K m, show (m + 1) * 3 = m * 3 + 3 from by omega, List.take_add]

def grp (D : List UInt8) (g : Nat) : List UInt8 := (D.drop (g * 4)).take 4
def fill (D : List UInt8) (m : Nat) : List UInt8 := flat3 (fun i => bytes3 (grpN (grp D i))) m
theorem fill_length (D : List UInt8) (m : Nat) : (fill D m).length = 3 * m := flat3_length _ (fun _ => bytes3_length _) m
def allOk (D : List UInt8) (m : Nat) : Bool := (List.range m).all fun i => grpOk (grp D i)
theorem allOk_succ (D : List UInt8) (m : Nat) : allOk D (m + 1) = (allOk D m && grpOk (grp D m)) := by simp [allOk, List.range_succ]
/-- the 43 characters and the one that stands for the padding -/
def digitsOf (t : List UInt8) : List UInt8 := t.take 43 ++ [65]
def parseK (t : List UInt8) : Option (List UInt8) :=
  if t.length = 44 ∧ t.getD 43 0 = 61 then
    if allOk (digitsOf t) 11 = true ∧ (fill (digitsOf t) 11).getD 32 0 = 0 then some ((fill (digitsOf t) 11).take 32) else none
  else none

theorem grp_get (D : List UInt8) (g r : Nat) (hr : r < 4) (h : g * 4 + r < D.length) : ∃ h', (grp D g)[r]'h' = D[g * 4 + r] := by
  refine ⟨by simp [grp]; omega, ?_⟩
  simp [grp]
theorem grp_four (D : List UInt8) (g : Nat) (h : g * 4 + 4 ≤ D.length) : grp D g = [D[g * 4], D[g * 4 + 1], D[g * 4 + 2], D[g * 4 + 3]] := by
  have hl : (grp D g).length = 4 := by simp [grp]; omega
  refine List.ext_getElem (by rw [hl]; rfl) fun r h1 h2 => ?_
  have h4 : r < 4 := by omega
  obtain ⟨h', e⟩ := grp_get D g r h4 (by omega)
  rw [e]
  obtain rfl | rfl | rfl | rfl : r = 0 ∨ r = 1 ∨ r = 2 ∨ r = 3 := by omega
  all_goals rfl
theorem grpN_four (a b c d : UInt8) : grpN [a, b, c, d] = (((b64V a).toNat * 64 + (b64V b).toNat) * 64 + (b64V c).toNat) * 64 + (b64V d).toNat := by simp [grpN]
theorem six (a b c d : Nat) (hb : b < 64) (hc : c < 64) (hd : d < 64) (ha : a < 64) :
    (((a * 64 + b) * 64 + c) * 64 + d) / 2 ^ (6 * (3 - 0)) % 64 = a ∧ (((a * 64 + b) * 64 + c) * 64 + d) / 2 ^ (6 * (3 - 1)) % 64 = b ∧ (((a * 64 + b) * 64 + c) * 64 + d) / 2 ^ (6 * (3 - 2)) % 64 = c ∧ (((a * 64 + b) * 64 + c) * 64 + d) / 2 ^ (6 * (3 - 3)) % 64 = d := by
  simp only [show 6 * (3 - 0) = 18 from rfl, show 6 * (3 - 1) = 12 from rfl, show 6 * (3 - 2) = 6 from rfl, show 6 * (3 - 3) = 0 from rfl]
  omega

theorem valid_iff (c : UInt8) : valid c = true ↔ 0 ≤ b64V c := by simp [valid]
theorem valid_back (c : UInt8) (h : valid c = true) : b64D (b64V c).toNat = c := by
  rw [valid_iff] at h
  rcases b64V_or c with e | ⟨_, _, e⟩
  · omega
  · exact e
theorem digits_length (t : List UInt8) (h : t.length = 44) : (digitsOf t).length = 44 := by simp [digitsOf, h]
/-- six bits of what a text stands for: the value of the character there -/
theorem sext_fill (D : List UInt8) (hD : D.length = 44) (i : Nat) (hi : i < 44) : sext (fill D 11) i = (b64V (D[i]'(by omega))).toNat := by
  unfold sext
  rw [fill, flat3_at _ (fun _ => bytes3_length _) 11 (i / 4) (by omega), grp_four D (i / 4) (by omega), grpN_four]
  have v0 := b64V_lt (D[i / 4 * 4]'(by omega))
  have v1 := b64V_lt (D[i / 4 * 4 + 1]'(by omega))
  have v2 := b64V_lt (D[i / 4 * 4 + 2]'(by omega))
  have v3 := b64V_lt (D[i / 4 * 4 + 3]'(by omega))
  rw [numB_bytes3 _ (by omega)]
  obtain ⟨e0, e1, e2, e3⟩ := six _ _ _ _ v1 v2 v3 v0
  have hr : i % 4 < 4 := Nat.mod_lt _ (by omega)
  have key : ∀ r, i % 4 = r → i = i / 4 * 4 + r := fun r h => by omega
  rcases (by omega : i % 4 = 0 ∨ i % 4 = 1 ∨ i % 4 = 2 ∨ i % 4 = 3) with h | h | h | h
  · rw [h, e0]; congr 2; simp only [show i / 4 * 4 = i from by omega]
  · rw [h, e1]; congr 2; simp only [show i / 4 * 4 + 1 = i from by omega]
  · rw [h, e2]; congr 2; simp only [show i / 4 * 4 + 2 = i from by omega]
  · rw [h, e3]; congr 2; simp only [show i / 4 * 4 + 3 = i from by omega]
theorem allOk_get (D : List UInt8) (hD : D.length = 44) (h : allOk D 11 = true) (i : Nat) (hi : i < 44) : valid (D[i]'(by omega)) = true := by
  unfold allOk grpOk at h
  rw [List.all_eq_true] at h
  have h1 := h (i / 4) (List.mem_range.2 (by omega))
  rw [List.all_eq_true] at h1
  obtain ⟨h', e⟩ := grp_get D (i / 4) (i % 4) (by omega) (by omega)
  have := h1 _ (List.getElem_mem h')
  rw [e] at this
  simpa only [show i / 4 * 4 + i % 4 = i from by omega] using this
theorem take_getD (F : List UInt8) (h : F.length = 33) (h0 : F.getD 32 0 = 0) : F.take 32 ++ [0] = F := by
  have := List.take_append_getElem (l := F) (i := 32) (by omega)
  rw [getD_lt (by omega)] at h0
  rw [h0] at this
  rw [this, List.take_of_length_le (by omega)]
/-- what is accepted is the text of what it stands for -/
theorem text_parse (t q : List UInt8) (h : parseK t = some q) : q.length = 32 ∧ textL q = t := by
  unfold parseK at h
  split at h
  · rename_i h1
    obtain ⟨hl, h61⟩ := h1
    split at h
    · rename_i h2
      obtain ⟨hok, h0⟩ := h2
      have hD := digits_length t hl
      have hF : (fill (digitsOf t) 11).length = 33 := fill_length _ _
      injection h with h
      subst h
      refine ⟨by simp [hF], ?_⟩
      refine List.ext_getElem (by rw [textL_length, hl]) fun i h1 h2 => ?_
      have hi : i < 44 := by omega
      by_cases h43 : i < 43
      · have hDi : (digitsOf t)[i]'(by omega) = t[i] := by
          simp only [digitsOf]
          rw [List.getElem_append_left (by simp; omega)]
          simp
        have hv := allOk_get _ hD hok i hi
        have hb := valid_back _ hv
        simp only [textL]
        rw [List.getElem_append_left (by simp [chrs_length]; omega)]
        simp only [chrs, List.getElem_map, List.getElem_range]
        rw [take_getD _ hF h0, sext_fill _ hD i hi, hb, hDi]
      · obtain rfl : i = 43 := by omega
        rw [getD_lt (by omega)] at h61
        simp only [textL]
        rw [List.getElem_append_right (by rw [chrs_length]; exact Nat.le_refl _), h61]
        simp [chrs_length]
    · cases h
  · cases h
theorem sext_lt (K : List UInt8) (i : Nat) : sext K i < 64 := Nat.mod_lt _ (by omega)
/-- the text of a key is accepted, and stands for it -/
theorem parse_text (k : List UInt8) (hk : k.length = 32) : parseK (textL k) = some k := by
  have hK : (k ++ [0]).length = 33 := by simp [hk]
  have hl := textL_length k
  have hD : digitsOf (textL k) = chrs k 44 := by
    have h0 : sext (k ++ [0]) 43 = 0 := by
      unfold sext
      have : ((k ++ [0]).drop (43 / 4 * 3)).take 3 = [k[30], k[31], 0] := by
        refine List.ext_getElem (by simp [hk]) fun r h1 h2 => ?_
        have h3 : r < 3 := by simpa using h2
        obtain rfl | rfl | rfl : r = 0 ∨ r = 1 ∨ r = 2 := by omega
        all_goals simp [hk]
      rw [this]
      simp only [numB, numL, List.reverse_cons, List.reverse_nil, List.nil_append, List.cons_append]
      simp only [show 6 * (3 - 43 % 4) = 0 from rfl]
      have : (0 : UInt8).toNat = 0 := rfl
      omega
    unfold digitsOf
    rw [textL, List.take_append_of_le_length (by rw [chrs_length]; exact Nat.le_refl _), List.take_of_length_le (by rw [chrs_length]; exact Nat.le_refl _)]
    have := chrs_succ k 43
    rw [h0] at this
    exact this.symm
  have hget : ∀ i (hi : i < 44), (chrs k 44)[i]'(by rw [chrs_length]; exact hi) = b64D (sext (k ++ [0]) i) := by
    intro i hi
    simp [chrs]
  have hval : ∀ i (hi : i < 44), b64V ((chrs k 44)[i]'(by rw [chrs_length]; exact hi)) = (sext (k ++ [0]) i : Int) := by
    intro i hi
    rw [hget i hi]
    exact b64V_D _ (sext_lt _ _)
  have hok : allOk (chrs k 44) 11 = true := by
    unfold allOk grpOk
    rw [List.all_eq_true]
    intro g hg
    rw [List.all_eq_true]
    intro c hc
    have hc' : c ∈ chrs k 44 := List.mem_of_mem_drop (List.mem_of_mem_take hc)
    obtain ⟨i, hi, rfl⟩ := List.getElem_of_mem hc'
    rw [valid_iff, hval i (by simpa [chrs_length] using hi)]
    omega
  have hfill : fill (chrs k 44) 11 = k ++ [0] := by
    unfold fill
    rw [flat3_congr _ (fun g => ((k ++ [0]).drop (g * 3)).take 3) 11, flat3_chunks, List.take_of_length_le (by omega)]
    intro g hg
    have h3 : (((k ++ [0]).drop (g * 3)).take 3).length = 3 := by simp [hk]; omega
    have hM := numL_lt (((k ++ [0]).drop (g * 3)).take 3).reverse
    rw [List.length_reverse, h3] at hM
    rw [grp_four _ g (by rw [chrs_length]; omega), grpN_four, hval _ (by omega), hval _ (by omega), hval _ (by omega), hval _ (by omega)]
    unfold sext
    rw [show g * 4 / 4 = g from by omega, show (g * 4 + 1) / 4 = g from by omega, show (g * 4 + 2) / 4 = g from by omega, show (g * 4 + 3) / 4 = g from by omega, show g * 4 % 4 = 0 from by omega, show (g * 4 + 1) % 4 = 1 from by omega, show (g * 4 + 2) % 4 = 2 from by omega, show (g * 4 + 3) % 4 = 3 from by omega]
    have hr := bytes3_numB _ h3
    generalize hm : numB (((k ++ [0]).drop (g * 3)).take 3) = M at hr ⊢
    have hM' : M < 16777216 := by rw [← hm]; exact hM
    rw [← hr]
    congr 1
    simp only [Int.toNat_natCast, show 6 * (3 - 0) = 18 from rfl, show 6 * (3 - 1) = 12 from rfl, show 6 * (3 - 2) = 6 from rfl, show 6 * (3 - 3) = 0 from rfl]
    omega
  unfold parseK
  rw [hD, hfill, if_pos ⟨hl, by rw [getD_lt (by omega)]; simp [textL, chrs_length]⟩, if_pos ⟨hok, by rw [getD_lt (by omega)]; simp [hk]⟩]
  congr 1
  rw [List.take_append_of_le_length (by omega), List.take_of_length_le (by omega)]
end Go.Proofs.YtcbfchkhbngpkaaGreatDoor
namespace Go.Proofs.YtcbfchkhbngpkaaGreatDoor
open Go.RowKit

/-- a number in decimal -/
def decT (n : Nat) : List UInt8 := if n < 10 then [UInt8.ofNat (48 + n)] else decT (n / 10) ++ [UInt8.ofNat (48 + n % 10)]
termination_by n
decreasing_by omega
/-- a number in hexadecimal -/
def hexT (n : Nat) : List UInt8 := if n < 16 then [hexD n] else hexT (n / 16) ++ [hexD (n % 16)]
termination_by n
decreasing_by omega
def isDig (c : UInt8) : Bool := decide (48 ≤ c.toNat ∧ c.toNat ≤ 57)
def numV (l : List UInt8) : Nat := l.foldl (fun n c => 10 * n + (c.toNat - 48)) 0
/-- the number of a decimal text -/
def numP (l : List UInt8) (most : Nat) : Nat × Bool := if (l.length ≠ 0 ∧ l.length ≤ most ∧ ¬(1 < l.length ∧ l.getD 0 0 = 48)) ∧ l.all isDig = true then (numV l, true) else (0, false)
def hexN (l : List UInt8) : Nat := l.foldl (fun n c => 16 * n + hexVal c) 0
def hxsOk (l : List UInt8) : Bool := decide (1 ≤ l.length ∧ l.length ≤ 4) && l.all fun c => decide (hexVal c ≤ 15)
/-- a text divided at a byte -/
def splitB (c : UInt8) : List UInt8 → List (List UInt8)
  | [] => [[]]
  | x :: r => if x = c then [] :: splitB c r else match splitB c r with
    | h :: t => (x :: h) :: t
    | [] => [[x]]
def joinT (c : UInt8) : List (List UInt8) → List UInt8
  | [] => []
  | [a] => a
  | a :: b :: r => a ++ c :: joinT c (b :: r)
def fourOk (s : List UInt8) : Bool := (numP s 3).2 && decide ((numP s 3).1 ≤ 255)
/-- the address of the parts of a text -/
def fourP (ls : List (List UInt8)) : AddrM × Nat := if ls.all fourOk = true then (⟨false, (ls.map fun s => UInt8.ofNat (numP s 3).1) ++ List.replicate 12 0⟩, 0) else (addr0, 5)
def sixP (ls : List (List UInt8)) : AddrM × Nat := if ls.all hxsOk = true then (⟨true, ls.flatMap fun s => [UInt8.ofNat (hexN s / 256), UInt8.ofNat (hexN s % 256)]⟩, 0) else (addr0, 5)
/-- the address of a text, or the error -/
def addrP (l : List UInt8) : AddrM × Nat :=
  if (splitB 46 l).length = 4 then fourP (splitB 46 l) else if (splitB 58 l).length = 8 then sixP (splitB 58 l) else (addr0, 5)
def groupV (a : AddrM) (i : Nat) : Nat := 256 * (a.ip.getD (2 * i) 0).toNat + (a.ip.getD (2 * i + 1) 0).toNat
/-- the text of an address -/
def addrT (a : AddrM) : List UInt8 :=
  if soundM a = false then [] else if a.six then joinT 58 ((List.range 8).map fun i => hexT (groupV a i)) else joinT 46 ((List.range 4).map fun i => decT (a.ip.getD i 0).toNat)
/-- the text of an endpoint, of a prefix -/
def endT (a : AddrM) (port : Int) : List UInt8 :=
  if addrT a = [] ∨ port < 1 ∨ 65535 < port then [] else (if a.six then 91 :: (addrT a ++ [93]) else addrT a) ++ 58 :: decT port.toNat
def prefT (a : AddrM) (bits : Int) : List UInt8 := if validM a bits = false then [] else addrT a ++ 47 :: decT bits.toNat
/-- the place behind the last colon, 0 if there is none -/
def lastC (l : List UInt8) : Nat := (l.foldl (fun (p : Nat × Nat) c => (p.1 + 1, if c = 58 then p.1 + 1 else p.2)) (0, 0)).2
def brack (h : List UInt8) : Bool := decide (2 ≤ h.length ∧ h.getD 0 0 = 91 ∧ h.getD (h.length - 1) 0 = 93)
/-- the endpoint of a text, or the error -/
def endP (l : List UInt8) : (AddrM × Nat) × Nat :=
  let q := lastC l
  if q < 2 then ((addr0, 0), 5) else
  let host := l.take (q - 1)
  let inner := if brack host then (host.drop 1).take (host.length - 2) else host
  let n := numP (l.drop q) 5
  if (addrP inner).2 ≠ 0 ∨ (addrP inner).1.six ≠ brack host ∨ n.2 = false ∨ n.1 < 1 ∨ 65535 < n.1 then ((addr0, 0), 5) else (((addrP inner).1, n.1), 0)
/-- the prefix of a text, or the error -/
def prefP (l : List UInt8) : (AddrM × Nat) × Nat :=
  let s := splitB 47 l
  if s.length ≠ 2 then ((addr0, 0), 5) else
  let r := addrP (s.getD 0 [])
  let n := numP (s.getD 1 []) 3
  if r.2 ≠ 0 ∨ n.2 = false ∨ validM r.1 (n.1 : Int) = false then ((addr0, 0), 5) else ((r.1, n.1), 0)

/-! numbers -/
theorem ofNat_dig (d : Nat) (h : d < 10) : (UInt8.ofNat (48 + d)).toNat = 48 + d := by rw [UInt8.toNat_ofNat']; omega
theorem decT_small {n : Nat} (h : n < 10) : decT n = [UInt8.ofNat (48 + n)] := by rw [decT, if_pos h]
theorem decT_big {n : Nat} (h : ¬ n < 10) : decT n = decT (n / 10) ++ [UInt8.ofNat (48 + n % 10)] := by rw [decT, if_neg h]
theorem decT_ne (n : Nat) : decT n ≠ [] := by
  by_cases h : n < 10
  · rw [decT_small h]; simp
  · rw [decT_big h]; simp
theorem decT_all (n : Nat) : (decT n).all isDig = true := by
  induction n using Nat.strongRecOn with
  | ind n ih =>
    by_cases h : n < 10
    · rw [decT_small h]
      simp only [List.all_cons, List.all_nil, Bool.and_true, isDig, ofNat_dig n h]
      exact decide_eq_true (by omega)
    · rw [decT_big h, List.all_append, ih _ (by omega)]
      simp only [List.all_cons, List.all_nil, Bool.and_true, Bool.true_and, isDig, ofNat_dig _ (Nat.mod_lt n (by omega))]
      exact decide_eq_true (by omega)
theorem numV_snoc (l : List UInt8) (c : UInt8) : numV (l ++ [c]) = 10 * numV l + (c.toNat - 48) := by simp [numV, List.foldl_append]
theorem numV_dec (n : Nat) : numV (decT n) = n := by
  induction n using Nat.strongRecOn with
  | ind n ih =>
    by_cases h : n < 10
    · rw [decT_small h]
      simp only [numV, List.foldl_cons, List.foldl_nil, ofNat_dig n h]
      omega
    · rw [decT_big h, numV_snoc, ih _ (by omega), ofNat_dig _ (Nat.mod_lt n (by omega))]
      omega
theorem decT_len (n k : Nat) (h1 : 1 ≤ k) (h : n < 10 ^ k) : (decT n).length ≤ k := by
  induction k generalizing n with
  | zero => omega
  | succ k ih =>
    by_cases hs : n < 10
    · rw [decT_small hs]; simp
    · rw [decT_big hs, List.length_append]
      have hk : 1 ≤ k := by
        rcases Nat.eq_zero_or_pos k with rfl | hp
        · simp at h; omega
        · exact hp
      have := ih (n / 10) hk (by rw [Nat.pow_succ] at h; omega)
      simp only [List.length_cons, List.length_nil]
      omega
theorem decT_head (n : Nat) (h : 10 ≤ n) : (decT n).getD 0 0 ≠ 48 := by
  induction n using Nat.strongRecOn with
  | ind n ih =>
    rw [decT_big (by omega)]
    by_cases hs : n / 10 < 10
    · rw [decT_small hs]
      intro e
      have e' : UInt8.ofNat (48 + n / 10) = 48 := e
      have := congrArg UInt8.toNat e'
      rw [ofNat_dig _ hs] at this
      have h48 : (48 : UInt8).toNat = 48 := rfl
      omega
    · have hi := ih (n / 10) (by omega) (by omega)
      have hl : 0 < (decT (n / 10)).length := List.length_pos_iff.2 (decT_ne _)
      rwa [List.getD_eq_getElem?_getD, List.getElem?_append_left hl, ← List.getD_eq_getElem?_getD]
theorem numP_dec (n k : Nat) (h1 : 1 ≤ k) (h : n < 10 ^ k) : numP (decT n) k = (n, true) := by
  rw [numP, if_pos, numV_dec]
  refine ⟨⟨fun e => decT_ne n (List.eq_nil_of_length_eq_zero e), decT_len n k h1 h, fun hc => ?_⟩, decT_all n⟩
  by_cases hs : n < 10
  · rw [decT_small hs] at hc; simp at hc
  · exact decT_head n (by omega) hc.2
theorem hxD_val (d : Nat) (h : d < 16) : hexVal (hexD d) = d := by
  unfold hexD hexVal
  by_cases h1 : d < 10
  · rw [if_pos h1, ofNat_dig d h1, if_pos (by omega)]; omega
  · rw [if_neg h1, show (UInt8.ofNat (87 + d)).toNat = 87 + d from by rw [UInt8.toNat_ofNat']; omega, if_neg (by omega), if_pos (by omega)]; omega
theorem hexT_small {n : Nat} (h : n < 16) : hexT n = [hexD n] := by rw [hexT, if_pos h]
theorem hexT_big {n : Nat} (h : ¬ n < 16) : hexT n = hexT (n / 16) ++ [hexD (n % 16)] := by rw [hexT, if_neg h]
theorem hexN_snoc (l : List UInt8) (c : UInt8) : hexN (l ++ [c]) = 16 * hexN l + hexVal c := by simp [hexN, List.foldl_append]
theorem hexN_hex (n : Nat) : hexN (hexT n) = n := by
  induction n using Nat.strongRecOn with
  | ind n ih =>
    by_cases h : n < 16
    · rw [hexT_small h]
      simp only [hexN, List.foldl_cons, List.foldl_nil, hxD_val n h]
      omega
    · rw [hexT_big h, hexN_snoc, ih _ (by omega), hxD_val _ (Nat.mod_lt n (by omega))]
      omega
theorem hexT_all (n : Nat) : ((hexT n).all fun c => decide (hexVal c ≤ 15)) = true := by
  induction n using Nat.strongRecOn with
  | ind n ih =>
    by_cases h : n < 16
    · rw [hexT_small h]
      simp only [List.all_cons, List.all_nil, Bool.and_true, hxD_val n h]
      exact decide_eq_true (by omega)
    · rw [hexT_big h, List.all_append, ih _ (by omega)]
      simp only [List.all_cons, List.all_nil, Bool.and_true, Bool.true_and, hxD_val _ (Nat.mod_lt n (by omega))]
      exact decide_eq_true (by omega)
theorem hexT_len (n k : Nat) (h1 : 1 ≤ k) (h : n < 16 ^ k) : (hexT n).length ≤ k := by
  induction k generalizing n with
  | zero => omega
  | succ k ih =>
    by_cases hs : n < 16
    · rw [hexT_small hs]; simp
    · rw [hexT_big hs, List.length_append]
      have hk : 1 ≤ k := by
        rcases Nat.eq_zero_or_pos k with rfl | hp
        · simp at h; omega
        · exact hp
      have := ih (n / 16) hk (by rw [Nat.pow_succ] at h; omega)
      simp only [List.length_cons, List.length_nil]
      omega
theorem hexT_ne (n : Nat) : hexT n ≠ [] := by
  by_cases h : n < 16
  · rw [hexT_small h]; simp
  · rw [hexT_big h]; simp
theorem hxsOk_hex (n : Nat) (h : n < 65536) : hxsOk (hexT n) = true := by
  rw [hxsOk, hexT_all, Bool.and_true]
  exact decide_eq_true ⟨List.length_pos_iff.2 (hexT_ne n), hexT_len n 4 (by omega) (by omega)⟩
/-! texts that are divided -/
theorem split_ne (c : UInt8) (l : List UInt8) : splitB c l ≠ [] := by
  cases l with
  | nil => simp [splitB]
  | cons x r =>
    rw [splitB]
    split
    · simp
    · split <;> simp
theorem split_len (c : UInt8) (l : List UInt8) : (splitB c l).length ≤ l.length + 1 := by
  induction l with
  | nil => simp [splitB]
  | cons x r ih =>
    rw [splitB]
    split
    · simp only [List.length_cons]; omega
    · split
      · rename_i h t hs
        rw [hs] at ih
        simp only [List.length_cons] at ih ⊢
        omega
      · simp
theorem split_part (c : UInt8) (l : List UInt8) : ∀ a ∈ splitB c l, a.length ≤ l.length := by
  induction l with
  | nil => intro a ha; simp [splitB] at ha; simp [ha]
  | cons x r ih =>
    intro a ha
    rw [splitB] at ha
    split at ha
    · rcases List.mem_cons.1 ha with rfl | h
      · simp
      · exact Nat.le_trans (ih a h) (by simp)
    · split at ha
      · rename_i h t hs
        rcases List.mem_cons.1 ha with rfl | h'
        · have := ih h (by rw [hs]; simp)
          simp only [List.length_cons]; omega
        · exact Nat.le_trans (ih a (by rw [hs]; exact List.mem_cons_of_mem _ h')) (by simp)
      · simp only [List.mem_singleton] at ha
        simp [ha]
theorem split_none {c : UInt8} {l : List UInt8} (h : c ∉ l) : splitB c l = [l] := by
  induction l with
  | nil => rfl
  | cons x r ih =>
    have hx : x ≠ c := fun e => h (by simp [e])
    rw [splitB, if_neg hx, ih (fun hm => h (List.mem_cons_of_mem _ hm))]
theorem split_at {c : UInt8} {a : List UInt8} (h : c ∉ a) (r : List UInt8) : splitB c (a ++ c :: r) = a :: splitB c r := by
  induction a with
  | nil => rw [List.nil_append, splitB, if_pos rfl]
  | cons x a ih =>
    have hx : x ≠ c := fun e => h (by simp [e])
    rw [List.cons_append, splitB, if_neg hx, ih (fun hm => h (List.mem_cons_of_mem _ hm))]
theorem split_join {c : UInt8} : ∀ {ls : List (List UInt8)}, ls ≠ [] → (∀ a ∈ ls, c ∉ a) → splitB c (joinT c ls) = ls
  | [], h, _ => absurd rfl h
  | [a], _, h => split_none (h a (by simp))
  | a :: b :: r, _, h => by
    rw [joinT, split_at (h a (by simp)), split_join (by simp) (fun x hx => h x (List.mem_cons_of_mem _ hx))]
theorem mem_join {c x : UInt8} : ∀ {ls : List (List UInt8)}, x ∈ joinT c ls → x = c ∨ ∃ a ∈ ls, x ∈ a
  | [], h => by simp [joinT] at h
  | [a], h => .inr ⟨a, by simp, h⟩
  | a :: b :: r, h => by
    rw [joinT] at h
    rcases List.mem_append.1 h with h | h
    · exact .inr ⟨a, by simp, h⟩
    · rcases List.mem_cons.1 h with h | h
      · exact .inl h
      · rcases mem_join h with h | ⟨a', h1, h2⟩
        · exact .inl h
        · exact .inr ⟨a', List.mem_cons_of_mem _ h1, h2⟩
end Go.Proofs.YtcbfchkhbngpkaaGreatDoor
namespace Go.Proofs.YtcbfchkhbngpkaaGreatDoor
open Go.RowKit

theorem last_fst (l : List UInt8) (p : Nat × Nat) : (l.foldl (fun (p : Nat × Nat) c => (p.1 + 1, if c = 58 then p.1 + 1 else p.2)) p).1 = p.1 + l.length := by
  induction l generalizing p with
  | nil => rfl
  | cons x r ih => rw [List.foldl_cons, ih]; simp only [List.length_cons]; omega
theorem last_snoc (l : List UInt8) (x : UInt8) : lastC (l ++ [x]) = if x = 58 then l.length + 1 else lastC l := by
  have h := last_fst l (0, 0)
  simp only [lastC, List.foldl_append, List.foldl_cons, List.foldl_nil, h, Nat.zero_add]
theorem snoc_ind {α : Type} {p : List α → Prop} (h0 : p []) (h1 : ∀ l x, p l → p (l ++ [x])) (l : List α) : p l := by
  have h : ∀ m : List α, p m.reverse := fun m => by
    induction m with
    | nil => exact h0
    | cons x r ih => rw [List.reverse_cons]; exact h1 _ _ ih
  have h2 := h l.reverse
  rwa [List.reverse_reverse] at h2
theorem last_le (l : List UInt8) : lastC l ≤ l.length := by
  induction l using snoc_ind with
  | h0 => simp [lastC]
  | h1 l x ih =>
    rw [last_snoc, List.length_append]
    split <;> simp only [List.length_cons, List.length_nil] <;> omega
theorem last_at (a r : List UInt8) (h : (58 : UInt8) ∉ r) : lastC (a ++ 58 :: r) = a.length + 1 := by
  induction r using snoc_ind with
  | h0 => rw [last_snoc, if_pos rfl]
  | h1 r x ih =>
    have hx : x ≠ 58 := fun e => h (by simp [e])
    rw [show a ++ 58 :: (r ++ [x]) = (a ++ 58 :: r) ++ [x] from by simp, last_snoc, if_neg hx, ih (fun hm => h (by simp [hm]))]
theorem dec_not {n : Nat} {c : UInt8} (h : isDig c = false) : c ∉ decT n := fun hm => by
  have := List.all_eq_true.1 (decT_all n) c hm
  rw [h] at this
  cases this
theorem hex_not {n : Nat} {c : UInt8} (h : hexVal c = 16) : c ∉ hexT n := fun hm => by
  have := List.all_eq_true.1 (hexT_all n) c hm
  rw [h] at this
  simp at this
theorem group_lt (a : AddrM) (i : Nat) : groupV a i < 65536 := by
  have h1 := (a.ip.getD (2 * i) 0).toNat_lt
  have h2 := (a.ip.getD (2 * i + 1) 0).toNat_lt
  unfold groupV
  omega
theorem two_of (x y : UInt8) : [UInt8.ofNat ((256 * x.toNat + y.toNat) / 256), UInt8.ofNat ((256 * x.toNat + y.toNat) % 256)] = [x, y] := by
  have h1 := x.toNat_lt
  have h2 := y.toNat_lt
  rw [show (256 * x.toNat + y.toNat) / 256 = x.toNat from by omega, show (256 * x.toNat + y.toNat) % 256 = y.toNat from by omega, UInt8.ofNat_toNat, UInt8.ofNat_toNat]
theorem sound_tail {a : AddrM} (ho : a.ok) (hs : soundM a = true) (h6 : a.six = false) : a.ip.drop 4 = List.replicate 12 0 := by
  rw [soundM, h6, Bool.false_or] at hs
  apply List.eq_replicate_iff.2
  refine ⟨by rw [List.length_drop, ho], fun b hb => ?_⟩
  simpa using List.all_eq_true.1 hs b hb
theorem range8 : List.range 8 = [0, 1, 2, 3, 4, 5, 6, 7] := rfl
theorem range4 : List.range 4 = [0, 1, 2, 3] := rfl
theorem len16 {l : List UInt8} (h : l.length = 16) : ∃ a b c d e f g i j k m n o p q r, l = [a, b, c, d, e, f, g, i, j, k, m, n, o, p, q, r] := by
  match l, h with
  | [a, b, c, d, e, f, g, i, j, k, m, n, o, p, q, r], _ => exact ⟨a, b, c, d, e, f, g, i, j, k, m, n, o, p, q, r, rfl⟩
theorem four_back (a : AddrM) (ho : a.ok) (hs : soundM a = true) (h6 : a.six = false) : fourP ((List.range 4).map fun i => decT (a.ip.getD i 0).toNat) = (a, 0) := by
  have hn : ∀ b : UInt8, numP (decT b.toNat) 3 = (b.toNat, true) := fun b => numP_dec _ 3 (by omega) (by have := b.toNat_lt; omega)
  have hf : ∀ b : UInt8, fourOk (decT b.toNat) = true := fun b => by
    rw [fourOk, hn, Bool.true_and]
    exact decide_eq_true (by have := b.toNat_lt; show b.toNat ≤ 255; omega)
  have ht := sound_tail ho hs h6
  obtain ⟨six, ip⟩ := a
  dsimp only at h6 ht
  subst h6
  obtain ⟨a, b, c, d, e, f, g, i, j, k, m, n, o, p, q, r, rfl⟩ := len16 ho
  rw [range4]
  simp only [List.map_cons, List.map_nil, List.getD_cons_zero, List.getD_cons_succ]
  rw [fourP, if_pos (by simp only [List.all_cons, List.all_nil, hf, Bool.and_self])]
  simp only [List.map_cons, List.map_nil, hn, UInt8.ofNat_toNat]
  rw [← ht]
  rfl
theorem six_back (a : AddrM) (ho : a.ok) (h6 : a.six = true) : sixP ((List.range 8).map fun i => hexT (groupV a i)) = (a, 0) := by
  have hf : ∀ i, hxsOk (hexT (groupV a i)) = true := fun i => hxsOk_hex _ (group_lt a i)
  have hv : ∀ i, [UInt8.ofNat (hexN (hexT (groupV a i)) / 256), UInt8.ofNat (hexN (hexT (groupV a i)) % 256)] = [a.ip.getD (2 * i) 0, a.ip.getD (2 * i + 1) 0] := fun i => by
    rw [hexN_hex]
    exact two_of _ _
  rw [sixP, if_pos (by rw [List.all_eq_true]; intro x hx; obtain ⟨i, _, rfl⟩ := List.mem_map.1 hx; exact hf i), List.flatMap_map]
  simp only [hv]
  obtain ⟨six, ip⟩ := a
  dsimp only at h6
  subst h6
  obtain ⟨a, b, c, d, e, f, g, i, j, k, m, n, o, p, q, r, rfl⟩ := len16 ho
  rfl
/-- an address is recovered from its text -/
theorem addr_back (a : AddrM) (ho : a.ok) (hs : soundM a = true) : addrP (addrT a) = (a, 0) := by
  rw [addrT, if_neg (by rw [hs]; decide)]
  cases h6 : a.six with
  | false =>
    rw [if_neg (by decide), addrP, split_join (by simp) (by
      intro x hx
      obtain ⟨i, _, rfl⟩ := List.mem_map.1 hx
      exact dec_not (by decide)), if_pos (by simp)]
    exact four_back a ho hs h6
  | true =>
    have h46 : (46 : UInt8) ∉ joinT 58 ((List.range 8).map fun i => hexT (groupV a i)) := fun hm => by
      rcases mem_join hm with h | ⟨x, hx, h⟩
      · exact absurd h (by decide)
      · obtain ⟨i, _, rfl⟩ := List.mem_map.1 hx
        exact hex_not (by decide) h
    rw [if_pos rfl, addrP, split_none h46, if_neg (by simp), split_join (by simp) (by
      intro x hx
      obtain ⟨i, _, rfl⟩ := List.mem_map.1 hx
      exact hex_not (by decide)), if_pos (by simp)]
    exact six_back a ho h6
theorem join_ne {c : UInt8} {a b : List UInt8} {r : List (List UInt8)} : joinT c (a :: b :: r) ≠ [] := by
  rw [joinT]; simp
theorem addrT_ne {a : AddrM} (hs : soundM a = true) : addrT a ≠ [] := by
  rw [addrT, if_neg (by rw [hs]; decide)]
  split
  · rw [range8]; exact join_ne
  · rw [range4]; exact join_ne
/-- the first byte of the text of an address of version 4 is a digit -/
theorem addrT_head {a : AddrM} (hs : soundM a = true) (h6 : a.six = false) : (addrT a).getD 0 0 ≠ 91 := by
  rw [addrT, if_neg (by rw [hs]; decide), if_neg (by rw [h6]; decide), range4]
  simp only [List.map_cons, joinT]
  have hl : 0 < (decT (a.ip.getD 0 0).toNat).length := List.length_pos_iff.2 (decT_ne _)
  rw [List.getD_eq_getElem?_getD, List.getElem?_append_left hl, List.getElem?_eq_getElem hl, Option.getD_some]
  intro e
  have := List.all_eq_true.1 (decT_all (a.ip.getD 0 0).toNat) _ (List.getElem_mem hl)
  rw [e] at this
  exact absurd this (by decide)
theorem end_back (a : AddrM) (ho : a.ok) (hs : soundM a = true) (port : Nat) (h1 : 1 ≤ port) (h2 : port ≤ 65535) : endP (endT a (port : Int)) = ((a, port), 0) := by
  have hne := addrT_ne hs
  have hl : 0 < (addrT a).length := List.length_pos_iff.2 hne
  rw [endT, if_neg (by rintro (h | h | h); exact hne h; omega; omega), Int.toNat_natCast]
  obtain ⟨host, hh⟩ : ∃ z, (if a.six = true then 91 :: (addrT a ++ [93]) else addrT a) = z := ⟨_, rfl⟩
  have hhl : 1 ≤ host.length := by
    rw [← hh]
    split
    · simp
    · exact hl
  have hb : brack host = a.six ∧ (if brack host then (host.drop 1).take (host.length - 2) else host) = addrT a := by
    rw [← hh]
    cases h6 : a.six with
    | false =>
      have hbf : brack (addrT a) = false := by
        rw [brack]
        exact decide_eq_false (fun h => addrT_head hs h6 h.2.1)
      simp only [Bool.false_eq_true, if_false, hbf, and_self]
    | true =>
      have hbt : brack (91 :: (addrT a ++ [93])) = true := by
        rw [brack]
        refine decide_eq_true ⟨by simp, rfl, ?_⟩
        rw [List.getD_eq_getElem?_getD]
        simp
      simp only [if_true, hbt, true_and]
      rw [List.drop_succ_cons, List.drop_zero, List.length_cons, List.length_append]
      exact List.take_left' (by simp)
  rw [hh, endP, last_at _ _ (dec_not (by decide))]
  simp only
  rw [if_neg (by omega), show host.length + 1 - 1 = host.length from by omega, List.take_left, hb.2, hb.1, addr_back a ho hs]
  rw [show (host ++ 58 :: decT port).drop (host.length + 1) = decT port from by rw [List.drop_append]; simp]
  rw [numP_dec port 5 (by omega) (by omega)]
  rw [if_neg (by simp; omega)]
theorem pref_back (a : AddrM) (ho : a.ok) (bits : Nat) (hb : bits < 1000) (hv : validM a (bits : Int) = true) : prefP (prefT a (bits : Int)) = ((a, bits), 0) := by
  have hs : soundM a = true := by
    rw [validM, Bool.and_eq_true] at hv
    exact hv.1
  have h47 : (47 : UInt8) ∉ addrT a := by
    rw [addrT, if_neg (by rw [hs]; decide)]
    intro hm
    split at hm
    · rcases mem_join hm with h | ⟨x, hx, h⟩
      · exact absurd h (by decide)
      · obtain ⟨i, _, rfl⟩ := List.mem_map.1 hx
        exact hex_not (by decide) h
    · rcases mem_join hm with h | ⟨x, hx, h⟩
      · exact absurd h (by decide)
      · obtain ⟨i, _, rfl⟩ := List.mem_map.1 hx
        exact dec_not (by decide) h
  rw [prefT, if_neg (by rw [hv]; decide), Int.toNat_natCast, prefP, split_at h47, split_none (dec_not (by decide))]
  simp only [List.length_cons, List.length_nil, List.getD_cons_zero, List.getD_cons_succ]
  rw [if_neg (by omega), addr_back a ho hs, numP_dec bits 3 (by omega) (by omega)]
  rw [if_neg (by simp [hv])]
end Go.Proofs.YtcbfchkhbngpkaaGreatDoor
namespace Go.Proofs.YtcbfchkhbngpkaaGreatDoor
open Go.RowKit

def inI64 (x : Int) : Prop := -9223372036854775808 ≤ x ∧ x ≤ 9223372036854775807
end Go.Proofs.YtcbfchkhbngpkaaGreatDoor
namespace Go.Proofs.YtcbfchkhbngpkaaGreatDoor
open Go.RowKit

instance : DecidableEq AddrM := fun a b =>
  if h : a.six = b.six ∧ a.ip = b.ip then .isTrue (by cases a; cases b; simp_all) else .isFalse (fun e => h ⟨by rw [e], by rw [e]⟩)
end Go.Proofs.YtcbfchkhbngpkaaGreatDoor
namespace Go.Proofs.YtcbfchkhbngpkaaGreatDoor
open Go.RowKit

/-- row i of a block of rows of n cells -/
theorem Blk.row {w : World} {g : Nat} {t : TypeId} {xs : List Value} (h : Blk w g t xs) (off n : Nat) : ∀ j v, ((xs.drop off).take n)[j]? = some v → w.cell? ⟨g, off + j, none⟩ = some v := fun j v hv => by
  rw [h.cell]
  rw [List.getElem?_take] at hv
  split at hv
  · rwa [List.getElem?_drop] at hv
  · cases hv
end Go.Proofs.YtcbfchkhbngpkaaGreatDoor
namespace Go.Proofs.YtcbfchkhbngpkaaGreatDoor
open Go.RowKit

theorem foldl_set_list (off : Nat) (xs : List Value) : ∀ (k : Nat) (cs : Array Value), off + k + xs.length ≤ cs.size →
    ((xs.zipIdx k).foldl (fun cs (x : Value × Nat) => cs.setIfInBounds (off + x.2) x.1) cs).toList = cs.toList.take (off + k) ++ xs ++ cs.toList.drop (off + k + xs.length) := by
  induction xs with
  | nil => intro k cs h; simp
  | cons x xs ih =>
    intro k cs h
    rw [List.zipIdx_cons, List.foldl_cons, ih (k + 1) _ (by simp at h ⊢; omega)]
    have hl : off + k < cs.toList.length := by simp at h ⊢; omega
    simp only [Array.toList_setIfInBounds, List.length_cons]
    rw [List.drop_set_of_lt (by omega), show off + (k + 1) = off + k + 1 by omega, List.take_set, List.take_succ_eq_append_getElem hl, List.set_append_right _ _ (by simp; omega)]
    simp [show min (off + k) cs.size = off + k by simp at h; omega, show off + k + 1 + xs.length = off + k + (xs.length + 1) by omega]

theorem two_tests {p q : Prop} [Decidable p] [Decidable q] (hp : ¬p) (hq : ¬q) : ¬(decide p || decide q) = true := by simp [hp, hq]
end Go.Proofs.YtcbfchkhbngpkaaGreatDoor
