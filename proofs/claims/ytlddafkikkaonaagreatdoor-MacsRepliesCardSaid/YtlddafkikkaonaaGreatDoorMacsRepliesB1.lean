/-
  Words of this seat for byte strings in memory: what it is for a slice value to read as a list of bytes, and how that is kept when the world goes on. How the arguments of a law are opened: a byte slice, a fixed array of bytes. What a row's condition on package-level variables gives: the blocks of listed arrays of numbers, one deep and two deep. Plain mathematics of numbers and their bytes, with no program in sight: the bytes of a number, the number of bytes, and that the one gives the other back. The mathematics of ChaCha20: quarter round, double round, core, block and stream over lists of words and bytes; no function of the program is named here. The mathematics of BLAKE2s over lists of words and bytes; no function of the program is named here. Words for arrays of bytes that lie in a block of their own: a whole array stored and loaded, and a function's results of which the first is such an array. Words for a region that draws its order, walked by hand: the condition on the world may be made stronger on the way, so that what a call has made can be read first, too. Words for blocks, slices and the regions that draw their order which the texts of several layers share. What a walk keeps of the memory that it has made: a list of entries, the newest first, each of which speaks of blocks of its own. Words in memory, zero bytes, and what a walk says of slices of the call's own. The parts of a join, and the slice of slices that reads as them. What is asked of blake.Sum, Hash and Code, and words for parts. The package-level variables of blake, out of a row's condition. The mathematics of the four messages. No function of the program is named here. The mathematics of the packets in the tunnel: addresses, prefixes, headers. No function of the program is named here. The mathematics of time stamps over lists of bytes; no function of the program is named here. The mathematics of message codes and cookies: what the functions of layer 12 return. No function of the program is named here. A sealed message as a message: it has its kind, passes both checks and keeps its fields. No function of the program is named here. What is asked of the functions of layer 11, by a function's number (the program's or the reference's). No statement is proved here.
-/
import Derived.Test.YtlddafkikkaonaaGreatDoorRows
import Derived.WalkKit
import Derived.WalkSpells
import Derived.WalkLawsBesides
import Derived.Lib.Hide
import Derived.Laws.OwnMore
import Derived.Laws.IdiomStrings
import Derived.Deep.Draws
import Derived.Deep.AppendLies
import Derived.Laws.CopyRow
import Derived.Laws.Rows
import Derived.ProofKit
import Derived.OpenShut
import Derived.LaidMore
import Derived.Stop.Joined
import Derived.MakeChecks
import Derived.Below
import Derived.Laws.BitsAllLaws
import Derived.Laws.Tables
import Derived.Stop.BytesEq
import Derived.Deep.RegionHeld3
namespace Go.Proofs.YtlddafkikkaonaaGreatDoor
open Go.RowKit
theorem Tryz.info5 : (Tryz.prog.info? 5).map (fun i => (i.zero, i.size, i.bytes)) = some (some (.int .u8 0), 1, 1) := by kernel_rfl
theorem ret_int {k : IntKind} {a b : Int} (h : a = b) : Ending.returned (.int k a) = .returned (.int k b) := by rw [h]
/-- a byte as a cell -/
def u8v (b : UInt8) : Value := .int .u8 (b.toNat : Int)
/-- the slice value '.slice A n _' reads in w as the bytes l; its array lies below block B -/
def Rd (w : World) (B : Nat) (A : Option Addr) (n : Nat) (l : List UInt8) : Prop :=
 l.length = n ∧ (0 < n → ∃ b off, A = some ⟨b, off, none⟩ ∧ b < B ∧ ∀ j (h : j < l.length), w.cell? ⟨b, off + j, none⟩ = some (.int .u8 (l[j].toNat : Int)))
section
variable {w w' : World} {B B' n : Nat} {A : Option Addr} {l : List UInt8}
theorem Rd.nil (w : World) (B : Nat) (A : Option Addr) : Rd w B A 0 [] := ⟨rfl, fun h => absurd h (by omega)⟩
theorem Rd.keep (h : Rd w B A n l) (hk : ∀ p : Addr, p.block < B → w'.cell? p = w.cell? p) : Rd w' B A n l :=
 ⟨h.1, fun hn => by
  obtain ⟨b, off, e, hb, hc⟩ := h.2 hn
  exact ⟨b, off, e, hb, fun j hj => (hk _ hb).trans (hc j hj)⟩⟩
theorem Rd.mono (h : Rd w B A n l) (hB : B ≤ B') : Rd w B' A n l :=
 ⟨h.1, fun hn => by
  obtain ⟨b, off, e, hb, hc⟩ := h.2 hn
  exact ⟨b, off, e, by omega, hc⟩⟩
theorem Rd.below (h : Rd w B A n l) (hb : Below B w w') : Rd w' B A n l := h.keep fun _ hp => hb.cell hp
theorem Rd.drew (h : Rd w B A n l) : Rd w.drew B A n l := h
theorem Rd.drewN (h : Rd w B A n l) (k : Nat) : Rd (w.drewN k) B A n l := h
theorem Rd.alloc (h : Rd w B A n l) (hB : B ≤ w.heap.size) (o : Obj) : Rd (w.alloc o) B A n l := h.keep fun p hp => World.cell?_alloc_lt w o p (by omega)
/-- what is known inside a round: the address, and the cells -/
theorem Rd.at_ (h : Rd w B A n l) (hn : 0 < n) : ∃ b off, A = some ⟨b, off, none⟩ ∧ b < B ∧ ∀ j (hj : j < l.length), w.cell? ⟨b, off + j, none⟩ = some (.int .u8 (l[j].toNat : Int)) := h.2 hn
/-- a prefix of the same slice -/
theorem Rd.take (h : Rd w B A n l) {m : Nat} (hm : m ≤ n) : Rd w B A m (l.take m) := by
 have h1 := h.1
 refine ⟨by rw [List.length_take]; omega, fun hp => ?_⟩
 obtain ⟨b, off, e, hb, hc⟩ := h.2 (by omega)
 refine ⟨b, off, e, hb, fun j hj => ?_⟩
 rw [List.getElem_take]
 exact hc j _
end
theorem map_u8v_getElem? (l : List UInt8) (j : Nat) (hj : j < l.length) : (l.map u8v)[j]? = some (.int .u8 (l[j].toNat : Int)) := by simp [u8v, hj]
theorem u8v_one (l : List UInt8) : ∀ v ∈ l.map u8v, v.oneCell' = true := by
 intro v hv
 obtain ⟨b, _, rfl⟩ := List.mem_map.1 hv
 rfl
/-- what the call owns reads as the bytes -/
theorem Rd.of_own {w : World} {base n c : Nat} {A : Option Addr} {l : List UInt8} (h : w.ownsRow base 5 1 (.slice A n c) n (l.map u8v)) : Rd w w.heap.size A n l := by
 have hl : l.length = n := by simpa using h.1
 refine ⟨hl, fun hn => ?_⟩
 rcases h.2 with ⟨_, h0⟩ | ⟨g, cap, cur, hv, _, hg, _⟩
 · omega
 ·
  simp only [Value.slice.injEq] at hv
  obtain ⟨rfl, _, rfl⟩ := hv
  refine ⟨g, 0, rfl, ?_, fun j hj => ?_⟩
  · exact ((h.lt g rfl)).2
  ·
   rw [Nat.zero_add, h.cellAt j (by omega)]
   exact map_u8v_getElem? l j hj
theorem own_slice {w : World} {base e n : Nat} {v : Value} {xs : List Value} (h : w.ownsRow base e 1 v n xs) : ∃ A c, v = .slice A n c ∧ (A = none → n = 0) := by
 rcases h.2 with ⟨rfl, rfl⟩ | ⟨g, cap, cur, rfl, _⟩
 · exact ⟨none, 0, rfl, fun _ => rfl⟩
 · exact ⟨_, _, rfl, fun e => by cases e⟩
/-- what is owned above block 'base' stays owned while only blocks below the heap's size of then are spared -/
theorem own_below {w w' : World} {base e size n : Nat} {v : Value} {xs : List Value} (h : w.ownsRow base e size v n xs) (hb : Below w.heap.size w w') : w'.ownsRow base e size v n xs := by
 refine ⟨h.1, ?_⟩
 rcases h.2 with h1 | ⟨g, cap, cur, rfl, hbg, hg, hr⟩
 · exact .inl h1
 · exact .inr ⟨g, cap, cur, rfl, hbg, (hb.block g (h.lt g rfl).2).trans hg, hr⟩
theorem own_base {w : World} {base base' e size n : Nat} {v : Value} {xs : List Value} (h : w.ownsRow base e size v n xs) (hb : base' ≤ base) : w.ownsRow base' e size v n xs := by
 refine ⟨h.1, ?_⟩
 rcases h.2 with h1 | ⟨g, cap, cur, rfl, hbg, hr⟩
 · exact .inl h1
 · exact .inr ⟨g, cap, cur, rfl, by omega, hr⟩
theorem below_drewN {B : Nat} {a w : World} (h : Below B a w) (n : Nat) : Below B a (w.drewN n) := ⟨h.os, h.tape, h.output, h.size, h.block⟩
/-- 'string(b)' of a slice that reads as l -/
theorem run_string_of_rd {P : Program} {w : World} {B n : Nat} {A : Option Addr} {l : List UInt8} (src dst e : TypeId) (cap : Nat) (hs : P.underlying src = some (.slice e)) (he : P.underlying e = some (.int .u8)) (hd : P.underlying dst = some .string)
 (h : Rd w B A n l) : (convert src dst (.slice A n cap)).run P w = .ok (.string ⟨l.toArray⟩) w := by
 obtain ⟨rfl, h2⟩ := h
 rcases A with _ | a
 ·
  have : l = [] := by
   rcases l with _ | ⟨x, l⟩
   · rfl
   ·
    obtain ⟨_, _, h, _⟩ := h2 (by simp)
    cases h
  subst this
  rw [run_convert_bytes_string w src dst e none _ _ hs he hd]
  rfl
 ·
  refine run_convert_bytes_back w src dst e a cap l hs he hd fun j hj => ?_
  obtain ⟨b, off, he, _, hc⟩ := h2 (by omega)
  cases he
  rw [Go.WideShapes.add_plain]
  exact hc j hj
/-- the row that an append may have written lies above base -/
theorem own_from {w : World} {base e size n : Nat} {v : Value} {xs : List Value} (h : w.ownsRow base e size v n xs) : ∀ k, v.ownBlock = some k → base ≤ k := fun k hk => (h.lt k hk).1
/-- block g is the cells cs of type t, none frozen -/
def Blk (w : World) (g : Nat) (t : TypeId) (cs : List Value) : Prop := w.heap[g]? = some (.cells cs.toArray t (0, 0))
theorem Blk.lt {w : World} {g : Nat} {t : TypeId} {cs : List Value} (h : Blk w g t cs) : g < w.heap.size := by
 rcases Nat.lt_or_ge g w.heap.size with hlt | hge
 · exact hlt
 · unfold Blk at h; rw [Array.getElem?_eq_none hge] at h; cases h
theorem Blk.cell {w : World} {g : Nat} {t : TypeId} {cs : List Value} (h : Blk w g t cs) (i : Nat) : w.cell? ⟨g, i, none⟩ = cs[i]? := by
 have := cell_of_row w g i cs.toArray t (0, 0) h
 simpa using this
theorem Blk.frozen {w : World} {g : Nat} {t : TypeId} {cs : List Value} (h : Blk w g t cs) (i : Nat) : w.frozen? ⟨g, i, none⟩ = false := frozen_of_row w g i cs.toArray t h
theorem Blk.new (w : World) (t : TypeId) (cs : List Value) : Blk (w.alloc (.cells cs.toArray t)) w.heap.size t cs := heap_alloc_new w _
theorem Blk.alloc {w : World} {g : Nat} {t : TypeId} {cs : List Value} (h : Blk w g t cs) (o : Obj) : Blk (w.alloc o) g t cs := (Below.heap_alloc w o g h.lt).trans h
theorem Blk.below {w w' : World} {g : Nat} {t : TypeId} {cs : List Value} {B : Nat} (h : Blk w g t cs) (hb : Below B w w') (hg : g < B) : Blk w' g t cs := (hb.block g hg).trans h
theorem Blk.grown {w w' : World} {g : Nat} {t : TypeId} {cs : List Value} {row : Option Nat} (h : Blk w g t cs) (hb : w.grownBy w' row) (hg : some g ≠ row) : Blk w' g t cs := (hb.block g h.lt hg).trans h
theorem Blk.set_ {w : World} {g : Nat} {t : TypeId} {cs : List Value} (h : Blk w g t cs) (i : Nat) (u : Value) : Blk (w.setCell ⟨g, i, none⟩ u) g t (cs.set i u) := by
 unfold Blk at h ⊢
 simp [World.setCell, Array.getElem?_modify, h]
theorem Blk.drew {w : World} {g : Nat} {t : TypeId} {cs : List Value} (h : Blk w g t cs) : Blk w.drew g t cs := h
/-- a stretch of a block of bytes reads as that stretch of the list -/
theorem Blk.rd {w : World} {g : Nat} {t : TypeId} {l : List UInt8} (h : Blk w g t (l.map u8v)) (off n : Nat) (hn : off + n ≤ l.length) : Rd w (g + 1) (some ⟨g, off, none⟩) n ((l.drop off).take n) := by
 have hl : ((l.drop off).take n).length = n := by simp; omega
 refine ⟨hl, fun _ => ⟨g, off, rfl, by omega, fun j hj => ?_⟩⟩
 rw [h.cell, map_u8v_getElem? l (off + j) (by omega)]
 simp
/-- the builtin copy of a whole row into a block, inside a region that draws its order -/
theorem step_copy_bytes {P : Program} (w : World) {ops : Array Oper} {o : Oper} {a : Act} {K : Act → World → Prop} {Q : Exit → Act → World → Prop} {E : Prop} (hgd : o.guard = none) (d s : Operand) (dT sT : TypeId)
 (ho : o.op = .call { callee := .builtin .copy, args := #[d, s], argTypes := #[dT, sT] }) (elem : TypeId) (hu : P.underlying dT = some (.slice elem)) (hsz : (P.info? elem).map (·.size) = some 1)
 (g off dLen dCap : Nat) (ad : Addr) (sLen sCap : Nat) (hd : a.eval d = .slice (some ⟨g, off, none⟩) dLen dCap) (hs : a.eval s = .slice (some ad) sLen sCap)
 (cur : List Value) (t : TypeId) (hg : Blk w g t cur) (cs : List Value) (hn : cs.length = Nat.min sLen dLen)
 (hsrc : ∀ j v, cs[j]? = some v → w.cell? (ad.add j) = some v) (hfit : off + cs.length ≤ cur.length) (h1 : ∀ v ∈ cs, v.oneCell' = true)
 (h : ∀ w', Blk w' g t (cur.take off ++ cs ++ cur.drop (off + cs.length)) → w.grownBy w' (some g) → K (a.put o.dst (goInt cs.length)) w') :
 if Region.wanted o (yielded ops a.tmps) = true then Oper.wp P o a w K Q else E := by
 have hw : Region.wanted o (yielded ops a.tmps) = true := by simp [Region.wanted, hgd]
 rw [if_pos hw]
 have hrun := run_copy_row (P := P) w dT sT o.type elem g off dLen dCap ad sLen sCap cur.toArray t cs hu hsz hg hn hsrc (by simpa using hfit) h1
 unfold Oper.wp execOp
 simp only [ho, resolve, invoke, builtin, Sem.run_bind, Sem.run_pure, Result.andThen_ok, List.map_toArray, List.map_cons, List.map_nil, hs, hd, hrun]
 refine h _ ?_ ⟨rfl, rfl, rfl, by simp, fun k _ hk => setRow_other w g k _ (fun e => hk (by simp [e]))⟩
 unfold Blk
 exact setRow_heap w g cur.toArray _ t _ hg
/-- 'x[l:h]' of an array of bytes that begins a block -/
theorem run_slice_array {P : Program} (w : World) (t e : TypeId) (N : Nat) (ht : P.underlying t = some (.array N e)) (i : TypeInfo) (hi : P.info? e = some i) (hs : i.size = 1)
 (b : Nat) (kl kh : IntKind) (l h : Nat) (L H : Int) (hL : L = (l : Int)) (hH : H = (h : Int)) (h1 : l ≤ h) (h2 : h ≤ N) (h3 : l < N) :
 (Instr.sliceAt t (.pointer (some ⟨b, 0, none⟩)) (some (.int kl L)) (some (.int kh H)) none).run P w = .ok (.slice (some ⟨b, l, none⟩) (h - l) (N - l)) w := by
 subst hL hH
 have eN : P.arrayLen t = N := by simp [Program.arrayLen, ht]
 have eE : P.elem t = e := by simp [Program.elem, ht]
 have := run_sliceAt_array_lh (P := P) w t ⟨b, 0, none⟩ (by rw [eN, eE]; exact ht) kl kh l h (by omega) (by omega) (by rw [eN]; omega)
 rw [this, eN, eE]
 have hz : (sizeOf e).run P w = .ok 1 w := by simp [sizeOf, typeInfo, hi, hs]
 rw [hz]
 simp [Result.andThen, slicedAt]
 rw [if_neg (by omega), Go.WideShapes.add_plain, Nat.zero_add]
/-- the builtin append onto a row of the call's own, outside such a region -/
theorem wpList_append_bytes {P : Program} (w : World) {ops : Array Oper} {rest : List Oper} {o : Oper} {a : Act} {Q : Exit → Act → World → Prop} (hgd : o.guard = none) (s x : Operand) (t : TypeId)
 (ho : o.op = .call { callee := .builtin .append, args := #[s, x], argTypes := #[t, t] })
 (base : Nat) (e : TypeId) (i : TypeInfo) (z : Value) (ht : P.underlying t = some (.slice e)) (hi : P.info? e = some i) (hz : i.zero = some z) (hsize : i.size = 1) (hby : i.bytes = 1) (hzs : z.cells.size = 1)
 (v : Value) (n : Nat) (xs : List Value) (hs : a.eval s = v) (hown : w.ownsRow base e 1 v n xs)
 (ad : Addr) (m c : Nat) (news : List Value) (hx : a.eval x = .slice (some ad) m c) (hl : news.length = m) (hnews : ∀ j u, news[j]? = some u → w.cell? (ad.add j) = some u) (h1 : ∀ u ∈ news, u.oneCell' = true)
 (h63 : n + m ≤ 100000000) (hbase : base ≤ w.heap.size)
 (h : ∀ v' w', w'.ownsRow base e 1 v' (n + m) (xs ++ news) → w.grownBy w' v.ownBlock → wpList P ops Q rest (a.put o.dst v') w') : wpList P ops Q (o :: rest) a w :=
 wpList_append_own w hgd s x t ho base e i z 1 1 ht hi hz hsize hby hzs (by omega) v n xs hs hown ad m c news hx (by rw [hl, Nat.mul_one]) hnews h1 (by unfold maxLen; omega) (by omega) hbase fun v' w' a b _ => h v' w' a b
theorem one_u8 (b : UInt8) : ∀ u ∈ [Value.int .u8 (b.toNat : Int)], u.oneCell' = true := by
 intro u hu
 simp only [List.mem_singleton] at hu
 subst hu
 rfl
theorem run_append_none {P : Program} (w : World) (base : Nat) (t ty e : TypeId) (i : TypeInfo) (size : Nat) (ht : P.underlying t = some (.slice e)) (hi : P.info? e = some i)
 (v : Value) (n : Nat) (xs : List Value) (hown : w.ownsRow base e size v n xs) (c : Nat) : (Builtin.append_ #[t, t] ty #[v, .slice none 0 c]).run P w = .ok v w := by
 rcases hown.2 with ⟨rfl, rfl⟩ | ⟨g, cap, cur, rfl, _, _, hnc, _⟩
 · simp [Builtin.append_, run_underlying ht, sizeOf, typeInfo, hi, Builtin.lenOf, Builtin.firstCells]
 · simp [Builtin.append_, run_underlying ht, sizeOf, typeInfo, hi, Builtin.lenOf, Builtin.firstCells, hnc, storeCells]
/-- append of a slice that reads as l (nil let in) onto a row of bytes of the call's own -/
theorem run_append_rd {P : Program} (w : World) (base : Nat) (t ty e : TypeId) (i : TypeInfo) (z : Value) (ht : P.underlying t = some (.slice e)) (hi : P.info? e = some i) (hz : i.zero = some z) (hsize : i.size = 1) (hby : i.bytes = 1) (hzs : z.cells.size = 1)
 (v : Value) (n : Nat) (xs : List Value) (hown : w.ownsRow base e 1 v n xs) (B : Nat) (A : Option Addr) (m c : Nat) (l : List UInt8) (hr : Rd w B A m l) (h63 : n + m ≤ 100000000) (hbase : base ≤ w.heap.size) :
 ∃ v' w', (Builtin.append_ #[t, t] ty #[v, .slice A m c]).run P w = .ok v' w' ∧ w'.ownsRow base e 1 v' (n + m) (xs ++ l.map u8v) ∧ w.grownBy w' v.ownBlock := by
 obtain ⟨rfl, h2⟩ := hr
 rcases A with _ | ad
 ·
  have hl : l = [] := by
   rcases l with _ | ⟨x, l⟩
   · rfl
   ·
    obtain ⟨_, _, h, _⟩ := h2 (by simp)
    cases h
  subst hl
  exact ⟨v, w, run_append_none w base t ty e i 1 ht hi v n xs hown c, by simpa using hown, World.grownBy.refl w _⟩
 ·
  have hcells : ∀ j u, (l.map u8v)[j]? = some u → w.cell? (ad.add j) = some u := by
   intro j u hu
   have hj : j < l.length := by simpa using (List.getElem?_eq_some_iff.1 hu).1
   obtain ⟨b, off, he, _, hc⟩ := h2 (by omega)
   cases he
   rw [Go.WideShapes.add_plain, hc j hj]
   rw [map_u8v_getElem? l j hj] at hu
   exact hu
  obtain ⟨v', w', hrun, r1, r2, _⟩ := run_append_own (P := P) w base t ty e i z 1 1 ht hi hz hsize hby hzs (by omega) v n xs hown ad l.length c (l.map u8v) (by simp) hcells (u8v_one l) (by unfold maxLen; omega) (by omega) hbase
  exact ⟨v', w', hrun, r1, r2⟩
theorem wpList_append_rd {P : Program} (w : World) {ops : Array Oper} {rest : List Oper} {o : Oper} {a : Act} {Q : Exit → Act → World → Prop} (hgd : o.guard = none) (s x : Operand) (t : TypeId)
 (ho : o.op = .call { callee := .builtin .append, args := #[s, x], argTypes := #[t, t] })
 (base : Nat) (e : TypeId) (i : TypeInfo) (z : Value) (ht : P.underlying t = some (.slice e)) (hi : P.info? e = some i) (hz : i.zero = some z) (hsize : i.size = 1) (hby : i.bytes = 1) (hzs : z.cells.size = 1)
 (v : Value) (n : Nat) (xs : List Value) (hs : a.eval s = v) (hown : w.ownsRow base e 1 v n xs) (B : Nat) (A : Option Addr) (m c : Nat) (l : List UInt8) (hx : a.eval x = .slice A m c) (hr : Rd w B A m l) (h63 : n + m ≤ 100000000) (hbase : base ≤ w.heap.size)
 (h : ∀ v' w', w'.ownsRow base e 1 v' (n + m) (xs ++ l.map u8v) → w.grownBy w' v.ownBlock → wpList P ops Q rest (a.put o.dst v') w') : wpList P ops Q (o :: rest) a w := by
 refine wpList_plain hgd fun K hK => ?_
 obtain ⟨v', w', hrun, h2, h3⟩ := run_append_rd (P := P) w base t o.type e i z ht hi hz hsize hby hzs v n xs hown B A m c l hr h63 hbase
 unfold Oper.wp execOp
 simp only [ho, resolve, invoke, builtin, Sem.run_bind, Sem.run_pure, Result.andThen_ok, List.map_toArray, List.map_cons, List.map_nil, hs, hx, hrun]
 exact hK _ _ (h v' w' h2 h3)
/-- 'x[l:]' of an array of bytes that begins a block -/
theorem run_slice_array_from {P : Program} (w : World) (t e : TypeId) (N : Nat) (ht : P.underlying t = some (.array N e)) (i : TypeInfo) (hi : P.info? e = some i) (hs : i.size = 1)
 (b : Nat) (kl : IntKind) (l : Nat) (L : Int) (hL : L = (l : Int)) (h3 : l < N) :
 (Instr.sliceAt t (.pointer (some ⟨b, 0, none⟩)) (some (.int kl L)) none none).run P w = .ok (.slice (some ⟨b, l, none⟩) (N - l) (N - l)) w := by
 subst hL
 have eN : P.arrayLen t = N := by simp [Program.arrayLen, ht]
 have eE : P.elem t = e := by simp [Program.elem, ht]
 have := run_sliceAt_array_l (P := P) w t ⟨b, 0, none⟩ (by rw [eN, eE]; exact ht) kl l (by omega) (by rw [eN]; omega)
 rw [this, eN, eE]
 have hz : (sizeOf e).run P w = .ok 1 w := by simp [sizeOf, typeInfo, hi, hs]
 rw [hz]
 simp [Result.andThen, slicedAt]
 rw [if_neg (by omega), Go.WideShapes.add_plain, Nat.zero_add]
end Go.Proofs.YtlddafkikkaonaaGreatDoor
namespace Go.Proofs.YtlddafkikkaonaaGreatDoor
open Go.RowKit Go.ChangeShapes Go.WideShapes Go.ChangeAt
theorem own : ownKnob Tryz.prog.godebug = none := by kernel_rfl
theorem laidOut : laidOutB Tryz.prog = true := by kernel_rfl
section
variable {H : Type} {enc : TypeId × Value → H} {P : Program} {W : World}
theorem open_bytes {r : Reach} {b0 : Nat} {t e : TypeId} {v : Value} {d : DataW H} {p : List MemPlace} (ht : P.underlying t = some (.slice e)) (he : P.underlying e = some (.int .u8)) (hc : P.cellsOf e = 1)
 (hv : Value.okWide P W r b0 t v) (h : DataW.Trod enc P W 0 (fun _ => true) true t v d p) :
 ∃ A len cap l, v = .slice A len cap ∧ len ≤ cap ∧ cap ≤ maxLen ∧ Rd W W.heap.size A len l := by
 obtain ⟨A, len, cap, rfl⟩ := okWide_slice ht hv
 obtain ⟨fuel, hf⟩ := h
 rcases open_ints ht he hc hf with ⟨hcs, _⟩ | ⟨x, l, c, zs, hcs, _, hl, hm, hz, _, hcell, hwz⟩
 ·
  simp [Value.cells] at hcs
  obtain ⟨rfl, rfl, rfl⟩ := hcs
  exact ⟨none, 0, 0, [], rfl, Nat.le_refl _, by simp, Rd.nil _ _ _⟩
 ·
  simp [Value.cells] at hcs
  obtain ⟨rfl, rfl, rfl⟩ := hcs
  simp only [if_true] at hz
  have hlen : ((zs.take len).map (fun z => UInt8.ofNat z.toNat)).length = len := by simp; omega
  refine ⟨some x, len, cap, (zs.take len).map (fun z => UInt8.ofNat z.toNat), rfl, hl, hm, hlen, fun hp => ?_⟩
  obtain ⟨b, off, spot⟩ := x
  have h0 := hcell 0 (by omega)
  have hspot : spot = none := by simpa [Addr.add] using World.cell?_spot h0
  subst hspot
  refine ⟨b, off, rfl, by have := World.block_lt_of_cell? W _ h0; simpa [Addr.add] using this, fun j hj => ?_⟩
  have hj' : j < zs.length := by omega
  have hcj := hcell j hj'
  rw [add_plain] at hcj
  have hw := bounds_u8 (hwz zs[j] (List.getElem_mem hj'))
  rw [hcj, List.getElem_map, List.getElem_take]
  have : zs.getD j 0 = zs[j] := by simp [List.getD, hj']
  rw [this, UInt8.toNat_ofNat', Nat.mod_eq_of_lt (by omega)]
  congr 2
  omega
theorem open_key {r : Reach} {b0 n : Nat} {t e : TypeId} {v : Value} {d : DataW H} {p : List MemPlace} (ht : P.underlying t = some (.array n e)) (he : P.underlying e = some (.int .u8)) (hc : P.cellsOf e = 1) (hct : P.cellsOf t = n)
 (hv : Value.okWide P W r b0 t v) (h : DataW.Trod enc P W 0 (fun _ => true) true t v d p) :
 ∃ l : List UInt8, v = .agg (l.map u8v).toArray ∧ l.length = n := by
 simp only [Value.okWide, ht] at hv
 obtain ⟨cs, rfl, hsz, _⟩ := hv
 obtain ⟨fuel, hf⟩ := h
 obtain ⟨xs, m, _, hx, hl, hn, hat⟩ := DataW.trod_array ht hf
 have each : ∀ i (hi : i < n), ∃ b : UInt8, cs[i]'(by omega) = u8v b := by
  intro i hi
  have h1 := hat i hi
  rw [hc, Nat.mul_one, List.getElem?_eq_getElem (by omega)] at h1
  obtain ⟨z, hz, _, hw⟩ := DataW.trod_int he h1
  have hb := bounds_u8 hw
  have hcl : (Value.cells (.agg cs)).toList = cs.toList := rfl
  have h1d : (cs.toList.drop i).take 1 = [cs[i]'(by omega)] := by
   rw [List.drop_eq_getElem_cons (by simp; omega)]
   simp
  rw [hcl, h1d] at hz
  simp only [List.cons.injEq, and_true] at hz
  refine ⟨UInt8.ofNat z.toNat, ?_⟩
  have hz' : cs[i]'(by omega) = .int .u8 z := hz
  rw [hz']
  unfold u8v
  rw [UInt8.toNat_ofNat', Nat.mod_eq_of_lt (by omega)]
  congr 1
  omega
 refine ⟨(List.range n).map fun i => if hi : i < n then (each i hi).choose else 0, ?_, by simp⟩
 congr 1
 refine Array.ext (by simp; omega) fun i h1 h2 => ?_
 have hi : i < n := by omega
 simp only [List.getElem_toArray, List.getElem_map, List.getElem_range, dif_pos hi]
 exact (each i hi).choose_spec
end
end Go.Proofs.YtlddafkikkaonaaGreatDoor
namespace Go.Proofs.YtlddafkikkaonaaGreatDoor
open Go.RowKit Go.ChangeShapes Go.WideShapes Go.ChangeAt
theorem laid_data {P : Program} {l : List (String × DataW Unit)} {W : World} (h : laidMetH P l W) : laidMet P (l.filter fun x => x.2.handleName?.isNone) W := by
 unfold laidMetH at h
 generalize hfl : (l.filter fun x => x.2.handleName?.isSome) = fl at h
 cases fl with
 | nil =>
  have e : (l.filter fun x => x.2.handleName?.isNone) = l := by
   rw [List.filter_eq_self]
   intro x hx
   have := (List.filter_eq_nil_iff.1 hfl) x hx
   cases hn : x.2.handleName? with
   | none => rfl
   | some s => rw [hn] at this; exact absurd rfl this
  rw [e]
  exact h
 | cons y ys => exact h.1
theorem laid_in {P : Program} {W : World} : ∀ {l : List (String × DataW Unit)} {ps : List MemPlace}, DataW.LaidVars P W l ps → ∀ {n : String} {d : DataW Unit}, (n, d) ∈ l →
 ∃ g t cs fuel p, P.globalNamed n = some g ∧ (P.globals[g]?).map (·.type) = some t ∧ W.var? P n = some cs ∧ DataW.trod (fun _ => ()) P W 0 (fun _ => true) false fuel t cs.toList = some (d, p) ∧ (0 < cs.size → MemPlace.cell g 0 ∈ ps)
 | [], _, _, _, _, hx => by cases hx
 | (n0, d0) :: r, ps, h, n, d, hx => by
  obtain ⟨g, t, cs, fuel, p, q, hg, ht, hv, hd, hr, hps⟩ := h
  rcases List.mem_cons.1 hx with e | hx'
  ·
   obtain ⟨rfl, rfl⟩ := Prod.mk.injEq .. ▸ e
   refine ⟨g, t, cs, fuel, p, hg, ht, hv, hd, fun h0 => ?_⟩
   rw [hps]
   refine List.mem_append_left _ (List.mem_append_left _ ?_)
   unfold MemPlace.row
   exact List.mem_map.2 ⟨0, List.mem_range.2 h0, rfl⟩
  ·
   obtain ⟨g', t', cs', fuel', p', h1, h2, h3, h4, h5⟩ := laid_in hr hx'
   refine ⟨g', t', cs', fuel', p', h1, h2, h3, h4, fun h0 => ?_⟩
   rw [hps]
   exact List.mem_append_right _ (h5 h0)
/-- a listed variable's block -/
theorem laid_blk {P : Program} {W : World} {l : List (String × DataW Unit)} (h : laidMetH P l W) {n : String} {d : DataW Unit} (hx : (n, d) ∈ l) (hn : d.handleName?.isNone = true) {g0 : Nat} {t0 : TypeId} (hg0 : P.globalNamed n = some g0) (ht0 : (P.globals[g0]?).map (·.type) = some t0) :
 ∃ (cs : List Value) (fuel : Nat) (p : List MemPlace), DataW.trod (fun _ => ()) P W 0 (fun _ => true) false fuel t0 cs = some (d, p) ∧ (0 < cs.length → ∃ t, Blk W g0 t cs) := by
 obtain ⟨ps, hl, _, hcell⟩ := laid_data h
 obtain ⟨g, t, cs, fuel, p, hg, ht, hv, hd, hp⟩ := laid_in hl (List.mem_filter.2 ⟨hx, hn⟩)
 obtain rfl := Option.some.inj (hg0.symm.trans hg)
 obtain rfl := Option.some.inj (ht0.symm.trans ht)
 refine ⟨cs.toList, fuel, p, hd, fun h0 => ?_⟩
 obtain ⟨⟨c, t, hc⟩, _⟩ := hcell g0 0 (hp (by simpa using h0))
 refine ⟨t, ?_⟩
 simp only [World.var?, hg, Option.bind_some, hc, Option.some.injEq] at hv
 subst hv
 exact hc
section
variable {H : Type} {enc : TypeId × Value → H} {P : Program} {w : World} {base : Nat} {sp : Nat → Bool} {held : Bool}
theorem laid_ints {fuel : Nat} {t e : TypeId} {n : Nat} {k : IntKind} {cs : List Value} {zs : List Int} {p : List MemPlace} (ht : P.underlying t = some (.array n e)) (he : P.underlying e = some (.int k)) (hc : P.cellsOf e = 1) (hct : P.cellsOf t = n)
 (h : DataW.trod enc P w base sp held fuel t cs = some (.agg (zs.map fun z => .lit (.int k z)), p)) : cs = zs.map fun z => .int k z := by
 obtain ⟨xs, m, _, hx, hl, hn, hat⟩ := DataW.trod_array ht h
 simp only [Prod.mk.injEq, DataW.agg.injEq] at hx
 have hzl : zs.length = n := by
  have := congrArg List.length hx.1
  simp only [List.length_map] at this
  omega
 apply List.ext_getElem?
 intro i
 by_cases hi : i < n
 ·
  have h1 := hat i hi
  rw [hc, Nat.mul_one] at h1
  have hxi : xs[i]? = some (xs[i]'(by omega)) := List.getElem?_eq_getElem (by omega)
  rw [hxi] at h1
  obtain ⟨z, hz, hy, _⟩ := DataW.trod_int he h1
  have h2 : (zs.map fun z => (DataW.lit (.int k z) : DataW H))[i]? = (xs.map (·.1))[i]? := by rw [hx.1]
  rw [List.getElem?_map, List.getElem?_map, hxi, hy, List.getElem?_eq_getElem (show i < zs.length by omega)] at h2
  simp only [Option.map_some, Option.some.injEq, DataW.lit.injEq, Lit.int.injEq, true_and] at h2
  have h3 : cs[i]? = some (.int k z) := by
   have h4 := congrArg (fun l : List Value => l[0]?) hz
   simpa [List.getElem?_take, List.getElem?_drop] using h4
  rw [h3, List.getElem?_map, List.getElem?_eq_getElem (show i < zs.length by omega), ← h2]
  rfl
 · rw [List.getElem?_eq_none (by omega), List.getElem?_eq_none (by simp; omega)]
theorem chunks_flat (m : Nat) (cs : List Value) : ∀ k : Nat, ((List.range k).map fun i => (cs.drop (i * m)).take m).flatten = cs.take (k * m)
 | 0 => by simp
 | k + 1 => by
  rw [List.range_succ, List.map_append, List.flatten_append, chunks_flat m cs k, show (k + 1) * m = k * m + m by rw [Nat.succ_mul], List.take_add]
  simp
theorem laid_rows {fuel : Nat} {t e : TypeId} {n m : Nat} {cs : List Value} {ds : List (DataW H)} {p : List MemPlace} (ht : P.underlying t = some (.array n e)) (hce : P.cellsOf e = m) (hct : P.cellsOf t = n * m)
 (h : DataW.trod enc P w base sp held fuel t cs = some (.agg ds, p)) (rows : List (List Value)) (hlen : rows.length = n)
 (hr : ∀ (i : Nat) (c : List Value) (d : DataW H) (fuel : Nat) (q : List MemPlace), ds[i]? = some d → DataW.trod enc P w base sp held fuel e c = some (d, q) → rows[i]? = some c) : cs = rows.flatten := by
 obtain ⟨xs, f, _, hx, hl, hn, hat⟩ := DataW.trod_array ht h
 simp only [Prod.mk.injEq, DataW.agg.injEq] at hx
 have hcs : cs.length = n * m := by rw [hl, hct]
 have hrows : rows = (List.range n).map fun i => (cs.drop (i * m)).take m := by
  apply List.ext_getElem?
  intro i
  by_cases hi : i < n
  ·
   have h1 := hat i hi
   rw [hce] at h1
   have hxi : xs[i]? = some (xs[i]'(by omega)) := List.getElem?_eq_getElem (by omega)
   rw [hxi] at h1
   have h2 : ds[i]? = some (xs[i]'(by omega)).1 := by rw [hx.1, List.getElem?_map, hxi]; rfl
   rw [hr i _ _ f _ h2 h1, List.getElem?_map, List.getElem?_range hi]
   rfl
  · rw [List.getElem?_eq_none (by omega), List.getElem?_eq_none (by simp; omega)]
 rw [hrows, chunks_flat, List.take_of_length_le (by omega)]
end
end Go.Proofs.YtlddafkikkaonaaGreatDoor
namespace Go.Proofs.YtlddafkikkaonaaGreatDoor
theorem getD_lt {l : List UInt8} {i : Nat} (h : i < l.length) : l.getD i 0 = l[i] := by simp [List.getD, h]
/-- byte i of the number n -/
def byteOf (n i : Nat) : UInt8 := UInt8.ofNat (n / 2 ^ (8 * i) % 256)
theorem byteOf_toNat (n i : Nat) : (byteOf n i).toNat = n / 2 ^ (8 * i) % 256 := by
 unfold byteOf
 rw [UInt8.toNat_ofNat']
 exact Nat.mod_eq_of_lt (by omega)
theorem byteOf_cast (n i : Nat) : ((byteOf n i).toNat : Int) = (n : Int) / 2 ^ (8 * i) % 256 := by
 rw [byteOf_toNat, Int.natCast_emod, Int.natCast_ediv, Int.natCast_pow]; rfl
/-- the k lowest bytes, the least significant one first -/
def littleL (n k : Nat) : List UInt8 := (List.range k).map (byteOf n)
theorem littleL_length (n k : Nat) : (littleL n k).length = k := by simp [littleL]
theorem littleL_succ (n k : Nat) : littleL n (k + 1) = littleL n k ++ [byteOf n k] := by simp [littleL, List.range_succ]
theorem littleL_get (n k j : Nat) (h : j < (littleL n k).length) : (littleL n k)[j] = byteOf n j := by simp [littleL]
/-- a row of k bytes whose first j are those of n, the others 0 -/
def littleRow (n k j : Nat) : List UInt8 := littleL n j ++ List.replicate (k - j) 0
theorem littleRow_zero (n k : Nat) : littleRow n k 0 = List.replicate k 0 := by simp [littleRow, littleL]
theorem littleRow_end (n k : Nat) : littleRow n k k = littleL n k := by simp [littleRow]
theorem littleRow_set (n k j : Nat) (h : j < k) : (littleRow n k j).set j (byteOf n j) = littleRow n k (j + 1) := by
 unfold littleRow
 rw [List.set_append_right _ _ (by rw [littleL_length]; exact Nat.le_refl _), littleL_length, Nat.sub_self, littleL_succ, show k - j = (k - (j + 1)) + 1 from by omega, List.replicate_succ, List.set_cons_zero, List.append_assoc]
 rfl
/-- the number of bytes, the least significant one first -/
def numL : List UInt8 → Nat
 | [] => 0
 | b :: l => b.toNat + 256 * numL l
theorem numL_lt : ∀ l : List UInt8, numL l < 256 ^ l.length
 | [] => by simp [numL]
 | b :: l => by
  have h := numL_lt l
  have hb := b.toNat_lt
  simp only [numL, List.length_cons, Nat.pow_succ]
  omega
theorem numL_append : ∀ l r : List UInt8, numL (l ++ r) = numL l + 256 ^ l.length * numL r
 | [], r => by simp [numL]
 | b :: l, r => by
  simp only [List.cons_append, numL, numL_append l r, List.length_cons, Nat.pow_succ]
  rw [Nat.mul_add, Nat.mul_comm (256 ^ l.length) 256, Nat.mul_assoc]
  omega
theorem pow_256 (j : Nat) : 256 ^ j = 2 ^ (8 * j) := by rw [Nat.pow_mul]
theorem numL_take_succ (l : List UInt8) (j : Nat) (h : j < l.length) : numL (l.take (j + 1)) = numL (l.take j) + 2 ^ (8 * j) * l[j].toNat := by
 rw [List.take_succ_eq_append_getElem h, numL_append, List.length_take, Nat.min_eq_left (by omega), pow_256]
 simp [numL]
theorem numL_take_lt (l : List UInt8) (j : Nat) : numL (l.take j) < 2 ^ (8 * j) := by
 have h := numL_lt (l.take j)
 rw [pow_256] at h
 refine Nat.lt_of_lt_of_le h (Nat.pow_le_pow_right (by omega) ?_)
 have := List.length_take_le j l
 omega
theorem numL_little (n : Nat) : ∀ k, numL (littleL n k) = n % 256 ^ k
 | 0 => by simp [littleL, numL, Nat.mod_one]
 | k + 1 => by
  rw [littleL_succ, numL_append, littleL_length, numL_little n k]
  simp only [numL, byteOf_toNat, Nat.mul_zero, Nat.add_zero]
  rw [← pow_256, Nat.pow_succ, Nat.mod_mul]
/-- 'or' of a number with zeros below and a number that lies there is their sum -/
theorem or_low (a b i : Nat) (h : b < 2 ^ i) : b ||| 2 ^ i * a = b + 2 ^ i * a := by
 rw [Nat.or_comm, ← Nat.two_pow_add_eq_or_of_lt h a, Nat.add_comm]
theorem numL_take_mod (l : List UInt8) : numL l % 18446744073709551616 = numL (l.take 8) := by
 have hlt : numL (l.take 8) < 18446744073709551616 := numL_take_lt l 8
 by_cases h : l.length ≤ 8
 ·
  rw [List.take_of_length_le h] at hlt ⊢
  exact Nat.mod_eq_of_lt hlt
 ·
  have h2 := numL_append (l.take 8) (l.drop 8)
  rw [List.take_append_drop, List.length_take, Nat.min_eq_left (by omega)] at h2
  have : (256 : Nat) ^ 8 = 18446744073709551616 := by decide
  rw [this] at h2
  omega
theorem numL_drop (l : List UInt8) (j : Nat) (h : j < l.length) : numL (l.drop j) = l[j].toNat + 256 * numL (l.drop (j + 1)) := by
 rw [List.drop_eq_getElem_cons h]; rfl
end Go.Proofs.YtlddafkikkaonaaGreatDoor
namespace Go.Proofs.YtlddafkikkaonaaGreatDoor
open Go.RowKit
def rotl (x : UInt32) (n : Nat) : UInt32 := x <<< UInt32.ofNat n ||| x >>> UInt32.ofNat (32 - n)
def wd (w : List UInt32) (i : Nat) : UInt32 := w.getD i 0
def addW (w : List UInt32) (i j : Nat) : List UInt32 := w.set i (wd w i + wd w j)
def mixW (w : List UInt32) (i j n : Nat) : List UInt32 := w.set i (rotl (wd w i ^^^ wd w j) n)
def quarterW (w : List UInt32) (a b c d : Nat) : List UInt32 :=
 mixW (addW (mixW (addW (mixW (addW (mixW (addW w a b) d a 16) c d) b c 12) a b) d a 8) c d) b c 7
def doubleW (w : List UInt32) : List UInt32 :=
 quarterW (quarterW (quarterW (quarterW (quarterW (quarterW (quarterW (quarterW w 0 4 8 12) 1 5 9 13) 2 6 10 14) 3 7 11 15) 0 5 10 15) 1 6 11 12) 2 7 8 13) 3 4 9 14
def coreW : Nat → List UInt32 → List UInt32
 | 0, w => w
 | n + 1, w => doubleW (coreW n w)
def wordL (l : List UInt8) (i : Nat) : UInt32 := UInt32.ofNat (numL ((l.drop (4 * i)).take 4))
def stateW (k : List UInt8) (c : UInt32) (n : List UInt8) : List UInt32 :=
 [0x61707865, 0x3320646e, 0x79622d32, 0x6b206574] ++ (List.range 8).map (wordL k) ++ [c] ++ (List.range 3).map (wordL n)
def blockL (k : List UInt8) (c : UInt32) (n : List UInt8) : List UInt8 :=
 ((coreW 10 (stateW k c n)).zipWith (· + ·) (stateW k c n)).flatMap fun x => littleL x.toNat 4
def streamB (k : List UInt8) (c : UInt32) (n : List UInt8) (i : Nat) : UInt8 := (blockL k (c + UInt32.ofNat (i / 64)) n).getD (i % 64) 0
def xorL (k : List UInt8) (c : UInt32) (n d : List UInt8) : List UInt8 := d.mapIdx fun i x => x ^^^ streamB k c n i
theorem addW_length (w : List UInt32) (i j : Nat) : (addW w i j).length = w.length := List.length_set
theorem mixW_length (w : List UInt32) (i j n : Nat) : (mixW w i j n).length = w.length := List.length_set
theorem quarterW_length (w : List UInt32) (a b c d : Nat) : (quarterW w a b c d).length = w.length := by simp only [quarterW, addW_length, mixW_length]
theorem doubleW_length (w : List UInt32) : (doubleW w).length = w.length := by simp only [doubleW, quarterW_length]
theorem coreW_length : ∀ (n : Nat) (w : List UInt32), (coreW n w).length = w.length
 | 0, _ => rfl
 | n + 1, w => (doubleW_length _).trans (coreW_length n w)
theorem stateW_length (k : List UInt8) (c : UInt32) (n : List UInt8) : (stateW k c n).length = 16 := by simp [stateW]
theorem xorL_length (k : List UInt8) (c : UInt32) (n d : List UInt8) : (xorL k c n d).length = d.length := by simp [xorL]
theorem xorL_get (k : List UInt8) (c : UInt32) (n d : List UInt8) (i : Nat) (h : i < d.length) : (xorL k c n d)[i]'(by rw [xorL_length]; exact h) = d[i] ^^^ streamB k c n i := by simp [xorL]
theorem u8_xor_xor (a b : UInt8) : a ^^^ b ^^^ b = a := by
 apply UInt8.toNat.inj
 rw [UInt8.toNat_xor, UInt8.toNat_xor, Nat.xor_assoc, Nat.xor_self, Nat.xor_zero]
/-- twice is once more the data -/
theorem xorL_xorL (k : List UInt8) (c : UInt32) (n d : List UInt8) : xorL k c n (xorL k c n d) = d := by
 apply List.ext_getElem
 · rw [xorL_length, xorL_length]
 ·
  intro i h1 h2
  rw [xorL_get _ _ _ _ _ (by rw [xorL_length]; exact h2), xorL_get _ _ _ _ _ h2, u8_xor_xor]
theorem u32_add (x y : UInt32) : IntKind.u32.wrap ((x.toNat : Int) + (y.toNat : Int)) = ((x + y).toNat : Int) := by
 rw [UInt32.toNat_add]
 unfold IntKind.wrap
 dsimp only
 have e : (IntKind.u32.signed && decide (((x.toNat : Int) + (y.toNat : Int)) % (2 ^ IntKind.u32.bits : Int) ≥ (2 ^ (IntKind.u32.bits - 1) : Int))) = false := rfl
 rw [e]
 show ((x.toNat : Int) + (y.toNat : Int)) % 4294967296 = (((x.toNat + y.toNat) % 4294967296 : Nat) : Int)
 omega
theorem u32_sum (x y : UInt32) : ((x.toNat : Int) + (y.toNat : Int)) % 4294967296 = ((x + y).toNat : Int) := by
 rw [UInt32.toNat_add]
 omega
theorem u32_xor (x y : UInt32) : bits BinOp.xor IntKind.u32 (x.toNat : Int) (y.toNat : Int) = ((x ^^^ y).toNat : Int) := by
 rw [UInt32.toNat_xor, u32_xor_nat _ _ x.toNat_lt y.toNat_lt]
theorem rotl_toNat (x : UInt32) (n : Nat) (h0 : 0 < n) (h : n < 32) : (rotl x n).toNat = (x.toNat * 2 ^ n % 4294967296) ||| (x.toNat / 2 ^ (32 - n)) := by
 unfold rotl
 rw [UInt32.toNat_or, UInt32.toNat_shiftLeft, UInt32.toNat_shiftRight, UInt32.toNat_ofNat', UInt32.toNat_ofNat', Nat.mod_eq_of_lt (show n < 2 ^ 32 by omega), Nat.mod_eq_of_lt (show 32 - n < 2 ^ 32 by omega), Nat.mod_eq_of_lt h, Nat.mod_eq_of_lt (show 32 - n < 32 by omega), Nat.shiftLeft_eq, Nat.shiftRight_eq_div_pow]
theorem u32_rotl (x : UInt32) (n : Nat) (h0 : 0 < n) (h : n < 32) : bits BinOp.or IntKind.u32 ((x.toNat : Int) * 2 ^ n % 4294967296) ((x.toNat : Int) / 2 ^ (32 - n)) = ((rotl x n).toNat : Int) := by
 have hx := x.toNat_lt
 rw [rotl_toNat x n h0 h, ← u32_or_nat _ _ (by omega) (Nat.lt_of_le_of_lt (Nat.div_le_self _ _) (by omega))]
 simp
def rotr (x : UInt32) (n : Nat) : UInt32 := x >>> UInt32.ofNat n ||| x <<< UInt32.ofNat (32 - n)
theorem rotr_rotl (x : UInt32) (n : Nat) (h0 : 0 < n) (h : n < 32) : rotr x n = rotl x (32 - n) := by
 unfold rotr rotl
 rw [show 32 - (32 - n) = n by omega]
 apply UInt32.toNat.inj
 rw [UInt32.toNat_or, UInt32.toNat_or, Nat.or_comm]
def ivW : List UInt32 := [0x6A09E667, 0xBB67AE85, 0x3C6EF372, 0xA54FF53A, 0x510E527F, 0x9B05688C, 0x1F83D9AB, 0x5BE0CD19]
def ordT : List (List Nat) := [[0, 1, 2, 3, 4, 5, 6, 7, 8, 9, 10, 11, 12, 13, 14, 15], [14, 10, 4, 8, 9, 15, 13, 6, 1, 12, 0, 2, 11, 7, 5, 3], [11, 8, 12, 0, 5, 2, 15, 13, 10, 14, 3, 6, 7, 1, 9, 4], [7, 9, 3, 1, 13, 12, 11, 14, 2, 6, 5, 10, 4, 0, 15, 8], [9, 0, 5, 7, 2, 4, 10, 15, 14, 1, 11, 12, 6, 8, 3, 13], [2, 12, 6, 10, 0, 11, 8, 3, 4, 13, 7, 5, 15, 14, 1, 9], [12, 5, 1, 15, 14, 13, 4, 10, 0, 7, 6, 3, 9, 2, 8, 11], [13, 11, 7, 14, 12, 1, 3, 9, 5, 0, 15, 4, 8, 6, 2, 10], [6, 15, 14, 9, 11, 3, 0, 8, 12, 2, 13, 7, 1, 4, 10, 5], [10, 2, 8, 4, 7, 6, 1, 5, 15, 11, 9, 14, 3, 12, 13, 0]]
def ordN (r i : Nat) : Nat := (ordT.getD r []).getD i 0
theorem ordN_lt (r i : Nat) (hr : r < 10) (hi : i < 16) : ordN r i < 16 := by
 have h : ∀ r : Fin 10, ∀ i : Fin 16, ordN r.val i.val < 16 := by decide
 exact h ⟨r, hr⟩ ⟨i, hi⟩
def addX (v : List UInt32) (a b : Nat) (x : UInt32) : List UInt32 := v.set a (wd v a + wd v b + x)
def xrot (v : List UInt32) (d a n : Nat) : List UInt32 := v.set d (rotr (wd v d ^^^ wd v a) n)
def mixB (v : List UInt32) (a b c d : Nat) (x y : UInt32) : List UInt32 :=
 xrot (addW (xrot (addX (xrot (addW (xrot (addX v a b x) d a 16) c d) b c 12) a b y) d a 8) c d) b c 7
/-- a round with the permutation r -/
def roundB (m : List UInt32) (r : Nat) (v : List UInt32) : List UInt32 :=
 mixB (mixB (mixB (mixB (mixB (mixB (mixB (mixB (v) 0 4 8 12 (wd m (ordN r 0)) (wd m (ordN r 1))) 1 5 9 13 (wd m (ordN r 2)) (wd m (ordN r 3))) 2 6 10 14 (wd m (ordN r 4)) (wd m (ordN r 5))) 3 7 11 15 (wd m (ordN r 6)) (wd m (ordN r 7))) 0 5 10 15 (wd m (ordN r 8)) (wd m (ordN r 9))) 1 6 11 12 (wd m (ordN r 10)) (wd m (ordN r 11))) 2 7 8 13 (wd m (ordN r 12)) (wd m (ordN r 13))) 3 4 9 14 (wd m (ordN r 14)) (wd m (ordN r 15))
def roundsB (m : List UInt32) : Nat → List UInt32 → List UInt32
 | 0, v => v
 | r + 1, v => roundB m r (roundsB m r v)
/-- the words ahead of the rounds -/
def beginB (h : List UInt32) (t : Nat) (f : Bool) : List UInt32 :=
 let v := ((h ++ ivW).set 12 (wd (h ++ ivW) 12 ^^^ UInt32.ofNat t)).set 13 (wd (h ++ ivW) 13 ^^^ UInt32.ofNat (t / 4294967296))
 if f then v.set 14 (~~~ (wd (h ++ ivW) 14)) else v
def wordsL (l : List UInt8) : List UInt32 := (List.range 16).map (wordL l)
/-- a state behind a block of 64 bytes -/
def compB (h : List UInt32) (b : List UInt8) (t : Nat) (f : Bool) : List UInt32 :=
 let v := roundsB (wordsL b) 10 (beginB h t f)
 (List.range 8).map fun i => wd h i ^^^ (wd v i ^^^ wd v (8 + i))
/-- what stands ahead of the data for a key -/
def keyB (key : List UInt8) : List UInt8 := if key = [] then [] else key ++ List.replicate (64 - key.length) 0
def msgB (key data : List UInt8) : List UInt8 := keyB key ++ data
/-- filled with zero bytes -/
def fillB (l : List UInt8) : List UInt8 := l ++ List.replicate (if l = [] then 64 else (64 - l.length % 64) % 64) 0
/-- the states behind the first n of N blocks of the filled message p, which has len bytes before it was filled -/
def statesB (h : List UInt32) (p : List UInt8) (len N : Nat) : Nat → List UInt32
 | 0 => h
 | n + 1 => compB (statesB h p len N n) ((p.drop (64 * n)).take 64) (if n + 1 = N then len else 64 * (n + 1)) (n + 1 == N)
def firstB (size klen : Nat) : List UInt32 := ivW.set 0 (wd ivW 0 ^^^ (0x01010000 ^^^ UInt32.ofNat (klen * 256) ^^^ UInt32.ofNat size))
def hashB (size : Nat) (key data : List UInt8) : List UInt8 :=
 let p := fillB (msgB key data)
 ((statesB (firstB size key.length) p (msgB key data).length (p.length / 64) (p.length / 64)).flatMap fun x => littleL x.toNat 4).take size
theorem addX_length (v : List UInt32) (a b : Nat) (x : UInt32) : (addX v a b x).length = v.length := List.length_set
theorem xrot_length (v : List UInt32) (d a n : Nat) : (xrot v d a n).length = v.length := List.length_set
theorem mixB_length (v : List UInt32) (a b c d : Nat) (x y : UInt32) : (mixB v a b c d x y).length = v.length := by simp only [mixB, xrot_length, addX_length, addW_length]
theorem roundB_length (m : List UInt32) (r : Nat) (v : List UInt32) : (roundB m r v).length = v.length := by simp only [roundB, mixB_length]
theorem roundsB_length (m : List UInt32) : ∀ (r : Nat) (v : List UInt32), (roundsB m r v).length = v.length
 | 0, _ => rfl
 | r + 1, v => (roundB_length m r _).trans (roundsB_length m r v)
theorem beginB_length (h : List UInt32) (t : Nat) (f : Bool) (hh : h.length = 8) : (beginB h t f).length = 16 := by
 unfold beginB
 cases f <;> simp [hh, ivW]
theorem compB_length (h : List UInt32) (b : List UInt8) (t : Nat) (f : Bool) : (compB h b t f).length = 8 := by simp [compB]
theorem firstB_length (size klen : Nat) : (firstB size klen).length = 8 := by simp [firstB, ivW]
theorem statesB_length (h : List UInt32) (p : List UInt8) (len N : Nat) (hh : h.length = 8) : ∀ n, (statesB h p len N n).length = 8
 | 0 => hh
 | _ + 1 => compB_length _ _ _ _
theorem wordsL_length (l : List UInt8) : (wordsL l).length = 16 := by simp [wordsL]
theorem wpList_store_blk {P : Program} {w : World} {ops : Array Oper} {rest : List Oper} {o : Oper} {a : Act} {Q : Exit → Act → World → Prop} (hgd : o.guard = none) (ty : TypeId) (x y : Operand) (ho : o.op = .store ty x y)
 (g : Nat) (cs : List Value) (hx : a.eval x = .pointer (some ⟨g, 0, none⟩)) (hy : a.eval y = .agg cs.toArray)
 (t : TypeId) (old : List Value) (hg : Blk w g t old) (hi : (P.info? ty).map (·.size) = some cs.length) (hold : old.length = cs.length) (h1 : ∀ v ∈ cs, v.oneCell' = true)
 (h : ∀ w', Blk w' g t cs → w.grownBy w' (some g) → wpList P ops Q rest (a.put o.dst undef) w') : wpList P ops Q (o :: rest) a w := by
 refine wpList_store_row hgd ty x y ho g cs.toArray hx hy t old.toArray hg (by simpa using hi) (by simpa using hold) (by simpa using h1) (h _ ?_ ⟨rfl, rfl, rfl, by simp, fun k _ hk => setRow_other w g k _ (fun e => hk (by simp [e]))⟩)
 exact setRow_heap w g old.toArray _ t _ hg
theorem wpList_load_blk {P : Program} {w : World} {ops : Array Oper} {rest : List Oper} {o : Oper} {a : Act} {Q : Exit → Act → World → Prop} (hgd : o.guard = none) (ty : TypeId) (x : Operand) (ho : o.op = .load ty x)
 (g : Nat) (hx : a.eval x = .pointer (some ⟨g, 0, none⟩)) (t : TypeId) (cs : List Value) (hg : Blk w g t cs) (n : Nat) (e : TypeId) (hu : P.underlying ty = some (.array n e)) (hi : (P.info? ty).map (·.size) = some cs.length)
 (h : wpList P ops Q rest (a.put o.dst (.agg cs.toArray)) w) : wpList P ops Q (o :: rest) a w :=
 wpList_load_row hgd ty x ho g hx t cs.toArray (0, 0) _ hg hu rfl (by simpa using hi) h
theorem Blk.far {w : World} {g : Nat} {t : TypeId} {cs : List Value} (h : Blk w g t cs) {p : Addr} (hp : g ≠ p.block) (u : Value) : Blk (w.setCell p u) g t cs := (Below.heap_setCell w p u g hp).trans h
theorem below_blk {w0 w w' : World} {g : Nat} (h : Below w0.heap.size w0 w) (hg : w.grownBy w' (some g)) (hb : w0.heap.size ≤ g) : Below w0.heap.size w0 w' :=
 h.grown hg h.size (fun k hk => by injection hk with hk; omega)
/-- and inside a region that draws its order: it yields the array in every world that keeps the block -/
theorem yields_load_blk {P : Program} {ops : Array Oper} {S : World → Prop} {o : Oper} {a : Act} (hw : Region.wanted o (yielded ops a.tmps) = true) (ty : TypeId) (x : Operand) (ho : o.op = .load ty x)
 (g : Nat) (hx : a.eval x = .pointer (some ⟨g, 0, none⟩)) (t : TypeId) (cs : List Value) (hS : ∀ w, S w → Blk w g t cs) (n : Nat) (e : TypeId) (hu : P.underlying ty = some (.array n e)) (hi : (P.info? ty).map (·.size) = some cs.length) :
 YieldsIf P ops S o (.agg cs.toArray) a := by
 refine .inl ⟨hw, fun w h => ?_⟩
 unfold execOp
 simp only [ho, hx, Instr.loadAt, Instr.sureAddr, Sem.run_bind, Sem.run_pure, Result.andThen_ok, run_loadVar_row w g t ty cs.toArray (0, 0) _ (hS w h) hu rfl (by simpa using hi)]
/-- keys are compared byte by byte -/
theorem run_key_eq {P : Program} (t e : TypeId) (n : Nat) (ht : P.underlying t = some (.array n e)) (he : P.underlying e = some (.int .u8)) (i : TypeInfo) (hi : P.info? e = some i) (hs : i.size = 1)
 (xs ys : List UInt8) (hx : xs.length = n) (hy : ys.length = n) (w : World) :
 (Op.equalIn 10000 t (.agg (xs.map u8v).toArray) (.agg (ys.map u8v).toArray)).run P w = .ok (xs == ys) w :=
 run_equalIn_bytes w 9998 t e n ht he (fun w => by simp [sizeOf, typeInfo, hi, hs]) xs ys hx hy
/-- a stronger condition serves -/
theorem wpAnyH_stronger {P : Program} {md : Region.Mode} {ops : Array Oper} {Q : Exit → Act → World → Prop} {S T : World → Prop} (hTS : ∀ w, T w → S w) :
 ∀ (fuel : Nat) (listed : Array Bool) (a : Act) (w : World), wpAnyH P md ops Q T fuel listed a w → wpAnyH P md ops Q S fuel listed a w
 | 0, _, _, _, h => h
 | fuel + 1, _, _, _, h => ⟨h.1, fun i hi => wpOp_mono (fun a' w' h' => ⟨hTS _ h'.1, wpAnyH_stronger hTS fuel _ a' w' h'.2⟩) (h.2 i hi)⟩
theorem getElem?_of_drop {ops : Array Oper} {i : Nat} {o : Oper} {r : List Oper} (h : ops.toList.drop i = o :: r) : ops[i]? = some o := by
 have := List.getElem?_drop (xs := ops.toList) (i := i) (j := 0)
 rw [h] at this
 simpa using this.symm
/-- take an operation first; it is read off the list, written out -/
theorem take_first {P : Program} {md : Region.Mode} {ops : Array Oper} {Q : Exit → Act → World → Prop} {S : World → Prop} {r : List Oper} {oi : Oper} {v : Value} {fuel : Nat} {listed : Array Bool} {a : Act} {w : World} (i : Nat) (hi : ops.toList.drop i = oi :: r)
 (hs : Region.noSelect ops = true) (hf : Region.free md ops listed i = true) (hr : (Region.ready md ops listed).contains i = true)
 (hQ : ∀ c a w, Q (.panic c) (a.put oi.dst v) w → Q (.panic c) a w) (hy : YieldsIf P ops S oi v a) (hS : S w)
 (h : wpAnyH P md ops Q S fuel (listed.setIfInBounds i true) (a.put oi.dst v) w) : wpAnyH P md ops Q S (fuel + 1) listed a w :=
 wpAnyH_take (getElem?_of_drop hi) hs hf hr hQ hy hS h
/-- the one operation that may come up -/
theorem step_one {P : Program} {md : Region.Mode} {ops : Array Oper} {Q : Exit → Act → World → Prop} {S : World → Prop} {r : List Oper} {o : Oper} {fuel : Nat} {listed : Array Bool} {a : Act} {w : World} (i : Nat) (hi : ops.toList.drop i = o :: r)
 (hr : Region.ready md ops listed = [i])
 (h : ∀ K' : Act → World → Prop, Shut (∀ a w, S w → (S w → wpAnyH P md ops Q S fuel (listed.setIfInBounds i true) a w) → K' a w) → if Region.wanted o (yielded ops a.tmps) = true then Oper.wp P o a w K' Q else K' (a.put o.dst undef) w) :
 wpAnyH P md ops Q S (fuel + 1) listed a w :=
 wpAnyH_ready hr (by simp) (AllReadyH.cons (getElem?_of_drop hi) h AllReadyH.nil)
/-- short words -/
theorem sA {α : Type} (l : List α) (i : Nat) (a : α) : l.toArray.setIfInBounds i a = (l.set i a).toArray := List.setIfInBounds_toArray l i a
theorem s0 {α : Type} {x : α} {xs : List α} {a : α} : (x :: xs).set 0 a = a :: xs := rfl
theorem s1 {α : Type} {x : α} {xs : List α} {i : Nat} {a : α} : (x :: xs).set (i + 1) a = x :: xs.set i a := rfl
theorem tf {P : Program} {md : Region.Mode} {ops : Array Oper} {Q : Exit → Act → World → Prop} {S : World → Prop} {r : List Oper} {oi : Oper} {v : Value} {fuel : Nat} {listed : Array Bool} {a : Act} {w : World} (i : Nat) (hi : ops.toList.drop i = oi :: r)
 (hy : YieldsIf P ops S oi v a)
 (h : wpAnyH P md ops Q S fuel (listed.setIfInBounds i true) (a.put oi.dst v) w)
 (hs : Region.noSelect ops = true := by kernel_rfl) (hf : Region.free md ops listed i = true := by kernel_rfl) (hr : (Region.ready md ops listed).contains i = true := by kernel_rfl)
 (hQ : ∀ c a w, Q (.panic c) (a.put oi.dst v) w → Q (.panic c) a w := by exact fun _ _ _ h => h) (hS : S w := by assumption) : wpAnyH P md ops Q S (fuel + 1) listed a w :=
 take_first i hi hs hf hr hQ hy hS h
theorem so {P : Program} {md : Region.Mode} {ops : Array Oper} {Q : Exit → Act → World → Prop} {S : World → Prop} {r : List Oper} {o : Oper} {fuel : Nat} {listed : Array Bool} {a : Act} {w : World} (i : Nat) (hi : ops.toList.drop i = o :: r)
 (h : ∀ K' : Act → World → Prop, Shut (∀ a w, S w → (S w → wpAnyH P md ops Q S fuel (listed.setIfInBounds i true) a w) → K' a w) → if Region.wanted o (yielded ops a.tmps) = true then Oper.wp P o a w K' Q else K' (a.put o.dst undef) w)
 (hr : Region.ready md ops listed = [i] := by kernel_rfl) :
 wpAnyH P md ops Q S (fuel + 1) listed a w := step_one i hi hr h
abbrev zb16 : Array Value := #[.int .u8 0, .int .u8 0, .int .u8 0, .int .u8 0, .int .u8 0, .int .u8 0, .int .u8 0, .int .u8 0, .int .u8 0, .int .u8 0, .int .u8 0, .int .u8 0, .int .u8 0, .int .u8 0, .int .u8 0, .int .u8 0]
abbrev zb24 : Array Value := #[.int .u8 0, .int .u8 0, .int .u8 0, .int .u8 0, .int .u8 0, .int .u8 0, .int .u8 0, .int .u8 0, .int .u8 0, .int .u8 0, .int .u8 0, .int .u8 0, .int .u8 0, .int .u8 0, .int .u8 0, .int .u8 0, .int .u8 0, .int .u8 0, .int .u8 0, .int .u8 0, .int .u8 0, .int .u8 0, .int .u8 0, .int .u8 0]
abbrev zb28 : Array Value := #[.int .u8 0, .int .u8 0, .int .u8 0, .int .u8 0, .int .u8 0, .int .u8 0, .int .u8 0, .int .u8 0, .int .u8 0, .int .u8 0, .int .u8 0, .int .u8 0, .int .u8 0, .int .u8 0, .int .u8 0, .int .u8 0, .int .u8 0, .int .u8 0, .int .u8 0, .int .u8 0, .int .u8 0, .int .u8 0, .int .u8 0, .int .u8 0, .int .u8 0, .int .u8 0, .int .u8 0, .int .u8 0]
abbrev zb32 : Array Value := #[.int .u8 0, .int .u8 0, .int .u8 0, .int .u8 0, .int .u8 0, .int .u8 0, .int .u8 0, .int .u8 0, .int .u8 0, .int .u8 0, .int .u8 0, .int .u8 0, .int .u8 0, .int .u8 0, .int .u8 0, .int .u8 0, .int .u8 0, .int .u8 0, .int .u8 0, .int .u8 0, .int .u8 0, .int .u8 0, .int .u8 0, .int .u8 0, .int .u8 0, .int .u8 0, .int .u8 0, .int .u8 0, .int .u8 0, .int .u8 0, .int .u8 0, .int .u8 0]
abbrev zb48 : Array Value := #[.int .u8 0, .int .u8 0, .int .u8 0, .int .u8 0, .int .u8 0, .int .u8 0, .int .u8 0, .int .u8 0, .int .u8 0, .int .u8 0, .int .u8 0, .int .u8 0, .int .u8 0, .int .u8 0, .int .u8 0, .int .u8 0, .int .u8 0, .int .u8 0, .int .u8 0, .int .u8 0, .int .u8 0, .int .u8 0, .int .u8 0, .int .u8 0, .int .u8 0, .int .u8 0, .int .u8 0, .int .u8 0, .int .u8 0, .int .u8 0, .int .u8 0, .int .u8 0, .int .u8 0, .int .u8 0, .int .u8 0, .int .u8 0, .int .u8 0, .int .u8 0, .int .u8 0, .int .u8 0, .int .u8 0, .int .u8 0, .int .u8 0, .int .u8 0, .int .u8 0, .int .u8 0, .int .u8 0, .int .u8 0]
abbrev zb64 : Array Value := #[.int .u8 0, .int .u8 0, .int .u8 0, .int .u8 0, .int .u8 0, .int .u8 0, .int .u8 0, .int .u8 0, .int .u8 0, .int .u8 0, .int .u8 0, .int .u8 0, .int .u8 0, .int .u8 0, .int .u8 0, .int .u8 0, .int .u8 0, .int .u8 0, .int .u8 0, .int .u8 0, .int .u8 0, .int .u8 0, .int .u8 0, .int .u8 0, .int .u8 0, .int .u8 0, .int .u8 0, .int .u8 0, .int .u8 0, .int .u8 0, .int .u8 0, .int .u8 0, .int .u8 0, .int .u8 0, .int .u8 0, .int .u8 0, .int .u8 0, .int .u8 0, .int .u8 0, .int .u8 0, .int .u8 0, .int .u8 0, .int .u8 0, .int .u8 0, .int .u8 0, .int .u8 0, .int .u8 0, .int .u8 0, .int .u8 0, .int .u8 0, .int .u8 0, .int .u8 0, .int .u8 0, .int .u8 0, .int .u8 0, .int .u8 0, .int .u8 0, .int .u8 0, .int .u8 0, .int .u8 0, .int .u8 0, .int .u8 0, .int .u8 0, .int .u8 0]
abbrev zw4_ : Array Value := #[.int .u32 0, .int .u32 0, .int .u32 0, .int .u32 0]
abbrev zw8_ : Array Value := #[.int .u32 0, .int .u32 0, .int .u32 0, .int .u32 0, .int .u32 0, .int .u32 0, .int .u32 0, .int .u32 0]
abbrev zw10_ : Array Value := #[.int .u32 0, .int .u32 0, .int .u32 0, .int .u32 0, .int .u32 0, .int .u32 0, .int .u32 0, .int .u32 0, .int .u32 0, .int .u32 0]
abbrev zw16_ : Array Value := #[.int .u32 0, .int .u32 0, .int .u32 0, .int .u32 0, .int .u32 0, .int .u32 0, .int .u32 0, .int .u32 0, .int .u32 0, .int .u32 0, .int .u32 0, .int .u32 0, .int .u32 0, .int .u32 0, .int .u32 0, .int .u32 0]
theorem Blk.new' (w : World) {g : Nat} (hg : g = w.heap.size) (t : TypeId) (cs : List Value) : Blk (w.alloc (.cells cs.toArray t)) g t cs := hg ▸ Blk.new w t cs
theorem results_blk {P : Program} {fn : Func} {p : Tmp} {ty : TypeId} (h : fn.results = #[.cell p ty]) (tmps : Array Value) (w : World) (g : Nat) (t : TypeId) (cs : List Value) (n : Nat) (e : TypeId)
 (hp : tmps.getD p undef = .pointer (some ⟨g, 0, none⟩)) (hg : Blk w g t cs) (hu : P.underlying ty = some (.array n e)) (hi : (P.info? ty).map (·.size) = some cs.length) :
 (results fn tmps).run P w = .ok (.agg cs.toArray) w := by
 have hp' : tmps[p]?.getD undef = .pointer (some ⟨g, 0, none⟩) := by simpa using hp
 simp [results, h, hp', asAddr, run_loadVar_row w g t ty cs.toArray (0, 0) _ hg hu rfl (by simpa using hi)]
theorem Rd.drop {w : World} {B n : Nat} {A : Option Addr} {l : List UInt8} (h : Rd w B A n l) (m : Nat) (b off : Nat) (hA : A = some ⟨b, off, none⟩) (hm : m ≤ n) : Rd w B (some ⟨b, off + m, none⟩) (n - m) (l.drop m) := by
 have h1 := h.1
 refine ⟨by rw [List.length_drop]; omega, fun hp => ?_⟩
 obtain ⟨b', off', e, hb, hc⟩ := h.2 (by omega)
 rw [hA] at e
 injection e with e
 injection e with e1 e2
 subst e1 e2
 refine ⟨b, off + m, rfl, hb, fun j hj => ?_⟩
 rw [List.length_drop] at hj
 rw [List.getElem_drop, Nat.add_assoc]
 exact hc (m + j) (by omega)
/-- behind the first m bytes: where nothing is left the address may stay -/
theorem Rd.drop_if {w : World} {B n m b off : Nat} {Ad : Option Addr} {l : List UInt8} (hA : Ad = some ⟨b, off + m, none⟩ ∨ n = m) (hm : m ≤ n) (h : Rd w B (some ⟨b, off, none⟩) n l) : Rd w B Ad (n - m) (l.drop m) := by
 rcases hA with rfl | rfl
 · exact h.drop m b off rfl hm
 ·
  rw [Nat.sub_self, List.drop_of_length_le (by have := h.1; omega)]
  exact Rd.nil _ _ _
theorem Rd.src {w : World} {B n : Nat} {ad : Addr} {l : List UInt8} (h : Rd w B (some ad) n l) : ∀ j v, (l.map u8v)[j]? = some v → w.cell? (ad.add j) = some v := by
 intro j v hv
 have hj : j < l.length := by simpa using (List.getElem?_eq_some_iff.1 hv).1
 obtain ⟨b, off, he, _, hc⟩ := h.2 (by have := h.1; omega)
 cases he
 rw [Go.WideShapes.add_plain, hc j hj]
 rw [map_u8v_getElem? l j hj] at hv
 exact hv
/-- a store of a whole array inside a region that draws its order -/
theorem step_store_blk {P : Program} (w : World) {ops : Array Oper} {o : Oper} {a : Act} {K : Act → World → Prop} {Q : Exit → Act → World → Prop} {E : Prop} (hgd : o.guard = none) (ty : TypeId) (x y : Operand) (ho : o.op = .store ty x y)
 (g : Nat) (cs : List Value) (hx : a.eval x = .pointer (some ⟨g, 0, none⟩)) (hy : a.eval y = .agg cs.toArray) (t : TypeId) (old : List Value) (hg : Blk w g t old) (hi : (P.info? ty).map (·.size) = some cs.length) (hold : old.length = cs.length) (h1 : ∀ v ∈ cs, v.oneCell' = true)
 (h : ∀ w', Blk w' g t cs → w.grownBy w' (some g) → K (a.put o.dst undef) w') : if Region.wanted o (yielded ops a.tmps) = true then Oper.wp P o a w K Q else E := by
 have hw : Region.wanted o (yielded ops a.tmps) = true := by simp [Region.wanted, hgd]
 rw [if_pos hw]
 refine wp_store_row ty x y ho g cs.toArray hx hy t old.toArray hg (by simpa using hi) (by simpa using hold) (by simpa using h1) (h _ ?_ ⟨rfl, rfl, rfl, by simp, fun k _ hk => setRow_other w g k _ (fun e => hk (by simp [e]))⟩)
 exact setRow_heap w g old.toArray _ t _ hg
theorem step_load_blk {P : Program} {w : World} {ops : Array Oper} {o : Oper} {a : Act} {K : Act → World → Prop} {Q : Exit → Act → World → Prop} {E : Prop} (hgd : o.guard = none) (ty : TypeId) (x : Operand) (ho : o.op = .load ty x)
 (g : Nat) (hx : a.eval x = .pointer (some ⟨g, 0, none⟩)) (t : TypeId) (cs : List Value) (hg : Blk w g t cs) (n : Nat) (e : TypeId) (hu : P.underlying ty = some (.array n e)) (hi : (P.info? ty).map (·.size) = some cs.length)
 (h : K (a.put o.dst (.agg cs.toArray)) w) : if Region.wanted o (yielded ops a.tmps) = true then Oper.wp P o a w K Q else E := by
 have hw : Region.wanted o (yielded ops a.tmps) = true := by simp [Region.wanted, hgd]
 rw [if_pos hw]
 exact wp_load_row ty x ho g hx t cs.toArray (0, 0) _ hg hu rfl (by simpa using hi) h
theorem step_two {P : Program} {md : Region.Mode} {ops : Array Oper} {Q : Exit → Act → World → Prop} {S : World → Prop} {r r' : List Oper} {o o' : Oper} {fuel : Nat} {listed : Array Bool} {a : Act} {w : World} (i j : Nat) (hi : ops.toList.drop i = o :: r) (hj : ops.toList.drop j = o' :: r')
 (hr : Region.ready md ops listed = [i, j])
 (h : ∀ K' : Act → World → Prop, Shut (∀ a w, S w → (S w → wpAnyH P md ops Q S fuel (listed.setIfInBounds i true) a w) → K' a w) → if Region.wanted o (yielded ops a.tmps) = true then Oper.wp P o a w K' Q else K' (a.put o.dst undef) w)
 (h' : ∀ K' : Act → World → Prop, Shut (∀ a w, S w → (S w → wpAnyH P md ops Q S fuel (listed.setIfInBounds j true) a w) → K' a w) → if Region.wanted o' (yielded ops a.tmps) = true then Oper.wp P o' a w K' Q else K' (a.put o'.dst undef) w) :
 wpAnyH P md ops Q S (fuel + 1) listed a w :=
 wpAnyH_ready hr (by simp) (AllReadyH.cons (getElem?_of_drop hi) h (AllReadyH.cons (getElem?_of_drop hj) h' AllReadyH.nil))
/-- the builtin copy of a whole row into a block -/
theorem wpList_copy_bytes {P : Program} (w : World) {ops : Array Oper} {rest : List Oper} {o : Oper} {a : Act} {Q : Exit → Act → World → Prop} (hgd : o.guard = none) (d s : Operand) (dT sT : TypeId)
 (ho : o.op = .call { callee := .builtin .copy, args := #[d, s], argTypes := #[dT, sT] }) (elem : TypeId) (hu : P.underlying dT = some (.slice elem)) (hsz : (P.info? elem).map (·.size) = some 1)
 (g off dLen dCap : Nat) (ad : Addr) (sLen sCap : Nat) (hd : a.eval d = .slice (some ⟨g, off, none⟩) dLen dCap) (hs : a.eval s = .slice (some ad) sLen sCap)
 (cur : List Value) (t : TypeId) (hg : Blk w g t cur) (cs : List Value) (hn : cs.length = Nat.min sLen dLen)
 (hsrc : ∀ j v, cs[j]? = some v → w.cell? (ad.add j) = some v) (hfit : off + cs.length ≤ cur.length) (h1 : ∀ v ∈ cs, v.oneCell' = true)
 (h : ∀ w', Blk w' g t (cur.take off ++ cs ++ cur.drop (off + cs.length)) → w.grownBy w' (some g) → wpList P ops Q rest (a.put o.dst (goInt cs.length)) w') : wpList P ops Q (o :: rest) a w := by
 refine wpList_plain hgd fun K hK => ?_
 have hrun := run_copy_row (P := P) w dT sT o.type elem g off dLen dCap ad sLen sCap cur.toArray t cs hu hsz hg hn hsrc (by simpa using hfit) h1
 unfold Oper.wp execOp
 simp only [ho, resolve, invoke, builtin, Sem.run_bind, Sem.run_pure, Result.andThen_ok, List.map_toArray, List.map_cons, List.map_nil, hs, hd, hrun]
 refine hK _ _ (h _ ?_ ⟨rfl, rfl, rfl, by simp, fun k _ hk => setRow_other w g k _ (fun e => hk (by simp [e]))⟩)
 unfold Blk
 exact setRow_heap w g cur.toArray _ t _ hg
/-- a fact that speaks of the blocks from lo to hi only -/
structure Ent where
 lo : Nat
 hi : Nat
 P : World → Prop
 loc : ∀ W W' : World, (∀ k, lo ≤ k → k < hi → W'.heap[k]? = W.heap[k]?) → P W → P W'
/-- a block -/
def blkE (g : Nat) (t : TypeId) (cs : List Value) : Ent := ⟨g, g + 1, fun W => Blk W g t cs, fun W W' h hp => by
 unfold Blk at *
 rw [h g (Nat.le_refl _) (by omega)]
 exact hp⟩
/-- bytes that lie somewhere from lo to hi -/
def RdIn (lo hi : Nat) (A : Option Addr) (n : Nat) (l : List UInt8) (W : World) : Prop :=
 l.length = n ∧ (0 < n → ∃ b off, A = some ⟨b, off, none⟩ ∧ lo ≤ b ∧ b < hi ∧ ∀ j (h : j < l.length), W.cell? ⟨b, off + j, none⟩ = some (.int .u8 (l[j].toNat : Int)))
def rdE (lo hi : Nat) (A : Option Addr) (n : Nat) (l : List UInt8) : Ent := ⟨lo, hi, RdIn lo hi A n l, fun W W' h hp => ⟨hp.1, fun hn => by
 obtain ⟨b, off, e, h1, h2, hc⟩ := hp.2 hn
 exact ⟨b, off, e, h1, h2, fun j hj => (World.cell?_of_block (w := W) (h b h1 h2)).trans (hc j hj)⟩⟩⟩
theorem RdIn.rd {lo hi : Nat} {A : Option Addr} {n : Nat} {l : List UInt8} {W : World} (h : RdIn lo hi A n l W) : Rd W hi A n l :=
 ⟨h.1, fun hn => by
  obtain ⟨b, off, e, _, h2, hc⟩ := h.2 hn
  exact ⟨b, off, e, h2, hc⟩⟩
/-- the entries, each above the one behind it in the list -/
def MemE (b : Nat) : List Ent → Nat → World → Prop
 | [], top, _ => b ≤ top
 | e :: r, top, W => e.hi ≤ top ∧ e.lo ≤ e.hi ∧ e.P W ∧ MemE b r e.lo W
def Mem (w0 : World) (E : List Ent) (W : World) : Prop := MemE w0.heap.size E W.heap.size W ∧ Below w0.heap.size w0 W
theorem MemE.base {b : Nat} : ∀ {E : List Ent} {top : Nat} {W : World}, MemE b E top W → b ≤ top
 | [], _, _, h => h
 | _ :: _, _, _, h => Nat.le_trans (MemE.base h.2.2.2) (Nat.le_trans h.2.1 h.1)
theorem MemE.keep {b : Nat} : ∀ {E : List Ent} {top top' : Nat} {W W' : World}, MemE b E top W → top ≤ top' → (∀ k, b ≤ k → k < top → W'.heap[k]? = W.heap[k]?) → MemE b E top' W'
 | [], _, _, _, _, h, ht, _ => Nat.le_trans h ht
 | e :: _, _, _, W, W', h, ht, hk => ⟨Nat.le_trans h.1 ht, h.2.1, e.loc W W' (fun k h1 h2 => hk k (Nat.le_trans (MemE.base h.2.2.2) h1) (Nat.lt_of_lt_of_le h2 h.1)) h.2.2.1, MemE.keep h.2.2.2 (Nat.le_refl _) (fun k h1 h2 => hk k h1 (Nat.lt_of_lt_of_le h2 (Nat.le_trans h.2.1 h.1)))⟩
theorem MemE.get {b : Nat} : ∀ {E : List Ent} {top : Nat} {W : World}, MemE b E top W → ∀ (i : Nat) (e : Ent), E[i]? = some e → e.P W
 | [], _, _, _, i, _, he => by simp at he
 | x :: r, _, _, h, 0, e, he => by
  have : x = e := by simpa using he
  exact this ▸ h.2.2.1
 | x :: r, _, _, h, i + 1, e, he => MemE.get h.2.2.2 i e (by simpa using he)
theorem MemE.erase {b : Nat} : ∀ {E : List Ent} {top : Nat} {W : World}, MemE b E top W → ∀ i : Nat, MemE b (E.eraseIdx i) top W
 | [], _, _, h, _ => h
 | _ :: _, _, _, h, 0 => MemE.keep h.2.2.2 (Nat.le_trans h.2.1 h.1) (fun _ _ _ => rfl)
 | _ :: _, _, _, h, i + 1 => ⟨h.1, h.2.1, h.2.2.1, MemE.erase h.2.2.2 i⟩
/-- a place of the list is written anew, within its own blocks -/
theorem MemE.put {b : Nat} : ∀ {E : List Ent} {top : Nat} {W W' : World}, MemE b E top W → ∀ (i : Nat) (e e' : Ent), E[i]? = some e → e'.lo = e.lo → e'.hi = e.hi → (∀ k, k < top → ¬(e.lo ≤ k ∧ k < e.hi) → W'.heap[k]? = W.heap[k]?) → e'.P W' → MemE b (E.set i e') top W'
 | [], _, _, _, _, i, _, _, he, _, _, _, _ => by simp at he
 | x :: r, top, W, W', h, 0, e, e', he, h1, h2, hk, hp => by
  have hx : x = e := by simpa using he
  subst hx
  refine ⟨by rw [h2]; exact h.1, by rw [h1, h2]; exact h.2.1, hp, ?_⟩
  rw [h1]
  exact MemE.keep h.2.2.2 (Nat.le_refl _) (fun k _ hlt => hk k (Nat.lt_of_lt_of_le hlt (Nat.le_trans h.2.1 h.1)) (fun hh => by omega))
 | x :: r, top, W, W', h, i + 1, e, e', he, h1, h2, hk, hp => by
  have he' : r[i]? = some e := by simpa using he
  have hin : e.hi ≤ x.lo := MemE.under h.2.2.2 i e he'
  exact ⟨h.1, h.2.1, x.loc W W' (fun k h3 h4 => hk k (Nat.lt_of_lt_of_le h4 h.1) (fun hh => by omega)) h.2.2.1, MemE.put h.2.2.2 i e e' he' h1 h2 (fun k hlt => hk k (Nat.lt_of_lt_of_le hlt (Nat.le_trans h.2.1 h.1))) hp⟩
where
 MemE.under {b : Nat} : ∀ {E : List Ent} {top : Nat} {W : World}, MemE b E top W → ∀ (i : Nat) (e : Ent), E[i]? = some e → e.hi ≤ top
 | [], _, _, _, i, _, he => by simp at he
 | x :: r, _, _, h, 0, e, he => by
  have : x = e := by simpa using he
  exact this ▸ h.1
 | x :: r, _, _, h, i + 1, e, he => Nat.le_trans (MemE.under h.2.2.2 i e (by simpa using he)) (Nat.le_trans h.2.1 h.1)
theorem MemE.low {b : Nat} : ∀ {E : List Ent} {top : Nat} {W : World}, MemE b E top W → ∀ (i : Nat) (e : Ent), E[i]? = some e → b ≤ e.lo
 | [], _, _, _, i, _, he => by simp at he
 | x :: r, _, _, h, 0, e, he => by
  have : x = e := by simpa using he
  exact this ▸ MemE.base h.2.2.2
 | x :: r, _, _, h, i + 1, e, he => MemE.low h.2.2.2 i e (by simpa using he)
section
variable {w0 W W' : World} {E : List Ent}
theorem Mem.nil (w0 : World) : Mem w0 [] w0 := ⟨Nat.le_refl _, Below.refl _ _⟩
theorem Mem.bel (h : Mem w0 E W) : Below w0.heap.size w0 W := h.2
theorem Mem.size (h : Mem w0 E W) : w0.heap.size ≤ W.heap.size := h.2.size
theorem Mem.get (h : Mem w0 E W) (i : Nat) {e : Ent} (he : E[i]? = some e) : e.P W := h.1.get i e he
theorem Mem.blk (h : Mem w0 E W) (i : Nat) {g : Nat} {t : TypeId} {cs : List Value} (he : E[i]? = some (blkE g t cs)) : Blk W g t cs := h.1.get i _ he
theorem Mem.rd (h : Mem w0 E W) (i : Nat) {lo hi : Nat} {A : Option Addr} {n : Nat} {l : List UInt8} (he : E[i]? = some (rdE lo hi A n l)) : Rd W W.heap.size A n l :=
 (RdIn.rd (h.1.get i _ he)).mono (MemE.put.MemE.under h.1 i _ he)
theorem Mem.erase (h : Mem w0 E W) (i : Nat) : Mem w0 (E.eraseIdx i) W := ⟨h.1.erase i, h.2⟩
theorem Mem.below (h : Mem w0 E W) (hb : Below W.heap.size W W') : Mem w0 E W' := ⟨h.1.keep hb.size (fun k _ hk => hb.block k hk), h.2.trans (hb.mono h.2.size)⟩
theorem Mem.drew (h : Mem w0 E W) : Mem w0 E W.drew := h.below ((Below.refl _ _).drew)
theorem Mem.alloc (h : Mem w0 E W) {g : Nat} (hg : g = W.heap.size) (t : TypeId) (arr : Array Value) (cs : List Value) (ha : arr = cs.toArray) : Mem w0 (blkE g t cs :: E) (W.alloc (.cells arr t)) := by
 subst hg ha
 have hb : Below W.heap.size W (W.alloc (.cells cs.toArray t)) := (Below.refl _ _).alloc (Nat.le_refl _) _
 refine ⟨⟨?_, Nat.le_succ _, Blk.new W t cs, h.1.keep (Nat.le_refl _) (fun k _ hk => hb.block k hk)⟩, h.2.trans (hb.mono h.2.size)⟩
 show W.heap.size + 1 ≤ _
 simp
/-- what a call returns -/
theorem Mem.call (h : Mem w0 E W) (hb : Below W.heap.size W W') (e : Ent) (hl : e.lo = W.heap.size) (hh : e.hi = W'.heap.size) (hp : e.P W') : Mem w0 (e :: E) W' :=
 ⟨⟨by rw [hh]; exact Nat.le_refl _, by rw [hl, hh]; exact hb.size, hp, by rw [hl]; exact h.1.keep (Nat.le_refl _) (fun k _ hk => hb.block k hk)⟩, h.2.trans (hb.mono h.2.size)⟩
theorem Mem.callRd (h : Mem w0 E W) (hb : Below W.heap.size W W') {A : Option Addr} {n c : Nat} {l : List UInt8} (ho : W'.ownsRow W.heap.size 5 1 (.slice A n c) n (l.map u8v)) : Mem w0 (rdE W.heap.size W'.heap.size A n l :: E) W' :=
 h.call hb _ rfl rfl (by
  have hr := Rd.of_own ho
  refine ⟨hr.1, fun hn => ?_⟩
  obtain ⟨b, off, e, h1, hc⟩ := hr.2 hn
  subst e
  exact ⟨b, off, rfl, (ho.lt b rfl).1, h1, hc⟩)
/-- a store into one block of the list -/
theorem Mem.put (h : Mem w0 E W) (i : Nat) {g : Nat} {t : TypeId} {cs : List Value} (he : E[i]? = some (blkE g t cs)) (cs' : List Value) (hg : W.grownBy W' (some g)) (hb : Blk W' g t cs') : Mem w0 (E.set i (blkE g t cs')) W' := by
 have hsz := hg.size
 refine ⟨(MemE.put h.1 i _ (blkE g t cs') he rfl rfl (fun k hk hne => hg.block k hk (fun e => hne ?_)) hb).keep hg.size (fun _ _ _ => rfl), ?_⟩
 ·
  injection e with e
  subst e
  exact ⟨Nat.le_refl _, Nat.lt_succ_self _⟩
 · exact Below.grown h.2 hg h.2.size (fun k hk => by injection hk with hk; subst hk; exact MemE.low h.1 i _ he)
theorem Mem.setCell (h : Mem w0 E W) (i : Nat) {g : Nat} {t : TypeId} {cs : List Value} (he : E[i]? = some (blkE g t cs)) (j : Nat) (u : Value) : Mem w0 (E.set i (blkE g t (cs.set j u))) (W.setCell ⟨g, j, none⟩ u) := by
 have hw : W.heap.size ≤ (W.setCell ⟨g, j, none⟩ u).heap.size := by simp [World.setCell]
 refine ⟨(MemE.put h.1 i _ (blkE g t (cs.set j u)) he rfl rfl (fun k hk hne => Below.heap_setCell _ _ _ _ (fun e => hne ?_)) ((h.blk i he).set_ j u)).keep hw (fun _ _ _ => rfl), ?_⟩
 ·
  dsimp only at e
  subst e
  exact ⟨Nat.le_refl _, Nat.lt_succ_self _⟩
 · exact h.2.setCell (MemE.low h.1 i _ he) _
/-- an argument's bytes, later -/
theorem Mem.arg (h : Mem w0 E W) {A : Option Addr} {n : Nat} {l : List UInt8} (hr : Rd w0 w0.heap.size A n l) : Rd W W.heap.size A n l := (hr.below h.2).mono h.2.size
end
theorem results_blk2 {P : Program} {fn : Func} {p q : Tmp} {ty ty' : TypeId} (h : fn.results = #[.cell p ty, .cell q ty']) (tmps : Array Value) (w : World) (g : Nat) (t : TypeId) (cs : List Value) (n : Nat) (e : TypeId)
 (hp : tmps.getD p undef = .pointer (some ⟨g, 0, none⟩)) (hg : Blk w g t cs) (hu : P.underlying ty = some (.array n e)) (hi : (P.info? ty).map (·.size) = some cs.length)
 (g' : Nat) (t' : TypeId) (cs' : List Value) (n' : Nat) (e' : TypeId)
 (hp2 : tmps.getD q undef = .pointer (some ⟨g', 0, none⟩)) (hg2 : Blk w g' t' cs') (hu2 : P.underlying ty' = some (.array n' e')) (hi2 : (P.info? ty').map (·.size) = some cs'.length) :
 (results fn tmps).run P w = .ok (.tuple #[.agg cs.toArray, .agg cs'.toArray]) w := by
 have hp' : tmps[p]?.getD undef = .pointer (some ⟨g, 0, none⟩) := by simpa using hp
 have hq' : tmps[q]?.getD undef = .pointer (some ⟨g', 0, none⟩) := by simpa using hp2
 simp [results, h, hp', hq', asAddr, run_loadVar_row w g t ty cs.toArray (0, 0) _ hg hu rfl (by simpa using hi), run_loadVar_row w g' t' ty' cs'.toArray (0, 0) _ hg2 hu2 rfl (by simpa using hi2)]
/-- the entries lie below B, whatever lies above it -/
def MemB (w0 : World) (B : Nat) (E : List Ent) (W : World) : Prop := MemE w0.heap.size E B W ∧ Below w0.heap.size w0 W ∧ B ≤ W.heap.size
section
variable {w0 W W' : World} {B : Nat} {E : List Ent}
theorem Mem.fix (h : Mem w0 E W) : MemB w0 W.heap.size E W := ⟨h.1, h.2, Nat.le_refl _⟩
theorem MemB.mem (h : MemB w0 B E W) : Mem w0 E W := ⟨h.1.keep h.2.2 (fun _ _ _ => rfl), h.2.1⟩
theorem MemB.below (h : MemB w0 B E W) (hb : Below B W W') : MemB w0 B E W' := ⟨h.1.keep (Nat.le_refl _) (fun k _ hk => hb.block k hk), h.2.1.trans (hb.mono h.1.base), Nat.le_trans h.2.2 hb.size⟩
/-- behind an append to a row that lies above -/
theorem MemB.grown (h : MemB w0 B E W) {v : Value} {e n : Nat} {xs : List Value} (ho : W.ownsRow B e 1 v n xs) (hg : W.grownBy W' v.ownBlock) : MemB w0 B E W' := h.below ((Below.refl _ _).grown hg h.2.2 (own_from ho))
/-- the row that lies above becomes an entry -/
theorem MemB.row (h : MemB w0 B E W) {A : Option Addr} {n c : Nat} {l : List UInt8} (ho : W.ownsRow B 5 1 (.slice A n c) n (l.map u8v)) : Mem w0 (rdE B W.heap.size A n l :: E) W :=
 ⟨⟨Nat.le_refl _, h.2.2, by
  have hr := Rd.of_own ho
  refine ⟨hr.1, fun hn => ?_⟩
  obtain ⟨b, off, e, h1, hc⟩ := hr.2 hn
  subst e
  exact ⟨b, off, rfl, (ho.lt b rfl).1, h1, hc⟩, h.1⟩, h.2.1⟩
theorem MemB.arg (h : MemB w0 B E W) {A : Option Addr} {n : Nat} {l : List UInt8} (hr : Rd w0 w0.heap.size A n l) : Rd W W.heap.size A n l := (hr.below h.2.1).mono h.2.1.size
end
def u32v (x : UInt32) : Value := .int .u32 (x.toNat : Int)
/-- a block of words, the one at i as it is read there -/
theorem Blk.word {w : World} {g : Nat} {t : TypeId} {l : List UInt32} (h : Blk w g t (l.map u32v)) (i : Nat) (hi : i < l.length) : w.cell? ⟨g, i, none⟩ = some (.int .u32 ((wd l i).toNat : Int)) := by
 rw [h.cell i]
 simp [u32v, hi, wd, List.getD]
theorem Blk.drewN {w : World} {g : Nat} {t : TypeId} {cs : List Value} (h : Blk w g t cs) (n : Nat) : Blk (w.drewN n) g t cs := h
theorem Blk.setWord {w : World} {g : Nat} {t : TypeId} {l : List UInt32} (h : Blk w g t (l.map u32v)) (i : Nat) (x : UInt32) : Blk (w.setCell ⟨g, i, none⟩ (.int .u32 (x.toNat : Int))) g t ((l.set i x).map u32v) := by
 have h' := h.set_ i (.int .u32 (x.toNat : Int))
 rw [List.map_set]
 exact h'
def aeZ (n : Nat) : List Value := List.replicate n (.int .u8 0)
theorem aeZ16 : (aeZ 16).toArray = zb16 := rfl
theorem aeZ32 : (aeZ 32).toArray = zb32 := rfl
theorem own_addr {w : World} {base e n : Nat} {A : Option Addr} {c : Nat} {xs : List Value} (h : w.ownsRow base e 1 (.slice A n c) n xs) : n ≤ c ∧ c ≤ maxLen ∧ (0 < n → ∃ g, A = some ⟨g, 0, none⟩) := by
 rcases h.2 with ⟨hv, h0⟩ | ⟨g, cap, cur, hv, _, _, hnc, hcm, _⟩
 ·
  simp only [Value.slice.injEq] at hv
  exact ⟨by omega, by rw [hv.2.2]; exact Nat.zero_le _, fun h => by omega⟩
 ·
  simp only [Value.slice.injEq] at hv
  exact ⟨by rw [hv.2.2]; exact hnc, by rw [hv.2.2]; exact hcm, fun _ => ⟨g, hv.1⟩⟩
theorem blk_all {w : World} {g m : Nat} {t : TypeId} {l : List UInt8} (h : Blk w g t (l.map u8v)) (hl : l.length = m) : Rd w w.heap.size (some ⟨g, 0, none⟩) m l := by
 have h2 := (h.rd 0 m (by omega)).mono h.lt
 rwa [List.drop_zero, List.take_of_length_le (by omega)] at h2
/-- l with xs in the place of what stands behind off -/
def putL {α : Type} (l : List α) (off : Nat) (xs : List α) : List α := l.take off ++ xs ++ l.drop (off + xs.length)
theorem putL_length {α : Type} (l : List α) (off : Nat) (xs : List α) (h : off + xs.length ≤ l.length) : (putL l off xs).length = l.length := by
 simp only [putL, List.length_append, List.length_take, List.length_drop]; omega
theorem putL_map {α β : Type} (f : α → β) (l : List α) (off : Nat) (xs : List α) : (l.map f).take off ++ xs.map f ++ (l.map f).drop (off + (xs.map f).length) = (putL l off xs).map f := by
 simp only [putL, List.map_append, List.map_take, List.map_drop, List.length_map]
/-- words that are zero -/
def zw (n : Nat) : List Value := List.replicate n (.int .u32 0)
theorem u32v_one (l : List UInt32) : ∀ v ∈ l.map u32v, v.oneCell' = true := by
 intro v hv
 obtain ⟨b, _, rfl⟩ := List.mem_map.1 hv
 rfl
theorem wordL_toNat (l : List UInt8) (i : Nat) : (wordL l i).toNat = numL ((l.drop (4 * i)).take 4) := by
 unfold wordL
 rw [UInt32.toNat_ofNat']
 refine Nat.mod_eq_of_lt ?_
 exact numL_take_lt (l.drop (4 * i)) 4
theorem word_wrap (l : List UInt8) (i : Nat) : ((numL (((l.drop (4 * i)).take 4).take 8) : Nat) : Int) % 4294967296 = ((wordL l i).toNat : Int) := by
 have h := wordL_toNat l i
 have h2 := (wordL l i).toNat_lt
 rw [List.take_take, show min 8 4 = 4 from rfl, ← h]
 omega
/-- the first j places from off on are set to what f gives -/
def fillW (l : List UInt32) (off : Nat) (f : Nat → UInt32) : Nat → List UInt32
 | 0 => l
 | j + 1 => (fillW l off f j).set (off + j) (f j)
theorem fillW_length (l : List UInt32) (off : Nat) (f : Nat → UInt32) : ∀ j, (fillW l off f j).length = l.length
 | 0 => rfl
 | j + 1 => by rw [fillW, List.length_set, fillW_length l off f j]
theorem grown_set {w w' : World} {g : Nat} (h : w.grownBy w' (some g)) (i : Nat) (u : Value) : w.grownBy (w'.setCell ⟨g, i, none⟩ u) (some g) :=
 ⟨h.os, h.tape, h.output, by simpa [World.setCell] using h.size, fun k hk hne => by
  have := h.block k hk hne
  rw [Below.heap_setCell w' ⟨g, i, none⟩ u k (fun e => hne (by simp [e]))]
  exact this⟩
/-- a slice's length -/
def lenS : Value → Nat
 | .slice _ n _ => n
 | _ => 0
theorem rd_new (w : World) (t : TypeId) (l : List UInt8) : Rd (w.alloc (.cells (l.map u8v).toArray t)) (w.heap.size + 1) (some ⟨w.heap.size, 0, none⟩) l.length l := by
 have h := (Blk.new w t (l.map u8v)).rd 0 l.length (by omega)
 rwa [List.drop_zero, List.take_length] at h
/-- one part of a join: a slice and what it reads as -/
structure Part where
 A : Option Addr
 n : Nat
 c : Nat
 l : List UInt8
def flat (ps : List Part) (j : Nat) : List UInt8 := ((ps.take j).map Part.l).flatten
theorem flat_succ (ps : List Part) (j : Nat) (h : j < ps.length) : flat ps (j + 1) = flat ps j ++ ps[j].l := by
 unfold flat
 rw [List.take_succ_eq_append_getElem h, List.map_append, List.flatten_append]
 simp only [List.map_cons, List.map_nil, List.flatten_cons, List.flatten_nil, List.append_nil]
theorem flat_le (ps : List Part) (j : Nat) : (flat ps j).length ≤ (flat ps ps.length).length := by
 unfold flat
 rw [List.take_of_length_le (Nat.le_refl _), ← List.take_append_drop j (ps.map Part.l), List.flatten_append, List.length_append, ← List.map_take]
 omega
/-- the slice of slices reads as the parts -/
def PartsRd (w : World) (B : Nat) (A : Option Addr) (ps : List Part) : Prop :=
 0 < ps.length → ∃ g, A = some ⟨g, 0, none⟩ ∧ g < B ∧ ∀ j (h : j < ps.length), w.cell? ⟨g, j, none⟩ = some (.slice ps[j].A ps[j].n ps[j].c) ∧ Rd w B ps[j].A ps[j].n ps[j].l
def sumB (size : Int) (key data : List UInt8) : List UInt8 × Nat := if size < 1 ∨ 32 < size ∨ 32 < key.length then ([], 1) else (hashB size.toNat key data, 0)
def codeB (key data : List UInt8) : List UInt8 := if 32 < key.length then List.replicate 16 0 else hashB 16 key data
theorem flat_words : ∀ ws : List UInt32, (ws.flatMap fun x => littleL x.toNat 4).length = 4 * ws.length
 | [] => rfl
 | x :: ws => by rw [List.flatMap_cons, List.length_append, littleL_length, flat_words ws, List.length_cons]; omega
theorem hashB_length (size : Nat) (key data : List UInt8) (h : size ≤ 32) : (hashB size key data).length = size := by
 unfold hashB
 rw [List.length_take, flat_words, statesB_length _ _ _ _ (firstB_length _ _)]
 omega
theorem codeB_length (key data : List UInt8) : (codeB key data).length = 16 := by
 unfold codeB
 split
 · simp
 · exact hashB_length 16 key data (by omega)
/-- parts as a call is given them -/
def PartsOk (ps : List Part) : Prop := ps.length ≤ 100 ∧ (flat ps ps.length).length ≤ 100000 ∧ ∀ p ∈ ps, p.n ≤ p.c ∧ p.c ≤ maxLen
theorem parts_blk {W : World} {g : Nat} {t : TypeId} (ps : List Part) (hb : Blk W g t (ps.map fun p => .slice p.A p.n p.c)) (h : ∀ p ∈ ps, Rd W W.heap.size p.A p.n p.l) : PartsRd W W.heap.size (some ⟨g, 0, none⟩) ps :=
 fun _ => ⟨g, rfl, hb.lt, fun j hj => ⟨by rw [hb.cell]; simp [hj], h _ (List.getElem_mem hj)⟩⟩
/-- the package-level variables of blake, as the program's text lays them -/
def permV : List Value := ordT.flatMap fun r => r.map fun i : Nat => .int .u8 (i : Int)
def LvBlake (w : World) : Prop := (∃ t, Blk w 0 t (ivW.map u32v)) ∧ ∃ t, Blk w 1 t permV
theorem LvBlake.below {w w' : World} (h : LvBlake w) (hb : Below w.heap.size w w') : LvBlake w' := by
 obtain ⟨⟨t, h1⟩, u, h2⟩ := h
 exact ⟨⟨t, h1.below hb h1.lt⟩, u, h2.below hb h2.lt⟩
def BlSumC : Prop := ∀ (size : Int), -9223372036854775808 ≤ size → size ≤ 9223372036854775807 → ∀ (Ak Ad : Option Addr) (nk ck nd cd : Nat) (key data : List UInt8), nk ≤ ck → ck ≤ maxLen → nd ≤ cd → cd ≤ maxLen → nk ≤ 1000 → nd ≤ 100000 → ∀ w : World, LvBlake w → Rd w w.heap.size Ak nk key → Rd w w.heap.size Ad nd data →
 Calls Tryz.prog 54 #[.int .i64 size, .slice Ak nk ck, .slice Ad nd cd] w fun e w' => ∃ A c', e = .returned (.tuple #[.slice A (sumB size key data).1.length c', .int .i64 ((sumB size key data).2 : Int)]) ∧ RdIn w.heap.size w'.heap.size A (sumB size key data).1.length (sumB size key data).1 w' ∧ (sumB size key data).1.length ≤ c' ∧ c' ≤ maxLen ∧ Below w.heap.size w w'
def BlHashC : Prop := ∀ (c : Nat) (A : Option Addr) (ps : List Part), PartsOk ps → ps.length ≤ c → c ≤ maxLen → ∀ w : World, LvBlake w → PartsRd w w.heap.size A ps →
 Calls Tryz.prog 29 #[.slice A ps.length c] w fun e w' => e = .returned (.agg ((hashB 32 [] (flat ps ps.length)).map u8v).toArray) ∧ Below w.heap.size w w'
set_option maxRecDepth 100000 in
theorem laid_initial_is : (Rows.laid_burrow_blake_initial : DataW Unit) = .agg ((ivW.map fun x => (x.toNat : Int)).map fun z => .lit (.int .u32 z)) := by kernel_rfl
set_option maxRecDepth 100000 in
theorem laid_perm_is : (Rows.laid_burrow_blake_permutations : DataW Unit) = .agg (ordT.map fun r => .agg ((r.map fun i : Nat => (i : Int)).map fun z => .lit (.int .u8 z))) := by kernel_rfl
theorem lvBlake_of {W : World} {l : List (String × DataW Unit)} (h : laidMetH Tryz.prog l W) (h1 : ("burrow/blake.initial", Rows.laid_burrow_blake_initial) ∈ l) (h2 : ("burrow/blake.permutations", Rows.laid_burrow_blake_permutations) ∈ l) : LvBlake W := by
 constructor
 ·
  obtain ⟨cs, fuel, p, hd, hb⟩ := laid_blk h h1 (by kernel_rfl) (show Tryz.prog.globalNamed "burrow/blake.initial" = some 0 by kernel_rfl) (show (Tryz.prog.globals[0]?).map (·.type) = some 100 by kernel_rfl)
  rw [laid_initial_is] at hd
  have e := laid_ints Tryz.underlying100 Tryz.underlying28 (by kernel_rfl) (by kernel_rfl) hd
  subst e
  rw [List.map_map] at hb
  exact hb (by decide)
 ·
  obtain ⟨cs, fuel, p, hd, hb⟩ := laid_blk h h2 (by kernel_rfl) (show Tryz.prog.globalNamed "burrow/blake.permutations" = some 1 by kernel_rfl) (show (Tryz.prog.globals[1]?).map (·.type) = some 133 by kernel_rfl)
  rw [laid_perm_is] at hd
  have e := laid_rows (m := 16) Tryz.underlying133 (by kernel_rfl) (by kernel_rfl) hd (ordT.map fun r => r.map fun i : Nat => .int .u8 (i : Int)) rfl (by
   intro i c d fuel q hdi ht
   rw [List.getElem?_map] at hdi
   cases hr : ordT[i]? with
   | none => rw [hr] at hdi; cases hdi
   | some r =>
    rw [hr, Option.map_some, Option.some.injEq] at hdi
    subst hdi
    rw [laid_ints Tryz.underlying26 Tryz.underlying5 (by kernel_rfl) (by kernel_rfl) ht, List.getElem?_map, hr, List.map_map]
    rfl)
  rw [show (ordT.map fun r => r.map fun i : Nat => Value.int .u8 (i : Int)).flatten = permV from rfl] at e
  subst e
  exact hb (Nat.lt_of_lt_of_eq (show 0 < 160 by decide) (show 160 = permV.length by kernel_rfl))
/-- a message of a fixed size: its numbers, and the bytes of the fields behind them -/
structure MsgM where
 nums : List Nat
 bs : List UInt8
def u32c (n : Nat) : Value := .int .u32 (n : Int)
def MsgM.cells (m : MsgM) : List Value := m.nums.map u32c ++ m.bs.map u8v
/-- how many numbers, and how many bytes -/
def msN (k : Nat) : Nat := if k = 2 then 2 else 1
def msB (k : Nat) : Nat := if k = 1 then 140 else if k = 2 then 80 else 56
def msLen (k : Nat) : Nat := 4 + 4 * msN k + msB k
def MsgM.ok (k : Nat) (m : MsgM) : Prop := m.nums.length = msN k ∧ m.bs.length = msB k ∧ ∀ v ∈ m.nums, v < 4294967296
theorem MsgM.cells_length {k : Nat} {m : MsgM} (h : m.ok k) : m.cells.length = msN k + msB k := by
 rw [MsgM.cells, List.length_append, List.length_map, List.length_map, h.1, h.2.1]
theorem MsgM.one (m : MsgM) : ∀ v ∈ m.cells, v.oneCell' = true := by
 intro v hv
 rcases List.mem_append.1 hv with h | h
 · obtain ⟨_, _, rfl⟩ := List.mem_map.1 h; rfl
 · obtain ⟨_, _, rfl⟩ := List.mem_map.1 h; rfl
def msg0 (k : Nat) : MsgM := ⟨List.replicate (msN k) 0, List.replicate (msB k) 0⟩
theorem msg0_ok (k : Nat) : (msg0 k).ok k := ⟨by simp [msg0], by simp [msg0], fun v hv => by rw [List.eq_of_mem_replicate hv]; omega⟩
/-- the bytes of numbers, four each -/
def numsB (l : List Nat) : List UInt8 := l.flatMap fun n => littleL n 4
theorem numsB_length (l : List Nat) : (numsB l).length = 4 * l.length := by
 induction l with
 | nil => rfl
 | cons a l ih => rw [numsB, List.flatMap_cons, List.length_append, littleL_length, List.length_cons]; rw [numsB] at ih; omega
def msHead (k : Nat) : List UInt8 := [UInt8.ofNat k, 0, 0, 0]
/-- the bytes of a message -/
def encB (k : Nat) (m : MsgM) : List UInt8 := msHead k ++ numsB m.nums ++ m.bs
theorem encB_length {k : Nat} {m : MsgM} (h : m.ok k) : (encB k m).length = msLen k := by
 rw [encB, List.length_append, List.length_append, numsB_length, h.1, h.2.1]; rfl
/-- the kind that bytes have -/
def kindB (l : List UInt8) : Nat :=
 if l.length < 4 then 0 else if l.getD 1 0 ≠ 0 ∨ l.getD 2 0 ≠ 0 ∨ l.getD 3 0 ≠ 0 then 0 else
 let k := (l.getD 0 0).toNat
 if (k = 1 ∧ l.length = 148) ∨ (k = 2 ∧ l.length = 92) ∨ (k = 3 ∧ l.length = 64) ∨ (k = 4 ∧ 32 ≤ l.length ∧ l.length ≤ 2100) then k else 0
theorem kindB_some {l : List UInt8} (h4 : ¬ l.length < 4) (h1 : l.getD 1 0 = 0) (h2 : l.getD 2 0 = 0) (h3 : l.getD 3 0 = 0) :
 kindB l = if ((l.getD 0 0).toNat = 1 ∧ l.length = 148) ∨ ((l.getD 0 0).toNat = 2 ∧ l.length = 92) ∨ ((l.getD 0 0).toNat = 3 ∧ l.length = 64) ∨ ((l.getD 0 0).toNat = 4 ∧ 32 ≤ l.length ∧ l.length ≤ 2100) then (l.getD 0 0).toNat else 0 := by
 rw [kindB, if_neg h4, if_neg (fun h => by rcases h with h | h | h; exact h h1; exact h h2; exact h h3)]
/-- bytes of a kind have its length -/
theorem kindB_len {l : List UInt8} {k : Nat} (hk : 1 ≤ k ∧ k ≤ 3) (h : kindB l = k) : l.length = msLen k := by
 unfold kindB at h
 split at h
 · omega
 ·
  split at h
  · omega
  ·
   dsimp only at h
   split at h
   ·
    next hc =>
    generalize (l.getD 0 0).toNat = x at *
    subst h
    rcases hc with ⟨rfl, hl⟩ | ⟨rfl, hl⟩ | ⟨rfl, hl⟩ | ⟨rfl, _⟩
    · rw [hl]; rfl
    · rw [hl]; rfl
    · rw [hl]; rfl
    · omega
   · omega
/-- the message of bytes -/
def msOf (k : Nat) (l : List UInt8) : MsgM := ⟨(List.range (msN k)).map fun i => numL ((l.drop (4 + 4 * i)).take 4), l.drop (4 + 4 * msN k)⟩
def decB (k : Nat) (l : List UInt8) : MsgM × Nat := if kindB l = k then (msOf k l, 0) else (msg0 k, 4)
theorem msOf_ok {k : Nat} {l : List UInt8} (h : l.length = msLen k) : (msOf k l).ok k := by
 refine ⟨by simp [msOf], ?_, fun v hv => ?_⟩
 ·
  show (l.drop _).length = _
  rw [List.length_drop, h]; unfold msLen; omega
 ·
  obtain ⟨i, _, rfl⟩ := List.mem_map.1 hv
  have h1 := numL_lt ((l.drop (4 + 4 * i)).take 4)
  have h2 : ((l.drop (4 + 4 * i)).take 4).length ≤ 4 := by rw [List.length_take]; omega
  exact Nat.lt_of_lt_of_le h1 (Nat.pow_le_pow_right (by omega) h2)
theorem decB_ok {k : Nat} (hk : 1 ≤ k ∧ k ≤ 3) (l : List UInt8) : (decB k l).1.ok k ∧ (decB k l).2 ≤ 4 := by
 unfold decB
 split
 · next h => exact ⟨msOf_ok (kindB_len hk h), by simp⟩
 · exact ⟨msg0_ok k, by simp⟩
/-! what was encoded is decoded again -/
theorem encB_kind {k : Nat} (hk : 1 ≤ k ∧ k ≤ 3) {m : MsgM} (h : m.ok k) : kindB (encB k m) = k := by
 have hl := encB_length h
 have e0 : (encB k m).getD 0 0 = UInt8.ofNat k := rfl
 have e1 : (encB k m).getD 1 0 = 0 := rfl
 have e2 : (encB k m).getD 2 0 = 0 := rfl
 have e3 : (encB k m).getD 3 0 = 0 := rfl
 have h4 : ¬ (encB k m).length < 4 := by rw [hl]; unfold msLen; omega
 rw [kindB_some h4 e1 e2 e3, e0, hl]
 match k, hk with
 | 1, _ => rfl
 | 2, _ => rfl
 | 3, _ => rfl
structure TranM where
 r : Nat
 c : Nat
 body : List UInt8
/-- an address: of version 6 or not, and its sixteen bytes -/
structure AddrM where
 six : Bool
 ip : List UInt8
def AddrM.ok (a : AddrM) : Prop := a.ip.length = 16
def AddrM.cells (a : AddrM) : List Value := .bool a.six :: a.ip.map u8v
theorem AddrM.cells_length {a : AddrM} (h : a.ok) : a.cells.length = 17 := by
 rw [AddrM.cells, List.length_cons, List.length_map, h]
/-- what a packet shows -/
structure InfoM where
 source : AddrM
 dest : AddrM
 len : Nat
def InfoM.ok (i : InfoM) : Prop := i.source.ok ∧ i.dest.ok ∧ i.len ≤ 1000000
def InfoM.cells (i : InfoM) : List Value := i.source.cells ++ (i.dest.cells ++ [.int .i64 (i.len : Int)])
theorem InfoM.cells_length {i : InfoM} (h : i.ok) : i.cells.length = 35 := by
 rw [InfoM.cells, List.length_append, List.length_append, AddrM.cells_length h.1, AddrM.cells_length h.2.1]; rfl
def macK : List UInt8 := [109, 97, 99, 49, 45, 45, 45, 45]
def cookK : List UInt8 := [99, 111, 111, 107, 105, 101, 45, 45]
/-- the first code of a part of a message -/
def mac1B (p part : List UInt8) : List UInt8 := codeB (hashB 32 [] (macK ++ p)) part
theorem mac1B_length (p part : List UInt8) : (mac1B p part).length = 16 := codeB_length _ _
/-- the key under which cookies are sent -/
def hideB (p : List UInt8) : List UInt8 := hashB 32 [] (cookK ++ p)
theorem hideB_length (p : List UInt8) : (hideB p).length = 32 := hashB_length 32 _ _ (by omega)
def codedB (b : List UInt8) : Bool := kindB b == 1 || kindB b == 2
def check1B (p b : List UInt8) : Bool := codedB b && mac1B p (b.take (b.length - 32)) == (b.drop (b.length - 32)).take 16
theorem codedB_len {b : List UInt8} (h : codedB b = true) : b.length = 148 ∨ b.length = 92 := by
 rcases Bool.or_eq_true _ _ ▸ h with h | h
 · exact .inl (kindB_len (k := 1) (by omega) (beq_iff_eq.1 h))
 · exact .inr (kindB_len (k := 2) (by omega) (beq_iff_eq.1 h))
/-- the first code of a message, the second one, and the message with them -/
def macM (p : List UInt8) (k : Nat) (m : MsgM) : List UInt8 := mac1B p ((encB k m).take (msLen k - 32))
def mac2M (p : List UInt8) (has : Bool) (ck : List UInt8) (k : Nat) (m : MsgM) : List UInt8 := if has then codeB ck ((encB k m).take (msLen k - 32) ++ macM p k m) else List.replicate 16 0
def sealM (p : List UInt8) (has : Bool) (ck : List UInt8) (k : Nat) (m : MsgM) : MsgM := ⟨m.nums, m.bs.take (msB k - 32) ++ (macM p k m ++ mac2M p has ck k m)⟩
theorem macM_length (p : List UInt8) (k : Nat) (m : MsgM) : (macM p k m).length = 16 := mac1B_length _ _
theorem mac2M_length (p : List UInt8) (has : Bool) (ck : List UInt8) (k : Nat) (m : MsgM) : (mac2M p has ck k m).length = 16 := by
 unfold mac2M
 split
 · exact codeB_length _ _
 · exact List.length_replicate
theorem two_big {k : Nat} (hk : k = 1 ∨ k = 2) : 32 ≤ msB k := by rcases hk with rfl | rfl <;> decide
theorem sealM_ok {k : Nat} (hk : k = 1 ∨ k = 2) (p : List UInt8) (has : Bool) (ck : List UInt8) {m : MsgM} (h : m.ok k) : (sealM p has ck k m).ok k := by
 refine ⟨h.1, ?_, h.2.2⟩
 have := two_big hk
 simp only [sealM, List.length_append, macM_length, mac2M_length, List.length_take, h.2.1]
 omega
theorem enc_take {k : Nat} (hk : k = 1 ∨ k = 2) {m : MsgM} (h : m.ok k) : (encB k m).take (msLen k - 32) = msHead k ++ numsB m.nums ++ m.bs.take (msB k - 32) := by
 have h2 := two_big hk
 have hn : (msHead k ++ numsB m.nums).length = 4 + 4 * msN k := by rw [List.length_append, numsB_length, h.1]; rfl
 rw [encB, List.take_append, hn, List.take_of_length_le (by rw [hn]; unfold msLen; omega)]
 congr 2
 unfold msLen
 omega
/-- the bytes of a sealed message: those ahead of the codes, the codes -/
theorem seal_parts {k : Nat} (hk : k = 1 ∨ k = 2) (p : List UInt8) (has : Bool) (ck : List UInt8) {m : MsgM} (h : m.ok k) : encB k (sealM p has ck k m) = (encB k m).take (msLen k - 32) ++ (macM p k m ++ mac2M p has ck k m) := by
 rw [enc_take hk h]
 simp only [encB, sealM, List.append_assoc]
theorem two_len {k : Nat} (hk : k = 1 ∨ k = 2) : 32 ≤ msLen k := by rcases hk with rfl | rfl <;> decide
theorem pre_length {k : Nat} {m : MsgM} (h : m.ok k) : ((encB k m).take (msLen k - 32)).length = msLen k - 32 := by
 rw [List.length_take, encB_length h]; omega
theorem seal_coded {k : Nat} (hk : k = 1 ∨ k = 2) (p : List UInt8) (has : Bool) (ck : List UInt8) {m : MsgM} (h : m.ok k) : codedB (encB k (sealM p has ck k m)) = true := by
 unfold codedB
 rw [encB_kind (by omega) (sealM_ok hk p has ck h)]
 rcases hk with rfl | rfl <;> rfl
theorem seal_check1 {k : Nat} (hk : k = 1 ∨ k = 2) (p : List UInt8) (has : Bool) (ck : List UInt8) {m : MsgM} (h : m.ok k) : check1B p (encB k (sealM p has ck k m)) = true := by
 have hl := two_len hk
 have hpl := pre_length h
 unfold check1B
 rw [seal_coded hk p has ck h, encB_length (sealM_ok hk p has ck h), seal_parts hk p has ck h, List.take_left' hpl, List.drop_left' hpl, List.take_left' (macM_length p k m)]
 simp [macM]
def MsKindC (F : Nat) : Prop := ∀ (A : Option Addr) (n c : Nat) (l : List UInt8), n ≤ c → c ≤ maxLen → n ≤ 100000 → ∀ w : World, Rd w w.heap.size A n l →
 Calls Tryz.prog F #[.slice A n c] w fun e w' => e = .returned (.int .i64 (kindB l : Int)) ∧ Below w.heap.size w w'
def MsDecC (F k : Nat) : Prop := ∀ (A : Option Addr) (n c : Nat) (l : List UInt8), n ≤ c → c ≤ maxLen → n ≤ 100000 → ∀ w : World, Rd w w.heap.size A n l →
 Calls Tryz.prog F #[.slice A n c] w fun e w' => e = .returned (.tuple #[.agg (decB k l).1.cells.toArray, .int .i64 ((decB k l).2 : Int)]) ∧ Below w.heap.size w w'
end Go.Proofs.YtlddafkikkaonaaGreatDoor
