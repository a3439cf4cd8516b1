/-
  Facts of memory, each with the blocks that it speaks of, pairwise apart. No function of the program is named here. A quick look whether an operation is the one that is meant. The contract of strings.IndexByte off the library's shelf, at this translation's numbers. The contract of codec.Little: for a size from 1 to 8 it returns a new slice with the size lowest bytes of n, the least significant one first; for any other size nothing. The contract of slices.Reverse at a byte slice that the call's own memory holds: behind the call the slice reads as the reversed list; nothing else has changed. The contract of codec.Big: for a size from 1 to 8 it returns a new slice with the size lowest bytes of n, the most significant one first; for any other size nothing. The contracts of codec.readGroup (four characters of base64) and codec.ParseKey (the key of a text, or the error). The contract of the program's codec.ParseKey. The contract of config's collect. The first place of a list for which something holds. Equality of two objects decides whether their cells are equal. No function of the program is named here. Equality of keys. Equality of two structs, as an operation. An address is found equal to itself. Equality of addresses and prefixes by their cells. Equality of two structs under a guard, as an operation. Two objects are compared by == or !=, in a list of operations and in a drawn region. No function of the program is named here. What a walk keeps of what lies under the world's size, whoever made it: a list of facts that whatever is made above leaves alone. Words for a region that draws its order, in which several loads may come up at once, all ahead of what changes memory: such a load can be taken first, though its cell is written later. The contracts of slices.Index at keys and at prefixes. Parts of slices of keys and of prefixes. The contracts of slices.Contains and config's repeats at keys and at prefixes. What the package-level variables of the library hold that the functions of layer 13 come to. What is asked of the functions of layer 13 that read and write addresses, endpoints and prefixes, by a function's number. An endpoint and a prefix with a number of their own are found equal to themselves. No statement is proved here.
-/
import Derived.Shelf.Small.Strs
import Derived.Shelf.Strings.Search1
import Derived.Test.YtcbfchkhbngpkaaGreatDoorProg
import Derived.RegionTactic
import Derived.BigRegion
import Derived.ChangeAlike
import Derived.Outline
import Derived.Laws.BitsAllLaws
import Derived.BigQuiet
import Derived.Deep.QuietTactic
import Derived.Deep.RegionLaw
import Derived.Lib.SmallJoins
import Derived.Lib.Strings
import Derived.Deep.DeepCutAuto
import Derived.DeepKeys2
import Derived.Lib.LaidTab
import Derived.Lib.ItoaNum
import Derived.Test.YtcbfchkhbngpkaaGreatDoorConfigValidatesB2
namespace Go.Proofs.YtcbfchkhbngpkaaGreatDoor
open Go.RowKit

structure Dep where
  bs : List Nat
  P : World → Prop
  loc : ∀ W W' : World, (∀ k ∈ bs, W'.heap[k]? = W.heap[k]?) → P W → P W'
def depB (E : List Dep) : List Nat := E.flatMap fun e => e.bs
/-- all facts hold, their blocks lie above base and are apart -/
def HeapD (base : Nat) (E : List Dep) (W : World) : Prop := (∀ e ∈ E, e.P W) ∧ (∀ k ∈ depB E, base ≤ k ∧ k < W.heap.size) ∧ (depB E).Nodup
/-- a block -/
def blkD (g : Nat) (t : TypeId) (cs : List Value) : Dep := ⟨[g], fun W => Blk W g t cs, fun W W' h hp => by
  unfold Blk at *
  rw [h g (List.mem_singleton.2 rfl)]
  exact hp⟩
/-- a row of the call's own -/
def ownD (base : Nat) (e : TypeId) (size : Nat) (v : Value) (n : Nat) (xs : List Value) : Dep := ⟨v.ownBlock.toList, fun W => W.ownsRow base e size v n xs, fun _ _ h hp => own_kept hp fun k e => h k (by rw [e]; simp)⟩
def peersD (base : Nat) (Bs : List Nat) (v : Value) (ps : List PeerM) : Dep := ⟨Bs, fun W => PeersAt base W Bs v ps, fun _ _ h hp => hp.kept h⟩
theorem pull_perm {α : Type} : ∀ (E : List α) (i : Nat) (e : α), E[i]? = some e → E.Perm (e :: E.eraseIdx i)
  | [], i, e, h => by simp at h
  | x :: r, 0, e, h => by
    have : x = e := by simpa using h
    subst this
    exact List.Perm.refl _
  | x :: r, i + 1, e, h => by
    rw [List.eraseIdx_cons_succ]
    exact ((pull_perm r i e (by simpa using h)).cons x).trans (List.Perm.swap e x _)
section
variable {base : Nat} {E : List Dep} {W W' : World}
theorem HeapD.nil (base : Nat) (W : World) : HeapD base [] W := ⟨by simp, by simp [depB], by simp [depB]⟩
theorem HeapD.get (h : HeapD base E W) (i : Nat) {e : Dep} (he : E[i]? = some e) : e.P W := h.1 e (List.mem_of_getElem? he)
theorem HeapD.blk (h : HeapD base E W) (i : Nat) {g : Nat} {t : TypeId} {cs : List Value} (he : E[i]? = some (blkD g t cs)) : Blk W g t cs := h.get i he
theorem HeapD.own (h : HeapD base E W) (i : Nat) {b : Nat} {e : TypeId} {size n : Nat} {v : Value} {xs : List Value} (he : E[i]? = some (ownD b e size v n xs)) : W.ownsRow b e size v n xs := h.get i he
theorem HeapD.peers (h : HeapD base E W) (i : Nat) {b : Nat} {Bs : List Nat} {v : Value} {ps : List PeerM} (he : E[i]? = some (peersD b Bs v ps)) : PeersAt b W Bs v ps := h.get i he
theorem HeapD.at (h : HeapD base E W) (i : Nat) {e : Dep} (he : E[i]? = some e) {k : Nat} (hk : k ∈ e.bs) : base ≤ k ∧ k < W.heap.size := h.2.1 k (List.mem_flatMap.2 ⟨e, List.mem_of_getElem? he, hk⟩)
theorem HeapD.perm {E' : List Dep} (h : HeapD base E W) (hp : E.Perm E') : HeapD base E' W :=
  ⟨fun e he => h.1 e (hp.mem_iff.2 he), fun k hk => h.2.1 k ((hp.flatMap_right _).mem_iff.2 hk), (hp.flatMap_right _).nodup_iff.1 h.2.2⟩
/-- a fact comes to the front -/
theorem HeapD.pull (h : HeapD base E W) (i : Nat) {e : Dep} (he : E[i]? = some e) : HeapD base (e :: E.eraseIdx i) W := by
  exact h.perm (pull_perm E i e he)
theorem HeapD.below (h : HeapD base E W) (hb : Below W.heap.size W W') : HeapD base E W' :=
  ⟨fun e he => e.loc W W' (fun k hk => hb.block k (h.2.1 k (List.mem_flatMap.2 ⟨e, he, hk⟩)).2) (h.1 e he), fun k hk => ⟨(h.2.1 k hk).1, Nat.lt_of_lt_of_le (h.2.1 k hk).2 hb.size⟩, h.2.2⟩
/-- the facts of T are turned into those of T' -/
theorem HeapD.re {T F : List Dep} (h : HeapD base (T ++ F) W) (T' : List Dep) (hsz : W.heap.size ≤ W'.heap.size) (hbw : base ≤ W.heap.size) (hk : ∀ k, k < W.heap.size → k ∉ depB T → W'.heap[k]? = W.heap[k]?) (hP : ∀ e ∈ T', e.P W')
    (hb : ∀ k ∈ depB T', k ∈ depB T ∨ (W.heap.size ≤ k ∧ k < W'.heap.size)) (hn : (depB T').Nodup) : HeapD base (T' ++ F) W' := by
  obtain ⟨h1, h2, h3⟩ := h
  have e1 : depB (T ++ F) = depB T ++ depB F := List.flatMap_append
  have e2 : depB (T' ++ F) = depB T' ++ depB F := List.flatMap_append
  rw [e1] at h2 h3
  rw [List.nodup_append] at h3
  refine ⟨fun e he => ?_, fun k hk2 => ?_, ?_⟩
  · rcases List.mem_append.1 he with he | he
    · exact hP e he
    · refine e.loc W W' (fun k hke => hk k (h2 k (List.mem_append_right _ (List.mem_flatMap.2 ⟨e, he, hke⟩))).2 fun hkT => ?_) (h1 e (List.mem_append_right _ he))
      exact h3.2.2 k hkT k (List.mem_flatMap.2 ⟨e, he, hke⟩) rfl
  · rw [e2] at hk2
    rcases List.mem_append.1 hk2 with hk2 | hk2
    · rcases hb k hk2 with h | h
      · have := h2 k (List.mem_append_left _ h)
        exact ⟨this.1, Nat.lt_of_lt_of_le this.2 hsz⟩
      · exact ⟨Nat.le_trans hbw h.1, h.2⟩
    · have := h2 k (List.mem_append_right _ hk2)
      exact ⟨this.1, Nat.lt_of_lt_of_le this.2 hsz⟩
  · rw [e2, List.nodup_append]
    refine ⟨hn, h3.2.1, fun a ha b hb2 e => ?_⟩
    subst e
    rcases hb a ha with h | h
    · exact h3.2.2 a h a hb2 rfl
    · have := (h2 a (List.mem_append_right _ hb2)).2
      omega
/-- the first fact is a block that is written -/
theorem HeapD.put {F : List Dep} {g : Nat} {t : TypeId} {cs : List Value} (h : HeapD base (blkD g t cs :: F) W) (hbw : base ≤ W.heap.size) (hk : KeptBut W W' g) {cs' : List Value} (hb : Blk W' g t cs') : HeapD base (blkD g t cs' :: F) W' :=
  HeapD.re (T := [blkD g t cs]) (F := F) h [blkD g t cs'] hk.1 hbw (fun k h1 h2 => hk.2 k h1 (fun e => h2 (by simp [depB, blkD, e]))) (by intro e he; rw [List.mem_singleton] at he; subst he; exact hb) (fun k hk => .inl (by simpa [depB, blkD] using hk)) (by simp [depB, blkD])
theorem HeapD.set {F : List Dep} {g : Nat} {t : TypeId} {cs : List Value} (h : HeapD base (blkD g t cs :: F) W) (hbw : base ≤ W.heap.size) (j : Nat) (u : Value) : HeapD base (blkD g t (cs.set j u) :: F) (W.setCell ⟨g, j, none⟩ u) :=
  h.put hbw .of_set ((h.blk 0 rfl).set_ j u)
/-- the first fact is a row that grows -/
theorem HeapD.grow {F : List Dep} {e : TypeId} {size n m : Nat} {v v' : Value} {xs ys : List Value} (h : HeapD base (ownD base e size v n xs :: F) W) (hbw : base ≤ W.heap.size) (ho : W'.ownsRow base e size v' m ys) (hg : W.grownBy W' v.ownBlock) (hv : v'.ownBlock = v.ownBlock ∨ v'.ownBlock = some W.heap.size) : HeapD base (ownD base e size v' m ys :: F) W' :=
  HeapD.re (T := [ownD base e size v n xs]) (F := F) h [ownD base e size v' m ys] hg.size hbw (fun k h1 h2 => hg.block k h1 (fun e => h2 (by simp [depB, ownD, ← e]))) (by intro e he; rw [List.mem_singleton] at he; subst he; exact ho)
    (fun k hk => by
      have hk2 : v'.ownBlock = some k := by simpa [depB, ownD] using hk
      rcases hv with hv | hv
      · exact .inl (by simp [depB, ownD, ← hv, hk2])
      · rw [hv] at hk2
        injection hk2 with hk2
        have := (own_lt ho (by rw [hv, hk2] : v'.ownBlock = some k)).2
        exact .inr ⟨by omega, this⟩)
    (by simp only [depB, ownD, List.flatMap_cons, List.flatMap_nil, List.append_nil]; cases v'.ownBlock <;> simp)
/-- a new block -/
theorem HeapD.alloc (h : HeapD base E W) (hbw : base ≤ W.heap.size) (t : TypeId) (arr : Array Value) (cs : List Value) (ha : arr = cs.toArray) : HeapD base (blkD W.heap.size t cs :: E) (W.alloc (.cells arr t)) := by
  subst ha
  refine HeapD.re (T := []) (F := E) h [blkD W.heap.size t cs] (by simp) hbw (fun k h1 _ => ((Below.refl W.heap.size W).alloc (Nat.le_refl _) _).block k h1) (by intro e he; rw [List.mem_singleton] at he; subst he; exact Blk.new W t cs) (fun k hk => .inr ?_) (by simp [depB, blkD])
  have : k = W.heap.size := by simpa [depB, blkD] using hk
  simp [this]
/-- a fact of what a call has made -/
theorem HeapD.made (h : HeapD base E W) (hbw : base ≤ W.heap.size) (hb : Below W.heap.size W W') (e : Dep) (he : ∀ k ∈ e.bs, W.heap.size ≤ k ∧ k < W'.heap.size) (hn : e.bs.Nodup) (hp : e.P W') : HeapD base (e :: E) W' :=
  HeapD.re (T := []) (F := E) h [e] hb.size hbw (fun k h1 _ => hb.block k h1) (by intro x hx; rw [List.mem_singleton] at hx; subst hx; exact hp) (fun k hk => .inr (he k (by simpa [depB] using hk))) (by simpa [depB] using hn)
theorem HeapD.drop {F : List Dep} {e : Dep} (h : HeapD base (e :: F) W) : HeapD base F W :=
  ⟨fun x hx => h.1 x (List.mem_cons_of_mem _ hx), fun k hk => h.2.1 k (by simp only [depB, List.flatMap_cons, List.mem_append]; exact .inr hk), by have := h.2.2; simp only [depB, List.flatMap_cons, List.nodup_append] at this; exact this.2.1⟩
end
end Go.Proofs.YtcbfchkhbngpkaaGreatDoor
namespace Go.Proofs.YtcbfchkhbngpkaaGreatDoor
open Go.RowKit

theorem at_op {P : Program} {w : World} {ops : Array Oper} {rest : List Oper} {o : Oper} {a : Act} {Q : Exit → Act → World → Prop} (p : Op) (_ : o.op = p) (h : wpList P ops Q (o :: rest) a w) : wpList P ops Q (o :: rest) a w := h
end Go.Proofs.YtcbfchkhbngpkaaGreatDoor
namespace Go.Proofs.YtcbfchkhbngpkaaGreatDoor
open Go.Shelf
end Go.Proofs.YtcbfchkhbngpkaaGreatDoor
namespace Go.Proofs.YtcbfchkhbngpkaaGreatDoor
open Go.RowKit

end Go.Proofs.YtcbfchkhbngpkaaGreatDoor
namespace Go.Proofs.YtcbfchkhbngpkaaGreatDoor
open Go.RowKit

end Go.Proofs.YtcbfchkhbngpkaaGreatDoor
namespace Go.Proofs.YtcbfchkhbngpkaaGreatDoor
open Go.RowKit

end Go.Proofs.YtcbfchkhbngpkaaGreatDoor
namespace Go.Proofs.YtcbfchkhbngpkaaGreatDoor
open Go.RowKit

def zeros (n : Nat) : List Value := List.replicate n (.int .u8 0)
theorem key_size : (Tryz.prog.info? 24).map (·.size) = some 32 := by kernel_rfl
end Go.Proofs.YtcbfchkhbngpkaaGreatDoor
namespace Go.Proofs.YtcbfchkhbngpkaaGreatDoor
open Go.RowKit

theorem size32 {n : Nat} (h : n = 32) : (Tryz.prog.info? 24).map (·.size) = some n := by rw [h]; exact key_size
end Go.Proofs.YtcbfchkhbngpkaaGreatDoor
namespace Go.Proofs.YtcbfchkhbngpkaaGreatDoor
open Go.RowKit

def pubsV (ps : List PeerM) : List (List Value) := ps.map fun p => p.pub.map u8v
def alls (ps : List PeerM) : List (AddrM × Int) := ps.flatMap fun p => p.al
theorem pubsV_snoc (l : List PeerM) (p : PeerM) : (pubsV (l ++ [p])).flatten = (pubsV l).flatten ++ p.pub.map u8v := by simp [pubsV]
theorem alls_snoc (l : List PeerM) (p : PeerM) : alls (l ++ [p]) = alls l ++ p.al := by simp [alls]
theorem pfs_app (a b : List (AddrM × Int)) : (pfsV (a ++ b)).flatten = (pfsV a).flatten ++ (pfsV b).flatten := by simp [pfsV]
theorem alls_le {ps : List PeerM} (h : ∀ p ∈ ps, p.al.length ≤ 1000) : (alls ps).length ≤ 1000 * ps.length := by
  induction ps with
  | nil => simp [alls]
  | cons p r ih =>
    have h1 := h p (List.mem_cons_self ..)
    have h2 := ih fun q hq => h q (List.mem_cons_of_mem _ hq)
    simp only [alls, List.flatMap_cons, List.length_append, List.length_cons] at h2 ⊢
    omega
theorem pfs_one (l : List (AddrM × Int)) : ∀ u ∈ (pfsV l).flatten, u.oneCell' = true := by
  intro u hu
  obtain ⟨o, ho, hu⟩ := List.mem_flatten.1 hu
  obtain ⟨q, _, rfl⟩ := List.mem_map.1 ho
  exact prefC_one _ _ u hu
theorem peer_one (p : PeerM) (A : Option Addr) (n c : Nat) : ∀ v ∈ p.cells (.slice A n c), v.oneCell' = true := by
  intro v hv
  simp only [PeerM.cells, List.mem_append, List.mem_cons, List.mem_map, List.not_mem_nil, or_false] at hv
  rcases hv with ⟨x, _, rfl⟩ | ⟨x, _, rfl⟩ | rfl | hv | rfl | rfl
  · rfl
  · rfl
  · rfl
  · exact prefC_one _ _ v hv
  · rfl
  · rfl
theorem peer_cellsOf (p : PeerM) (h : p.ok) (v : Value) : (Tryz.prog.info? 57).map (·.size) = some (p.cells v).length := by
  rw [PeerM.cells_length h]; kernel_rfl
theorem peer_al {w : World} {g : Nat} {t : TypeId} {p : PeerM} {v : Value} (h : Blk w g t (p.cells v)) (hp : p.ok) : w.cell? ⟨g, 84, none⟩ = some v := by
  rw [h.cell]
  have h1 : (p.pub.map u8v).length = 32 := by rw [List.length_map, hp.1]
  have h2 : (p.sha.map u8v).length = 32 := by rw [List.length_map, hp.2.1]
  rw [PeerM.cells, List.getElem?_append_right (by omega), List.getElem?_append_right (by omega), h1, h2, show 84 - 32 - 32 = 19 + 1 from rfl, List.getElem?_cons_succ, List.getElem?_append_right (by rw [prefC_length p.ea hp.2.2.1]; omega), prefC_length p.ea hp.2.2.1]
  rfl
theorem peer_pub {w : World} {g : Nat} {t : TypeId} {p : PeerM} {v : Value} (h : Blk w g t (p.cells v)) : At w g 0 (p.pub.map u8v) := fun j u hj => h.all j u (by
  rw [PeerM.cells, List.getElem?_append_left (List.getElem?_eq_some_iff.1 hj).1]; exact hj)
set_option maxRecDepth 100000 in
set_option maxHeartbeats 8000000 in
theorem collect_any (A : Option Addr) (n c : Nat) (ps : List PeerM) (w : World) (hr : PeRd w w.heap.size A n ps) (hn : n ≤ 1000) (ha : ∀ p ∈ ps, p.al.length ≤ 1000) :
    Calls Tryz.prog 31 #[.slice A n c] w fun e w' => ∃ v1 v2, e = .returned (.tuple #[v1, v2]) ∧ TwoR w.heap.size 24 32 v1 n (pubsV ps).flatten 60 18 v2 (alls ps).length (pfsV (alls ps)).flatten w' ∧ Below w.heap.size w w' := by
  have HR := Lib.hid hr
  have HA := Lib.hid ha
  have HN := Lib.hid hn
  have hlen := hr.len
  obtain ⟨ki, hki, hkz, hks, hkb⟩ := keyInfo
  obtain ⟨pi, hpi, hpz, hps, hpb⟩ := prefInfo
  have HKI := Lib.hid (And.intro hki (And.intro hkz (And.intro hks hkb)))
  have HPI := Lib.hid (And.intro hpi (And.intro hpz (And.intro hps hpb)))
  clear hki hkz hks hkb hpi hpz hps hpb hr ha hn
  go_enter Tryz.func31, Tryz.ntmps31
  go_wp2_with fail
  go_loopw [10, 4, 5] (fun i v1 v2 wr => ∃ j : Nat, j ≤ n ∧ i = .int .i64 (j : Int) ∧ TwoR w.heap.size 24 32 v1 j (pubsV (ps.take j)).flatten 60 18 v2 (alls (ps.take j)).length (pfsV (alls (ps.take j))).flatten wr ∧ Below w.heap.size w wr) (fun i _ _ _ => n - (intOf i).toNat)
  case atStart => exact ⟨0, Nat.zero_le _, rfl, ⟨⟨rfl, .inl ⟨rfl, rfl⟩⟩, ⟨rfl, .inl ⟨rfl, rfl⟩⟩, fun k h => by cases h⟩, Below.refl _ _⟩
  case round =>
    obtain ⟨j, hj, rfl, hT, hW⟩ := hrel
    have HT := Lib.hid hT
    have HW := Lib.hid hW
    clear hT hW
    by_cases hjn : j < n
    · have d1 : decide ((j : Int) < (n : Int)) = true := by simp; omega
      obtain ⟨b, off, rfl⟩ := HR.out.addr (by omega)
      obtain ⟨p, hp⟩ : ∃ p, ps[j]? = some p := ⟨ps[j]'(by omega), List.getElem?_eq_getElem _⟩
      obtain ⟨hpk, A', c', hcc, hcm, hpf, hbl, hat⟩ := HR.out.at j p hp
      have hal := HA.out p (List.mem_of_getElem? hp)
      have HP := Lib.hid (And.intro hp (And.intro hpk (And.intro hal (And.intro hcc hcm))))
      have HPF0 := Lib.hid hpf
      have HAT := Lib.hid (show At wr b (off + j * 85) (p.cells (.slice A' p.al.length c')) from fun q v hv => (World.cell?_of_block (HW.out.block b hbl)).trans (hat q v hv))
      obtain ⟨oc, hoc⟩ : ∃ z, (p.cells (.slice A' p.al.length c')).toArray = z := ⟨_, rfl⟩
      have HOC := Lib.hid hoc
      have HSZ := Lib.hid hlen
      obtain ⟨zs, hzs⟩ : ∃ z, (#[.int .u8 0, .int .u8 0, .int .u8 0, .int .u8 0, .int .u8 0, .int .u8 0, .int .u8 0, .int .u8 0, .int .u8 0, .int .u8 0, .int .u8 0, .int .u8 0, .int .u8 0, .int .u8 0, .int .u8 0, .int .u8 0, .int .u8 0, .int .u8 0, .int .u8 0, .int .u8 0, .int .u8 0, .int .u8 0, .int .u8 0, .int .u8 0, .int .u8 0, .int .u8 0, .int .u8 0, .int .u8 0, .int .u8 0, .int .u8 0, .int .u8 0, .int .u8 0, .int .u8 0, .int .u8 0, .int .u8 0, .int .u8 0, .int .u8 0, .int .u8 0, .int .u8 0, .int .u8 0, .int .u8 0, .int .u8 0, .int .u8 0, .int .u8 0, .int .u8 0, .int .u8 0, .int .u8 0, .int .u8 0, .int .u8 0, .int .u8 0, .int .u8 0, .int .u8 0, .int .u8 0, .int .u8 0, .int .u8 0, .int .u8 0, .int .u8 0, .int .u8 0, .int .u8 0, .int .u8 0, .int .u8 0, .int .u8 0, .int .u8 0, .int .u8 0, .bool false, .bool false, .int .u8 0, .int .u8 0, .int .u8 0, .int .u8 0, .int .u8 0, .int .u8 0, .int .u8 0, .int .u8 0, .int .u8 0, .int .u8 0, .int .u8 0, .int .u8 0, .int .u8 0, .int .u8 0, .int .u8 0, .int .u8 0, .int .i64 0, .int .i64 0, .slice none 0 0] : Array Value).toList = z := ⟨_, rfl⟩
      have HZB := Lib.hid (show Blk (wr.alloc (.cells #[.int .u8 0, .int .u8 0, .int .u8 0, .int .u8 0, .int .u8 0, .int .u8 0, .int .u8 0, .int .u8 0, .int .u8 0, .int .u8 0, .int .u8 0, .int .u8 0, .int .u8 0, .int .u8 0, .int .u8 0, .int .u8 0, .int .u8 0, .int .u8 0, .int .u8 0, .int .u8 0, .int .u8 0, .int .u8 0, .int .u8 0, .int .u8 0, .int .u8 0, .int .u8 0, .int .u8 0, .int .u8 0, .int .u8 0, .int .u8 0, .int .u8 0, .int .u8 0, .int .u8 0, .int .u8 0, .int .u8 0, .int .u8 0, .int .u8 0, .int .u8 0, .int .u8 0, .int .u8 0, .int .u8 0, .int .u8 0, .int .u8 0, .int .u8 0, .int .u8 0, .int .u8 0, .int .u8 0, .int .u8 0, .int .u8 0, .int .u8 0, .int .u8 0, .int .u8 0, .int .u8 0, .int .u8 0, .int .u8 0, .int .u8 0, .int .u8 0, .int .u8 0, .int .u8 0, .int .u8 0, .int .u8 0, .int .u8 0, .int .u8 0, .int .u8 0, .bool false, .bool false, .int .u8 0, .int .u8 0, .int .u8 0, .int .u8 0, .int .u8 0, .int .u8 0, .int .u8 0, .int .u8 0, .int .u8 0, .int .u8 0, .int .u8 0, .int .u8 0, .int .u8 0, .int .u8 0, .int .u8 0, .int .u8 0, .int .i64 0, .int .i64 0, .slice none 0 0] 57)) wr.heap.size 57 zs from by rw [← hzs]; exact Blk.new wr 57 _)
      have HZL := Lib.hid (show zs.length = 85 from by rw [← hzs]; rfl)
      clear hp hpk hal hpf hbl hat hoc hcc hcm hzs
      go_upto_region 5 with fail
      go_upto_region 6 with (first | ((with_reducible refine at_op (.load 57 (.tmp 12)) rfl ?_); refine wpList_load_obj rfl 57 (.tmp 12) rfl b _ rfl _ HAT.out _ Tryz.underlying57 rfl (peer_cellsOf p HP.out.2.1 _) ?_; rw [HOC.out]) | ((with_reducible refine at_op (.store 57 (.tmp 7) (.tmp 13)) rfl ?_); refine wpList_store_obj rfl 57 (.tmp 7) (.tmp 13) rfl wr.heap.size 0 (p.cells (.slice A' p.al.length c')) rfl (by show Value.agg oc = _; rw [HOC.out]) 57 zs HZB.out (peer_cellsOf p HP.out.2.1 _) (by rw [PeerM.cells_length HP.out.2.1, HZL.out]; decide) (peer_one p A' _ c') ?_; intro w2 hb2 hg2))
      rw [setL_all zs _ (by rw [PeerM.cells_length HP.out.2.1, HZL.out])] at hb2
      have hbl2 : Below wr.heap.size wr w2 := ((Below.refl _ _).alloc (Nat.le_refl _) _).grown hg2 (by simp) (by intro k hk; injection hk with hk; omega)
      have HBK := Lib.hid hb2
      have HT2 := Lib.hid (HT.out.below hbl2)
      have HW2 := Lib.hid (HW.out.trans (hbl2.mono HW.out.size))
      have HG := Lib.hid (And.intro hb2.lt HW.out.size)
      have HNE := Lib.hid (show (∀ k, u4.ownBlock = some k → k < wr.heap.size) ∧ (∀ k, u5.ownBlock = some k → k < wr.heap.size) from ⟨fun k e => (own_lt HT.out.1 e).2, fun k e => (own_lt HT.out.2.1 e).2⟩)
      generalize wr.heap.size = g at HBK HG HNE hb2 hg2 hbl2 HZB ⊢
      clear hb2 hg2 hbl2 HZB HAT HOC HW HT
      have hpk := HP.out.2.1
      obtain ⟨kc, hkc⟩ : ∃ z, (p.pub.map u8v).toArray = z := ⟨_, rfl⟩
      have HKC := Lib.hid hkc
      clear hkc
      have HTA := Lib.hid (HT2.out.below ((Below.refl _ _).alloc (Nat.le_refl _) (.cells kc 24)))
      have HWA := Lib.hid (HW2.out.trans (((Below.refl _ _).alloc (Nat.le_refl _) (.cells kc 24)).mono HW2.out.size))
      have HBA := Lib.hid (HBK.out.below ((Below.refl _ _).alloc (Nat.le_refl _) (.cells kc 24)) HBK.out.lt)
      have HRK := Lib.hid (show RdRow (w2.alloc (.cells kc 24)) (w2.alloc (.cells kc 24)).heap.size (some ⟨w2.heap.size, 0, none⟩) 32 1 [p.pub.map u8v] from blk_row (t := 24) (rest := []) (by rw [← HKC.out]; simpa using Blk.new w2 24 (p.pub.map u8v)) (by intro o ho; rw [List.mem_singleton] at ho; rw [ho, List.length_map, HP.out.2.1.1]) rfl)
      have hpl := (alls_le fun q hq => HA.out q (List.mem_of_mem_take hq : q ∈ ps) : (alls (ps.take j)).length ≤ 1000 * (ps.take j).length)
      have HPL := Lib.hid (show (alls (ps.take j)).length + p.al.length ≤ 10000000 ∧ j + 1 ≤ 1000 from by
        have h1 := HP.out.2.2.1
        have h2 := HN.out
        rw [List.length_take] at hpl
        omega)
      have HML := Lib.hid (show maxLen = 9223372036854775807 from rfl)
      clear hpl
      go_upto_region 7 with (first | ((with_reducible refine at_op (.load 24 (.tmp 15)) rfl ?_); refine wpList_load_obj rfl 24 (.tmp 15) rfl g 0 rfl (p.pub.map u8v) (peer_pub HBK.out) _ Tryz.underlying24 rfl (size32 (by rw [List.length_map, HP.out.2.1.1])) ?_; rw [HKC.out]) | (refine wpList_buildOne rfl 70 24 (.tmp 16) rfl kc rfl 32 Tryz.underlying70 ki HKI.out.1 HKI.out.2.2.1 _ HKI.out.2.1 (by decide) (by decide) (by rw [← HKC.out, List.size_toArray, List.length_map, HP.out.2.1.1]) ?_) | (at_builtin; refine wpList_append_rows _ rfl (.tmp 14) (.tmp 17) 70 rfl w.heap.size 24 ki _ 32 32 Tryz.underlying70 HKI.out.1 HKI.out.2.1 HKI.out.2.2.1 HKI.out.2.2.2 (by rfl) (by decide) _ j (pubsV (ps.take j)).flatten rfl HTA.out.1 _ _ 1 1 [p.pub.map u8v] rfl HRK.out (by simpa using u8v_one p.pub) (by have := HPL.out; have := HML.out; omega) (by have := HPL.out; omega) HWA.out.size ?_; intro v3 w3 ho3 hg3 hv3))
      have hT3 := HTA.out.first ho3 hg3 hv3
      have hW3 := HTA.out.grown HWA.out (Nat.le_refl _) hg3
      have hB3 : Blk w3 g 57 (p.cells (.slice A' p.al.length c')) := by
        have h0 := HBA.out
        unfold Blk at h0 ⊢
        rw [hg3.block g HBA.out.lt (fun e => by have := HNE.out.1 g e.symm; omega)]
        exact h0
      have hal3 := peer_al hB3 HP.out.2.1
      have HT3 := Lib.hid hT3.swap
      have HW3 := Lib.hid hW3
      have HPF3 := Lib.hid (HPF0.out.below hW3)
      clear hT3 hW3 hB3 ho3 hg3 hv3 HTA HWA HBA HRK
      go_upto_region 7 with fail
      go_upto_region 8 with (at_builtin; refine wpList_append_rows _ rfl (.tmp 19) (.tmp 21) 49 rfl w.heap.size 60 pi _ 18 32 Tryz.underlying49 HPI.out.1 HPI.out.2.1 HPI.out.2.2.1 HPI.out.2.2.2 (by rfl) (by decide) _ (alls (ps.take j)).length (pfsV (alls (ps.take j))).flatten rfl HT3.out.1 _ _ p.al.length c' (pfsV p.al) rfl HPF3.out.1 (pfs_one p.al) (by have := HPL.out; have := HML.out; omega) (by have := HPL.out; omega) HW3.out.size ?_; intro v4 w4 ho4 hg4 hv4)
      have hT4 := (HT3.out.first ho4 hg4 hv4).swap
      have hW4 := HT3.out.grown HW3.out (Nat.le_refl _) hg4
      have HT4 := Lib.hid hT4
      have HW4 := Lib.hid hW4
      clear hT4 hW4 ho4 hg4 hv4 HT3 HW3 HPF3 hal3
      obtain ⟨j2, hj2⟩ : ∃ z, j + 1 = z := ⟨_, rfl⟩
      have e8 : (j : Int) + 1 = (j2 : Int) := by omega
      have w8' : IntKind.i64.wrap (j2 : Int) = (j2 : Int) := by have := HPL.out; rw [IntKind.wrap_i64]; omega
      have HJ2 := Lib.hid (show j2 = j + 1 ∧ j + 1 ≤ n ∧ n - j2 < n - j from by omega)
      clear hj2 hj hjn
      go_wp2_with fail
      go_roundw
      case rel => exact ⟨j2, by have := HJ2.out; omega, rfl, by
        have h := HT4.out
        have e : ps.take j2 = ps.take j ++ [p] := by rw [HJ2.out.1]; exact take_snoc HP.out.1
        rw [e, pubsV_snoc, alls_snoc, pfs_app, List.length_append, HJ2.out.1]
        simpa using h, HW4.out⟩
      case measure => have := HJ2.out; simp [intOf]; omega
    · obtain rfl : j = n := by omega
      have d1 : decide ((j : Int) < (j : Int)) = false := by simp
      have HT9 := HT
      have HW9 := HW
      have HE := Lib.hid (show ps.take j = ps from List.take_of_length_le (by omega))
      go_wp2
      go_ret2
      exact ⟨_, _, rfl, by have h := HT9.out; rw [HE.out] at h; exact h, HW9.out⟩
end Go.Proofs.YtcbfchkhbngpkaaGreatDoor
namespace Go.Proofs.YtcbfchkhbngpkaaGreatDoor
open Go.RowKit

def idxN (p : Nat → Bool) (n : Nat) : Int := match (List.range n).find? p with
  | none => -1
  | some i => (i : Int)
theorem idxN_none {p : Nat → Bool} {n : Nat} (h : ∀ q, q < n → p q = false) : idxN p n = -1 := by
  have e : (List.range n).find? p = none := List.find?_eq_none.2 fun x hx => by rw [h x (List.mem_range.1 hx)]; simp
  rw [idxN, e]
theorem idxN_some {p : Nat → Bool} {n j : Nat} (hj : j < n) (hp : p j = true) (h : ∀ q, q < j → p q = false) : idxN p n = (j : Int) := by
  have e : (List.range n).find? p = some j := by
    rw [List.find?_eq_some_iff_append]
    refine ⟨hp, List.range j, (List.range (n - (j + 1))).map (· + (j + 1)), ?_, fun x hx => by rw [h x (List.mem_range.1 hx)]; rfl⟩
    have h1 : List.range n = List.range (j + 1 + (n - (j + 1))) := by rw [show j + 1 + (n - (j + 1)) = n by omega]
    rw [h1, List.range_add, List.range_succ, List.append_assoc]
    congr 1
    simp only [List.singleton_append, List.cons.injEq, true_and]
    exact List.map_congr_left fun x _ => by omega
  rw [idxN, e]
theorem idxN_ge (p : Nat → Bool) (n : Nat) : decide (0 ≤ idxN p n) = (List.range n).any p := by
  unfold idxN
  cases h : (List.range n).find? p with
  | none =>
    rw [List.find?_eq_none] at h
    have : (List.range n).any p = false := by
      rw [List.any_eq_false]
      exact h
    rw [this]
    rfl
  | some i =>
    have h1 := List.find?_some h
    have h2 := List.mem_of_find?_eq_some h
    have : (List.range n).any p = true := List.any_eq_true.2 ⟨i, h2, h1⟩
    rw [this]
    simp
end Go.Proofs.YtcbfchkhbngpkaaGreatDoor
namespace Go.Proofs.YtcbfchkhbngpkaaGreatDoor
open Go.RowKit

theorem eq_obj {P : Program} (m D : Nat) (t : TypeId) (hm : m ≤ 10000) (hk : P.keyTypeAt m t = true) (ht : P.tiled m t = true) (cs ds : List Value) (hc : LitsAt P D t cs) (hd : LitsAt P D t ds) (d : TypeDesc) (hu : P.underlying t = some d) (ho : isObj d = true) (hs : P.cellsOf t = cs.length) (hs2 : P.cellsOf t = ds.length) (b : Bool) (hb : b = true ↔ cs = ds) (w : World) :
    (Op.equalIn 10000 t (.agg cs.toArray) (.agg ds.toArray)).run P w = .ok b w := by
  obtain ⟨la, hla⟩ := hc
  obtain ⟨lb, hlb⟩ := hd
  have hf : (Value.agg cs.toArray).formed P t = true := by
    cases d <;> simp_all [Value.formed, isObj]
  have hg : (Value.agg ds.toArray).formed P t = true := by
    cases d <;> simp_all [Value.formed, isObj]
  obtain ⟨r, hr, hiff⟩ := run_equalIn_deep (P := P) (10000 - m) m t hk w D D (.agg cs.toArray) (.agg ds.toArray) la lb hf hg hla hlb
  rw [Nat.sub_add_cancel hm] at hr
  rw [hr]
  have h : r = true ↔ cs = ds := by
    rw [hiff]
    constructor
    · intro e
      rw [cells_of_lits m t ht D cs la hla, cells_of_lits m t ht D ds lb hlb, e]
    · rintro rfl
      rw [hla] at hlb
      exact Option.some.inj hlb
  rw [show r = b by rw [Bool.eq_iff_iff, h, hb]]
end Go.Proofs.YtcbfchkhbngpkaaGreatDoor
namespace Go.Proofs.YtcbfchkhbngpkaaGreatDoor
open Go.RowKit

theorem u8v_inj {x y : List UInt8} : x.map u8v = y.map u8v ↔ x = y := by
  refine List.map_inj_right (fun a b hab => ?_)
  have : ((a.toNat : Nat) : Int) = (b.toNat : Int) := by simpa [u8v] using hab
  exact UInt8.toNat.inj (by omega)
theorem key_lits (D : Nat) (k : List UInt8) (h : k.length = 32) : LitsAt Tryz.prog (D + 2) 24 (k.map u8v) :=
  lits_bytes Tryz.underlying24 Tryz.underlying5 (by kernel_rfl) k h (by kernel_rfl)
theorem key_eq (k l : List UInt8) (hk : k.length = 32) (hl : l.length = 32) (w : World) : (Op.equalIn 10000 24 (.agg (k.map u8v).toArray) (.agg (l.map u8v).toArray)).run Tryz.prog w = .ok (decide (k = l)) w :=
  eq_obj 5 3 24 (by omega) (by kernel_rfl) (by kernel_rfl) (k.map u8v) (l.map u8v) (key_lits 1 k hk) (key_lits 1 l hl) _ Tryz.underlying24 rfl (by rw [List.length_map, hk]; kernel_rfl) (by rw [List.length_map, hl]; kernel_rfl) _ (by rw [decide_eq_true_iff, u8v_inj]) w
theorem key_noguard : Tryz.prog.eqGuardType Tryz.prog.depth 24 = false := by kernel_rfl
end Go.Proofs.YtcbfchkhbngpkaaGreatDoor
namespace Go.Proofs.YtcbfchkhbngpkaaGreatDoor
open Go.RowKit

theorem run_eql_agg {P : Program} (ρ : Operand → Value) (o : Oper) (t r : TypeId) (i j : Tmp) (ho : o.op = .binOp .eql t (.tmp i) (.tmp j) r) (u v : Array Value) (b : Bool) (w : World) (hx : ρ (.tmp i) = .agg u) (hy : ρ (.tmp j) = .agg v) (hg : P.eqGuardType P.depth t = false) (he : (Op.equalIn 10000 t (.agg u) (.agg v)).run P w = .ok b w) :
    (execOp ρ o).run P w = .ok (.value (.bool b)) w := by
  have he2 : (Op.equalIn Op.maxDepth t (.agg u) (.agg v)).run P w = .ok b w := he
  unfold execOp
  simp only [ho, hx, hy, eqGuard]
  simp [binOp, Op.equal, he2, hg, Result.andThen]
end Go.Proofs.YtcbfchkhbngpkaaGreatDoor
namespace Go.Proofs.YtcbfchkhbngpkaaGreatDoor
open Go.RowKit

theorem addr_noguard : Tryz.prog.eqGuardType Tryz.prog.depth 53 = false := by kernel_rfl
theorem addr_lits (D : Nat) (a : AddrM) (h : a.ok) : LitsAt Tryz.prog (D + 3) 53 a.cells := by
  refine lits_struct Tryz.underlying53 a.cells ?_ (by simp) ?_
  · rw [AddrM.cells_length h]; kernel_rfl
  · intro f hf
    simp only [List.mem_cons, List.not_mem_nil, or_false] at hf
    rcases hf with rfl | rfl
    · have e : (a.cells.drop 0).take (Tryz.prog.cellsOf 4) = [.bool a.six] := by
        rw [show Tryz.prog.cellsOf 4 = 1 by kernel_rfl]; rfl
      exact e ▸ lits_bool Tryz.underlying4 a.six
    · have e : (a.cells.drop 1).take (Tryz.prog.cellsOf 51) = a.ip.map u8v := by
        rw [show Tryz.prog.cellsOf 51 = 16 by kernel_rfl, AddrM.cells, List.drop_succ_cons, List.drop_zero, List.take_of_length_le (by rw [List.length_map, h]; omega)]
      exact e ▸ lits_bytes Tryz.underlying51 Tryz.underlying5 (by kernel_rfl) a.ip h (by kernel_rfl)
end Go.Proofs.YtcbfchkhbngpkaaGreatDoor
namespace Go.Proofs.YtcbfchkhbngpkaaGreatDoor
open Go.RowKit

theorem addr_inj {a b : AddrM} : a.cells = b.cells ↔ a = b := by
  refine ⟨fun h => ?_, fun h => by rw [h]⟩
  cases a; cases b
  simp only [AddrM.cells, List.cons.injEq] at h
  obtain ⟨h1, h2⟩ := h
  injection h1 with h1
  rw [u8v_inj] at h2
  rw [h1, h2]
theorem prefC_inj {a b : AddrM} {i j : Int} (ha : a.ok) (hb : b.ok) : prefC a i = prefC b j ↔ a = b ∧ i = j := by
  refine ⟨fun h => ?_, fun h => by rw [h.1, h.2]⟩
  rw [prefC, prefC] at h
  have h1 := List.append_inj h (by rw [AddrM.cells_length ha, AddrM.cells_length hb])
  refine ⟨addr_inj.1 h1.1, ?_⟩
  have h2 := h1.2
  simp only [List.cons.injEq, Value.int.injEq, and_true, true_and] at h2
  exact h2
theorem pref_lits (D : Nat) (a : AddrM) (h : a.ok) (q : Int) (hq : inI64 q) : LitsAt Tryz.prog (D + 4) 60 (prefC a q) := by
  refine lits_struct Tryz.underlying60 (prefC a q) ?_ (by simp) ?_
  · rw [prefC_length a h q]; kernel_rfl
  · intro f hf
    simp only [List.mem_cons, List.not_mem_nil, or_false] at hf
    rcases hf with rfl | rfl
    · have e : ((prefC a q).drop 0).take (Tryz.prog.cellsOf 53) = a.cells := by
        rw [show Tryz.prog.cellsOf 53 = 17 by kernel_rfl]
        exact prefC_addr a h q
      exact e ▸ addr_lits D _ h
    · have e : ((prefC a q).drop 17).take (Tryz.prog.cellsOf 3) = [.int .i64 q] := by
        rw [show Tryz.prog.cellsOf 3 = 1 by kernel_rfl, prefC, List.drop_left' (AddrM.cells_length h)]; rfl
      exact e ▸ lits_int Tryz.underlying3 _ ⟨by simp [IntKind.min, IntKind.signed, IntKind.bits]; exact hq.1, by simp [IntKind.max, IntKind.signed, IntKind.bits]; exact hq.2⟩
theorem pref_eqd (a b : AddrM) (i j : Int) (ha : a.ok) (hb : b.ok) (hi : inI64 i) (hj : inI64 j) (w : World) : (Op.equalIn 10000 60 (.agg (prefC a i).toArray) (.agg (prefC b j).toArray)).run Tryz.prog w = .ok (decide (a = b ∧ i = j)) w :=
  eq_obj 7 4 60 (by omega) (by kernel_rfl) (by kernel_rfl) (prefC a i) (prefC b j) (pref_lits 0 a ha i hi) (pref_lits 0 b hb j hj) _ Tryz.underlying60 rfl (by rw [prefC_length a ha]; kernel_rfl) (by rw [prefC_length b hb]; kernel_rfl) _ (by rw [decide_eq_true_iff, prefC_inj ha hb]) w
theorem prefix_noguard : Tryz.prog.eqGuardType Tryz.prog.depth 60 = false := by kernel_rfl
end Go.Proofs.YtcbfchkhbngpkaaGreatDoor
namespace Go.Proofs.YtcbfchkhbngpkaaGreatDoor
open Go.RowKit

theorem wpList_eql_agg {P : Program} {w : World} {ops : Array Oper} {rest : List Oper} {o : Oper} {a : Act} {Q : Exit → Act → World → Prop} (hw : Region.wanted o (yielded ops a.tmps) = true) (t r : TypeId) (i j : Tmp) (ho : o.op = .binOp .eql t (.tmp i) (.tmp j) r) (u v : Array Value) (b : Bool)
    (hx : a.eval (.tmp i) = .agg u) (hy : a.eval (.tmp j) = .agg v) (hg : P.eqGuardType P.depth t = false) (he : (Op.equalIn 10000 t (.agg u) (.agg v)).run P w = .ok b w)
    (h : wpList P ops Q rest (a.put o.dst (.bool b)) w) : wpList P ops Q (o :: rest) a w :=
  wpList_step fun K hK => by
    rw [if_pos hw]
    have he2 : (Op.equalIn Op.maxDepth t (.agg u) (.agg v)).run P w = .ok b w := he
    have hr : (execOp a.eval o).run P w = .ok (.value (.bool b)) w := by
      unfold execOp
      simp only [ho, hx, hy, eqGuard]
      simp [binOp, Op.equal, he2, hg, Result.andThen]
    unfold Oper.wp
    rw [hr]
    exact hK _ _ h
end Go.Proofs.YtcbfchkhbngpkaaGreatDoor
namespace Go.Proofs.YtcbfchkhbngpkaaGreatDoor
open Go.RowKit

theorem run_cmp_agg {P : Program} (ρ : Operand → Value) (o : Oper) (t r : TypeId) (i j : Tmp) (neg : Bool) (ho : o.op = .binOp (if neg then .neq else .eql) t (.tmp i) (.tmp j) r) (u v : Array Value) (b : Bool) (w : World) (hx : ρ (.tmp i) = .agg u) (hy : ρ (.tmp j) = .agg v) (hg : P.eqGuardType P.depth t = false) (he : (Op.equalIn 10000 t (.agg u) (.agg v)).run P w = .ok b w) :
    (execOp ρ o).run P w = .ok (.value (.bool (if neg then !b else b))) w := by
  have he2 : (Op.equalIn Op.maxDepth t (.agg u) (.agg v)).run P w = .ok b w := he
  unfold execOp
  cases neg
  · rw [if_neg (by decide)] at ho
    simp only [ho, hx, hy, eqGuard]
    simp [binOp, Op.equal, he2, hg, Result.andThen]
  · rw [if_pos rfl] at ho
    simp only [ho, hx, hy, eqGuard]
    simp [binOp, Op.equal, he2, hg, Result.andThen]
theorem wpList_neq_agg {P : Program} {w : World} {ops : Array Oper} {rest : List Oper} {o : Oper} {a : Act} {Q : Exit → Act → World → Prop} (hw : Region.wanted o (yielded ops a.tmps) = true) (t r : TypeId) (i j : Tmp) (ho : o.op = .binOp .neq t (.tmp i) (.tmp j) r) (u v : Array Value) (b : Bool)
    (hx : a.eval (.tmp i) = .agg u) (hy : a.eval (.tmp j) = .agg v) (hg : P.eqGuardType P.depth t = false) (he : (Op.equalIn 10000 t (.agg u) (.agg v)).run P w = .ok b w)
    (h : wpList P ops Q rest (a.put o.dst (.bool (!b))) w) : wpList P ops Q (o :: rest) a w :=
  wpList_step fun K hK => by
    rw [if_pos hw]
    have hr := run_cmp_agg a.eval o t r i j true ho u v b w hx hy hg he
    unfold Oper.wp
    rw [hr]
    exact hK _ _ h
theorem yields_cmp_agg {P : Program} {ops : Array Oper} {S : World → Prop} {o : Oper} {a : Act} (neg : Bool) (hw : Region.wanted o (yielded ops a.tmps) = true) (t r : TypeId) (i j : Tmp) (ho : o.op = .binOp (if neg then .neq else .eql) t (.tmp i) (.tmp j) r) (u v : Array Value) (b : Bool)
    (hx : a.eval (.tmp i) = .agg u) (hy : a.eval (.tmp j) = .agg v) (hg : P.eqGuardType P.depth t = false) (he : ∀ w, (Op.equalIn 10000 t (.agg u) (.agg v)).run P w = .ok b w) : YieldsIf P ops S o (.bool (if neg then !b else b)) a :=
  .inl ⟨hw, fun w _ => run_cmp_agg a.eval o t r i j neg ho u v b w hx hy hg (he w)⟩
end Go.Proofs.YtcbfchkhbngpkaaGreatDoor
namespace Go.Proofs.YtcbfchkhbngpkaaGreatDoor
open Go.RowKit

structure Low where
  P : World → Prop
  keep : ∀ W W' : World, Below W.heap.size W W' → P W → P W'
/-- bytes that a slice reads as -/
def rdL (A : Option Addr) (n : Nat) (l : List UInt8) : Low := ⟨fun W => Rd W W.heap.size A n l, fun _ _ hb h => (h.below hb).mono hb.size⟩
/-- a block -/
def blkL (g : Nat) (t : TypeId) (cs : List Value) : Low := ⟨fun W => Blk W g t cs, fun _ _ hb h => h.below hb h.lt⟩
/-- a row of bytes that was made above base -/
def ownL (base : Nat) (v : Value) (n : Nat) (xs : List Value) : Low := ⟨fun W => W.ownsRow base 5 1 v n xs, fun _ _ hb h => ⟨h.1, by
  rcases h.2 with h1 | ⟨g, cap, cur, hv, hbg, hg, hr⟩
  · exact .inl h1
  · exact .inr ⟨g, cap, cur, hv, hbg, (hb.block g (h.lt g (by rw [hv]; rfl)).2).trans hg, hr⟩⟩⟩
def Lows (w0 : World) (E : List Low) (W : World) : Prop := (∀ f ∈ E, f.P W) ∧ Below w0.heap.size w0 W
section
variable {w0 W W' : World} {E : List Low}
theorem Lows.nil (w0 : World) : Lows w0 [] w0 := ⟨fun f hf => absurd hf (by simp), Below.refl _ _⟩
theorem Lows.bel (h : Lows w0 E W) : Below w0.heap.size w0 W := h.2
theorem Lows.size (h : Lows w0 E W) : w0.heap.size ≤ W.heap.size := h.2.size
theorem Lows.below (h : Lows w0 E W) (hb : Below W.heap.size W W') : Lows w0 E W' := ⟨fun f hf => f.keep _ _ hb (h.1 f hf), h.2.trans (hb.mono h.2.size)⟩
theorem Lows.drew (h : Lows w0 E W) : Lows w0 E W.drew := h.below ((Below.refl _ _).drew)
theorem Lows.cons (h : Lows w0 E W) (f : Low) (hf : f.P W) : Lows w0 (f :: E) W :=
  ⟨fun g hg => by
    rcases List.mem_cons.1 hg with rfl | hg
    · exact hf
    · exact h.1 g hg, h.2⟩
theorem Lows.get (h : Lows w0 E W) (i : Nat) {f : Low} (he : E[i]? = some f) : f.P W := h.1 _ (List.mem_of_getElem? he)
theorem Lows.rd (h : Lows w0 E W) (i : Nat) {A : Option Addr} {n : Nat} {l : List UInt8} (he : E[i]? = some (rdL A n l)) : Rd W W.heap.size A n l := h.get i he
theorem Lows.blk (h : Lows w0 E W) (i : Nat) {g : Nat} {t : TypeId} {cs : List Value} (he : E[i]? = some (blkL g t cs)) : Blk W g t cs := h.get i he
theorem Lows.own (h : Lows w0 E W) (i : Nat) {base : Nat} {v : Value} {n : Nat} {xs : List Value} (he : E[i]? = some (ownL base v n xs)) : W.ownsRow base 5 1 v n xs := h.get i he
theorem Lows.tail (h : Lows w0 E W) (i : Nat) : Lows w0 (E.eraseIdx i) W := ⟨fun f hf => h.1 f (List.mem_of_mem_eraseIdx hf), h.2⟩
/-- a new block -/
theorem Lows.alloc (h : Lows w0 E W) (t : TypeId) (arr : Array Value) (cs : List Value) (ha : arr = cs.toArray) : Lows w0 (blkL W.heap.size t cs :: E) (W.alloc (.cells arr t)) := by
  subst ha
  exact (h.below ((Below.refl _ _).alloc (Nat.le_refl _) _)).cons (blkL _ _ _) (Blk.new W t cs)
/-- a block above is written -/
theorem Lows.grown (h : Lows w0 E W) {W2 : World} (hb : Below W.heap.size W W') {row : Option Nat} (hg : W'.grownBy W2 row) (hr : ∀ k, row = some k → W.heap.size ≤ k) : Lows w0 E W2 := h.below (hb.grown hg hb.size hr)
/-- a new block that is written at once -/
theorem Lows.stored (h : Lows w0 E W) {t : TypeId} {arr : Array Value} {cs : List Value} {W2 : World} (hg : (W.alloc (.cells arr t)).grownBy W2 (some W.heap.size)) (hb : Blk W2 W.heap.size t cs) : Lows w0 (blkL W.heap.size t cs :: E) W2 :=
  (h.grown ((Below.refl _ _).alloc (Nat.le_refl _) _) hg (by intro k hk; injection hk with hk; omega)).cons (blkL _ _ _) hb
end
end Go.Proofs.YtcbfchkhbngpkaaGreatDoor
namespace Go.Proofs.YtcbfchkhbngpkaaGreatDoor
open Go.RowKit

/-- what runs to its end leaves the world as it is -/
def StillS {α : Type} (s : Sem α) : Prop := ∀ (P : Program) (w : World) (v : α) (w' : World), s.run P w = .ok v w' → w' = w
theorem StillS.pure {α : Type} (a : α) : StillS (Pure.pure a : Sem α) := fun _ _ _ _ h => by
  simp only [Sem.run_pure, Result.ok.injEq] at h
  exact h.2.symm
theorem StillS.halt {α : Type} (x : Halt) : StillS (Sem.halt x : Sem α) := fun _ _ _ _ h => by simp [Sem.run] at h
theorem StillS.bind {α β : Type} {s : Sem α} {f : α → Sem β} (h : StillS s) (hf : ∀ a, StillS (f a)) : StillS (s >>= f) := fun P w v w' e => by
  rw [Sem.run_bind] at e
  cases hr : s.run P w with
  | ok a w1 =>
    rw [hr, Result.andThen_ok] at e
    have h1 := h P w a w1 hr
    subst h1
    exact hf a P _ v w' e
  | halt x w1 => rw [hr] at e; cases e
theorem still_load (a : Addr) (m : Mode) : StillS (load a m) := fun P w v w' h => by
  unfold load at h
  simp only [Sem.run] at h
  split at h
  · cases h; rfl
  · split at h
    · cases h; rfl
    · cases h
theorem still_program : StillS program := fun P w v w' h => by
  unfold program at h
  simp only [Sem.run] at h
  cases h
  rfl
theorem still_typeInfo (t : TypeId) : StillS (typeInfo t) := by
  unfold typeInfo
  refine still_program.bind fun p => ?_
  split
  · exact StillS.pure _
  · exact StillS.halt _
theorem still_underlying (t : TypeId) : StillS (underlying t) := by
  unfold underlying
  refine still_program.bind fun p => ?_
  split
  · exact StillS.pure _
  · exact StillS.halt _
theorem still_isAgg (t : TypeId) : StillS (isAgg t) := by
  unfold isAgg
  refine (still_underlying t).bind fun d => ?_
  split <;> exact StillS.pure _
theorem still_loadCellsFrom (a : Addr) : ∀ (n i : Nat) (acc : Array Value), StillS (loadCellsFrom a i n acc)
  | 0, _, _ => StillS.pure _
  | n + 1, _, _ => (still_load _ _).bind fun _ => still_loadCellsFrom a n _ _
theorem still_loadAt (t : TypeId) (v : Value) : StillS (Instr.loadAt t v) := by
  unfold Instr.loadAt
  refine StillS.bind ?_ fun a => ?_
  · unfold Instr.sureAddr
    split
    · exact StillS.pure _
    · exact StillS.halt _
  · unfold loadVar
    refine (still_isAgg t).bind fun b => ?_
    cases b
    · exact still_load _ _
    · exact StillS.bind (s := sizeOf t) (StillS.bind (still_typeInfo t) fun _ => StillS.pure _) fun n => StillS.bind (s := loadCells a n) (still_loadCellsFrom a n 0 _) fun _ => StillS.pure _
def Oper.isLoad (o : Oper) : Bool := match o.op with
  | .load _ _ => true
  | _ => false
theorem still_op {o : Oper} (h : Oper.isLoad o = true) (ev : Operand → Value) (P : Program) (w w' : World) (n : Next) (e : (execOp ev o).run P w = .ok n w') : w' = w := by
  unfold Oper.isLoad at h
  cases ho : o.op <;> rw [ho] at h <;> try cases h
  unfold execOp at e
  simp only [ho] at e
  exact StillS.bind (still_loadAt _ _) (fun _ => StillS.pure _) P w n w' e

section
variable {P : Program} {ops : Array Oper} {Q : Exit → Act → World → Prop} {md : Region.Mode} {S : World → Prop}
theorem wpOp_load {j : Nat} {o : Oper} (hj : ops[j]? = some o) (h : Oper.isLoad o = true) {K : Act → World → Prop} {a : Act} {w : World} (hk : wpOp P ops Q j K a w) : wpOp P ops Q j (fun a' w' => w' = w ∧ K a' w') a w := by
  unfold wpOp at *
  simp only [hj] at *
  split
  · rename_i hw
    simp only [hw, if_true] at hk
    rcases hk with hk | hk
    case inr => exact .inr hk
    refine .inl ?_
    unfold Oper.wp at *
    have st := still_op h a.eval P w
    have hn : ∀ n w', (execOp a.eval o).run P w = .ok n w' → ∃ v, n = .value v := by
      intro n w' e
      unfold Oper.isLoad at h
      cases ho : o.op <;> rw [ho] at h <;> try cases h
      unfold execOp at e
      simp only [ho] at e
      rw [Sem.run_bind] at e
      rename_i ty x
      cases hr : (Instr.loadAt ty (a.eval x)).run P w with
      | ok v w1 =>
        rw [hr, Result.andThen_ok, Sem.run_pure] at e
        cases e
        exact ⟨v, rfl⟩
      | halt x w1 => rw [hr] at e; cases e
    generalize (execOp a.eval o).run P w = r at *
    cases r with
    | ok n w' =>
      obtain ⟨v, rfl⟩ := hn n w' rfl
      have := st w' _ rfl
      subst this
      exact ⟨rfl, hk⟩
    | halt x w' =>
      cases x <;> simp only [Oper.upon] at hk ⊢ <;> exact hk
  · rename_i hw
    simp only [hw] at hk
    exact ⟨trivial, hk⟩
/-- every operation that has not come up, but i and those of R, waits for i or for one that is not of R -/
def waitsL (md : Region.Mode) (ops : Array Oper) (R : List Nat) (i : Nat) (listed : Array Bool) : Bool :=
  (List.range ops.size).all fun j => listed.getD j true || j == i || R.contains j ||
    match ops[j]? with
    | none => true
    | some o => o.after.toList.any fun e => Region.binds md e && (e.on == i || (!(listed.getD e.on false) && !(R.contains e.on)))
theorem waitsL_set {R : List Nat} {i j : Nat} {listed : Array Bool} (hj : R.contains j = true) (h : waitsL md ops R i listed = true) : waitsL md ops R i (listed.setIfInBounds j true) = true := by
  unfold waitsL at *
  rw [List.all_eq_true] at *
  intro k hk
  have h1 := h k hk
  by_cases hjk : j = k
  · subst hjk
    simp only [hj, Bool.or_true, Bool.true_or]
  · rw [getD_set_ne true hjk]
    cases ho : ops[k]? with
    | none => simp
    | some o =>
      rw [ho] at h1
      simp only [Bool.or_eq_true] at h1 ⊢
      refine h1.imp id fun h2 => ?_
      rw [List.any_eq_true] at h2 ⊢
      obtain ⟨e, he, h3⟩ := h2
      refine ⟨e, he, ?_⟩
      simp only [Bool.and_eq_true, Bool.or_eq_true] at h3 ⊢
      refine ⟨h3.1, h3.2.imp id fun h4 => ⟨?_, h4.2⟩⟩
      have hne : j ≠ e.on := fun h5 => by
        have h6 := h4.2
        rw [← h5, hj] at h6
        cases h6
      rw [getD_set_ne false hne]
      exact h4.1
theorem wpAnyH_load {R : List Nat} {i : Nat} {oi : Oper} {v : Value} (hi : ops[i]? = some oi) (hsel : ∀ (j : Nat) (o : Oper) cs b, ops[j]? = some o → o.op ≠ .select cs b)
    (hQ : ∀ c a w, Q (.panic c) (a.put oi.dst v) w → Q (.panic c) a w) (hR : ∀ j ∈ R, ∀ o, ops[j]? = some o → Oper.isLoad o = true) (w : World) (hS : S w) :
    ∀ (fuel : Nat) (listed : Array Bool) (a : Act), waitsL md ops R i listed = true →
      (∀ j oj, ops[j]? = some oj → j ≠ i → listed.getD j true = false → (∀ e ∈ oj.after, Region.binds md e = true → e.on ≠ i) → oi.apart ops oj = true) →
      i ∈ Region.ready md ops listed → YieldsIf P ops (fun w' => w' = w) oi v a →
      wpAnyH P md ops Q S fuel (listed.setIfInBounds i true) (a.put oi.dst v) w → wpAnyH P md ops Q S (fuel + 1) listed a w := by
  intro fuel
  induction fuel with
  | zero =>
    intro listed a hwt _ hr hy H
    refine ⟨fun h => (by rw [h] at hr; cases hr), fun j hj => ?_⟩
    by_cases hji : j = i
    · subst hji; exact hy.wpOp hi rfl ⟨hS, H⟩
    · have := ready_mono hj hji
      rw [H.1] at this
      cases this
  | succ fuel ih =>
    intro listed a hwt hfree hr hy H
    refine ⟨fun h => (by rw [h] at hr; cases hr), fun j hj => ?_⟩
    by_cases hji : j = i
    · subst hji; exact hy.wpOp hi rfl ⟨hS, H⟩
    · have h1 := H.2 j (ready_mono hj hji)
      obtain ⟨hjun, oj, hoj, hall⟩ := mem_ready.1 hj
      have hnot : ∀ e ∈ oj.after, Region.binds md e = true → e.on ≠ i := fun e he hb heq => by
        have h1 := hall e he hb
        have h0 := (mem_ready.1 hr).1
        rw [heq] at h1
        rcases Nat.lt_or_ge i listed.size with h' | h'
        · simp [h'] at h0 h1; rw [h0] at h1; cases h1
        · simp [Array.getElem?_eq_none h'] at h1
      have hjR : R.contains j = true := by
        have hjs : j < ops.size := by
          rcases Nat.lt_or_ge j ops.size with h' | h'
          · exact h'
          · rw [Array.getElem?_eq_none h'] at hoj; cases hoj
        have h0 := List.all_eq_true.1 hwt j (List.mem_range.2 hjs)
        rw [hoj, hjun] at h0
        simp only [Bool.or_eq_true, Bool.false_eq_true, false_or, beq_iff_eq] at h0
        rcases h0 with (h0 | h0) | h0
        · exact absurd h0 hji
        · exact h0
        · exfalso
          rw [List.any_eq_true] at h0
          obtain ⟨e, he, h3⟩ := h0
          simp only [Bool.and_eq_true, Bool.or_eq_true, beq_iff_eq] at h3
          have he' : e ∈ oj.after := by simpa using he
          rcases h3.2 with h4 | h4
          · exact hnot e he' h3.1 h4
          · rw [hall e he' h3.1] at h4
            simp at h4
      have h2 := wpOp_load hoj (hR j (by simpa using hjR) oj hoj) (wpOp_putIf hoj (hfree j oj hoj hji hjun hnot) (fun cs b => hsel i oi cs b hi) (fun cs b => hsel j oj cs b hoj) hQ hy h1)
      have hfree' : ∀ k ok, ops[k]? = some ok → k ≠ i → (listed.setIfInBounds j true).getD k true = false →
          (∀ e ∈ ok.after, Region.binds md e = true → e.on ≠ i) → oi.apart ops ok = true := fun k ok hk hki hun hno => by
        refine hfree k ok hk hki ?_ hno
        by_cases hjk : j = k
        · subst hjk; exact hjun
        · rw [getD_set_ne true hjk] at hun; exact hun
      refine wpOp_mono (fun a' w' h3 => ?_) h2
      obtain ⟨rfl, h4, h5, h6⟩ := h3
      refine ⟨h5, ih (listed.setIfInBounds j true) a' (waitsL_set hjR hwt) hfree' (ready_mono hr (Ne.symm hji)) h4 ?_⟩
      rw [Array.setIfInBounds_comm _ _ hji]
      exact h6
/-- a load may be taken first, if all that may come up ahead of it are loads (R) -/
theorem take_load {r : List Oper} {oi : Oper} {v : Value} {fuel : Nat} {listed : Array Bool} {a : Act} {w : World} (R : List Nat) (i : Nat) (hi : ops.toList.drop i = oi :: r)
    (hs : Region.noSelect ops = true) (hf : Region.free md ops listed i = true) (hr : (Region.ready md ops listed).contains i = true) (hR : (R.all fun j => (ops[j]?).all Oper.isLoad) = true) (hw : waitsL md ops R i listed = true)
    (hQ : ∀ c a w, Q (.panic c) (a.put oi.dst v) w → Q (.panic c) a w) (hy : YieldsIf P ops (fun w' => w' = w) oi v a) (hS : S w)
    (h : wpAnyH P md ops Q S fuel (listed.setIfInBounds i true) (a.put oi.dst v) w) : wpAnyH P md ops Q S (fuel + 1) listed a w :=
  wpAnyH_load (getElem?_of_drop hi) (Region.noSelect_spec hs) hQ (fun j hj o ho => by have := List.all_eq_true.1 hR j hj; rw [ho] at this; exact this) w hS fuel listed a hw (Region.free_spec (getElem?_of_drop hi) hf) (by simpa using hr) hy h
end
end Go.Proofs.YtcbfchkhbngpkaaGreatDoor
namespace Go.Proofs.YtcbfchkhbngpkaaGreatDoor
open Go.RowKit

set_option maxRecDepth 100000 in
set_option maxHeartbeats 8000000 in
theorem keyIndex_any (A : Option Addr) (n c : Nat) (l : List (List UInt8)) (x : List UInt8) (w : World) (hr : RdRow w w.heap.size A 32 n (l.map fun z => (z).map u8v)) (hk : ∀ z ∈ l, (z).length = 32) (hx : (x).length = 32) (hn : n ≤ 1000000) :
    Calls Tryz.prog 82 #[.slice A n c, .agg ((x).map u8v).toArray] w fun e w' => e = .returned (.int .i64 (idxN (fun i => l[i]?.any fun z => eqK x z) n)) ∧ Below w.heap.size w w' := by
  have HR := Lib.hid hr
  have HK := Lib.hid hk
  have HX := Lib.hid hx
  have HLN := Lib.hid (show l.length = n from by have h := hr.1; rwa [List.length_map] at h)
  obtain ⟨p, hp⟩ : ∃ p : Nat → Bool, (fun i => l[i]?.any fun z => eqK x z) = p := ⟨_, rfl⟩
  rw [hp]
  have HPP := Lib.hid (show ∀ j z, l[j]? = some z → p j = eqK x z from fun j z h => by rw [← hp]; simp only [h, Option.any_some])
  obtain ⟨cx, hcx⟩ : ∃ z, ((x).map u8v).toArray = z := ⟨_, rfl⟩
  rw [hcx]
  have HCX := Lib.hid hcx
  have HM0 := Lib.hid ((Lows.nil w).alloc 24 cx ((x).map u8v) hcx.symm)
  clear hr hk hx hp hcx
  go_enter Tryz.func82, Tryz.ntmps82
  go_upto_region 1 with fail
  generalize w.alloc (.cells cx 24) = w1 at HM0 ⊢
  obtain ⟨g, hg⟩ : ∃ g, w.heap.size = g := ⟨_, rfl⟩
  have HG := Lib.hid hg
  rw [show blkL w.heap.size 24 ((x).map u8v) = blkL g 24 ((x).map u8v) from by rw [hg]] at HM0
  rw [hg]
  clear hg
  go_wp2_with fail
  go_loopw [8] (fun i wr => ∃ j : Nat, j ≤ n ∧ i = .int .i64 (j : Int) ∧ Lows w [blkL g 24 ((x).map u8v)] wr ∧ ∀ q, q < j → p q = false) (fun i _ => n - (intOf i).toNat)
  case atStart => exact ⟨0, Nat.zero_le _, rfl, HM0.out, fun q h => absurd h (Nat.not_lt_zero _)⟩
  case round =>
    clear HM0
    obtain ⟨j, hj, rfl, hM, hno⟩ := hrel
    have HM := Lib.hid hM
    have HNO := Lib.hid hno
    clear hM hno
    by_cases hjn : j < n
    · have d1 : decide ((j : Int) < (n : Int)) = true := by simp; omega
      obtain ⟨b, off, rfl⟩ := HR.out.addr (by omega)
      obtain ⟨z, hz⟩ : ∃ z, l[j]? = some z := ⟨l[j]'(by rw [HLN.out]; exact hjn), List.getElem?_eq_getElem _⟩
      have HZ := Lib.hid (And.intro hz (HK.out z (List.mem_of_getElem? hz)))
      have hat := HR.out.at j ((z).map u8v) (by rw [List.getElem?_map, hz]; rfl)
      have HAT := Lib.hid (show ∀ W, Below w.heap.size w W → At W b (off + j * 32) ((z).map u8v) from fun W hW => hat.2.mono hW hat.1)
      have heq := fun w' : World => (show _ = Result.ok (eqK x z) w' from key_eq x z HX.out (HK.out z (List.mem_of_getElem? hz)) w')
      have hpj := HPP.out j z hz
      obtain ⟨y, hy⟩ : ∃ y, eqK x z = y := ⟨_, rfl⟩
      rw [HCX.out] at heq
      rw [hy] at heq hpj
      obtain ⟨co, hco⟩ : ∃ c, ((z).map u8v).toArray = c := ⟨_, rfl⟩
      rw [hco] at heq
      have HCO := Lib.hid hco
      have HEQ := Lib.hid heq
      have HPJ := Lib.hid hpj
      clear hz hat heq hpj hy hco
      go_upto_region 4 with fail
      clear d1
      refine wp_region_held_drew (S := fun W' => Lows w [blkL g 24 ((x).map u8v)] W') (by kernel_rfl) (HM.out.drew) (fun hHeld => ?_)
      refine take_first (v := .agg cx) 0 rfl (by kernel_rfl) (by kernel_rfl) (by kernel_rfl) (fun _ _ _ h => h) (by rw [← HCX.out]; exact yields_load_obj (by rfl) 24 (.tmp 3) rfl g 0 rfl _ (fun W hW => (Lows.blk hW 0 rfl).all) _ Tryz.underlying24 rfl (size32 (by rw [List.length_map, HX.out]))) (by assumption) ?_
      (try simp only [Act.put, List.setIfInBounds_toArray, List.set_cons_zero, List.set_cons_succ])
      refine take_first (v := ?_) 1 rfl (by kernel_rfl) (by kernel_rfl) (by kernel_rfl) (fun _ _ _ h => h) (Or.inl ⟨by rfl, ?_⟩) (by assumption) ?_
      rotate_left
      · (intro w hSw; (try dsimp only at hSw); go_simp; try with_reducible rfl)
      (try simp only [Act.put, List.setIfInBounds_toArray, List.set_cons_zero, List.set_cons_succ])
      refine take_first (v := ?_) 2 rfl (by kernel_rfl) (by kernel_rfl) (by kernel_rfl) (fun _ _ _ h => h) (Or.inl ⟨by rfl, ?_⟩) (by assumption) ?_
      rotate_left
      · (intro w hSw; (try dsimp only at hSw); go_simp; try with_reducible rfl)
      (try simp only [Act.put, List.setIfInBounds_toArray, List.set_cons_zero, List.set_cons_succ])
      refine take_first (v := ?_) 3 rfl (by kernel_rfl) (by kernel_rfl) (by kernel_rfl) (fun _ _ _ h => h) (Or.inl ⟨by rfl, ?_⟩) (by assumption) ?_
      rotate_left
      · (intro w hSw; (try dsimp only at hSw); go_simp; try with_reducible rfl)
      (try simp only [Act.put, List.setIfInBounds_toArray, List.set_cons_zero, List.set_cons_succ])
      refine take_first (v := .agg co) 4 rfl (by kernel_rfl) (by kernel_rfl) (by kernel_rfl) (fun _ _ _ h => h) (by rw [← HCO.out]; exact yields_load_obj (by rfl) 24 (.tmp 14) rfl b _ rfl _ (fun W hW => HAT.out W hW.bel) _ Tryz.underlying24 rfl (size32 (by rw [List.length_map, HZ.out.2]))) (by assumption) ?_
      (try simp only [Act.put, List.setIfInBounds_toArray, List.set_cons_zero, List.set_cons_succ])
      refine take_first (v := .bool y) 5 rfl (by kernel_rfl) (by kernel_rfl) (by kernel_rfl) (fun _ _ _ h => h) (yields_cmp_agg false (by rfl) 24 24 11 15 rfl cx co y rfl rfl key_noguard (fun w' => HEQ.out w')) (by assumption) ?_
      (try simp only [Act.put, List.setIfInBounds_toArray, List.set_cons_zero, List.set_cons_succ])
      refine wpAnyH_done (by kernel_rfl) ?_ _
      have hS9 := hHeld
      clear hHeld
      have HS9 := Lib.hid hS9
      clear hS9
      cases y with
      | true =>
        go_wp2
        go_ret
        exact ⟨by rw [idxN_some hjn HPJ.out HNO.out]; rfl, HS9.out.bel⟩
      | false =>
        go_wp2_with fail
        go_roundw
        case rel => exact ⟨j + 1, by omega, by go_num, HS9.out, fun q hq => by
          rcases Nat.lt_or_ge q j with h | h
          · exact HNO.out q h
          · obtain rfl : q = j := by omega
            exact HPJ.out⟩
        case measure => simp [intOf]; omega
    · obtain rfl : j = n := by omega
      have d1 : decide ((j : Int) < (j : Int)) = false := by simp
      have HF := Lib.hid HM.out
      have HX2 := Lib.hid (idxN_none HNO.out)
      clear HM HNO
      go_wp2
      go_ret
      exact ⟨by rw [HX2.out]; rfl, HF.out.bel⟩
set_option maxRecDepth 100000 in
set_option maxHeartbeats 8000000 in
theorem prefIndex_any (A : Option Addr) (n c : Nat) (l : List (AddrM × Int)) (x : AddrM × Int) (w : World) (hr : RdRow w w.heap.size A 18 n (l.map fun z => prefC (z).1 (z).2)) (hk : ∀ z ∈ l, okP z) (hx : okP x) (hn : n ≤ 1000000) :
    Calls Tryz.prog 83 #[.slice A n c, .agg (prefC (x).1 (x).2).toArray] w fun e w' => e = .returned (.int .i64 (idxN (fun i => l[i]?.any fun z => eqP x z) n)) ∧ Below w.heap.size w w' := by
  have HR := Lib.hid hr
  have HK := Lib.hid hk
  have HX := Lib.hid hx
  have HLN := Lib.hid (show l.length = n from by have h := hr.1; rwa [List.length_map] at h)
  obtain ⟨p, hp⟩ : ∃ p : Nat → Bool, (fun i => l[i]?.any fun z => eqP x z) = p := ⟨_, rfl⟩
  rw [hp]
  have HPP := Lib.hid (show ∀ j z, l[j]? = some z → p j = eqP x z from fun j z h => by rw [← hp]; simp only [h, Option.any_some])
  obtain ⟨cx, hcx⟩ : ∃ z, (prefC (x).1 (x).2).toArray = z := ⟨_, rfl⟩
  rw [hcx]
  have HCX := Lib.hid hcx
  have HM0 := Lib.hid ((Lows.nil w).alloc 60 cx (prefC (x).1 (x).2) hcx.symm)
  clear hr hk hx hp hcx
  go_enter Tryz.func83, Tryz.ntmps83
  go_upto_region 1 with fail
  generalize w.alloc (.cells cx 60) = w1 at HM0 ⊢
  obtain ⟨g, hg⟩ : ∃ g, w.heap.size = g := ⟨_, rfl⟩
  have HG := Lib.hid hg
  rw [show blkL w.heap.size 60 (prefC (x).1 (x).2) = blkL g 60 (prefC (x).1 (x).2) from by rw [hg]] at HM0
  rw [hg]
  clear hg
  go_wp2_with fail
  go_loopw [8] (fun i wr => ∃ j : Nat, j ≤ n ∧ i = .int .i64 (j : Int) ∧ Lows w [blkL g 60 (prefC (x).1 (x).2)] wr ∧ ∀ q, q < j → p q = false) (fun i _ => n - (intOf i).toNat)
  case atStart => exact ⟨0, Nat.zero_le _, rfl, HM0.out, fun q h => absurd h (Nat.not_lt_zero _)⟩
  case round =>
    clear HM0
    obtain ⟨j, hj, rfl, hM, hno⟩ := hrel
    have HM := Lib.hid hM
    have HNO := Lib.hid hno
    clear hM hno
    by_cases hjn : j < n
    · have d1 : decide ((j : Int) < (n : Int)) = true := by simp; omega
      obtain ⟨b, off, rfl⟩ := HR.out.addr (by omega)
      obtain ⟨z, hz⟩ : ∃ z, l[j]? = some z := ⟨l[j]'(by rw [HLN.out]; exact hjn), List.getElem?_eq_getElem _⟩
      have HZ := Lib.hid (And.intro hz (HK.out z (List.mem_of_getElem? hz)))
      have hat := HR.out.at j (prefC (z).1 (z).2) (by rw [List.getElem?_map, hz]; rfl)
      have HAT := Lib.hid (show ∀ W, Below w.heap.size w W → At W b (off + j * 18) (prefC (z).1 (z).2) from fun W hW => hat.2.mono hW hat.1)
      have heq := fun w' : World => (show _ = Result.ok (eqP x z) w' from pref_eqd x.1 z.1 x.2 z.2 HX.out.1 (HK.out z (List.mem_of_getElem? hz)).1 HX.out.2 (HK.out z (List.mem_of_getElem? hz)).2 w')
      have hpj := HPP.out j z hz
      obtain ⟨y, hy⟩ : ∃ y, eqP x z = y := ⟨_, rfl⟩
      rw [HCX.out] at heq
      rw [hy] at heq hpj
      obtain ⟨co, hco⟩ : ∃ c, (prefC (z).1 (z).2).toArray = c := ⟨_, rfl⟩
      rw [hco] at heq
      have HCO := Lib.hid hco
      have HEQ := Lib.hid heq
      have HPJ := Lib.hid hpj
      clear hz hat heq hpj hy hco
      go_upto_region 4 with fail
      clear d1
      refine wp_region_held_drew (S := fun W' => Lows w [blkL g 60 (prefC (x).1 (x).2)] W') (by kernel_rfl) (HM.out.drew) (fun hHeld => ?_)
      refine take_first (v := .agg cx) 0 rfl (by kernel_rfl) (by kernel_rfl) (by kernel_rfl) (fun _ _ _ h => h) (by rw [← HCX.out]; exact yields_load_obj (by rfl) 60 (.tmp 3) rfl g 0 rfl _ (fun W hW => (Lows.blk hW 0 rfl).all) _ Tryz.underlying60 rfl (pref_cellsOf' x.1 HX.out.1 x.2)) (by assumption) ?_
      (try simp only [Act.put, List.setIfInBounds_toArray, List.set_cons_zero, List.set_cons_succ])
      refine take_first (v := ?_) 1 rfl (by kernel_rfl) (by kernel_rfl) (by kernel_rfl) (fun _ _ _ h => h) (Or.inl ⟨by rfl, ?_⟩) (by assumption) ?_
      rotate_left
      · (intro w hSw; (try dsimp only at hSw); go_simp; try with_reducible rfl)
      (try simp only [Act.put, List.setIfInBounds_toArray, List.set_cons_zero, List.set_cons_succ])
      refine take_first (v := ?_) 2 rfl (by kernel_rfl) (by kernel_rfl) (by kernel_rfl) (fun _ _ _ h => h) (Or.inl ⟨by rfl, ?_⟩) (by assumption) ?_
      rotate_left
      · (intro w hSw; (try dsimp only at hSw); go_simp; try with_reducible rfl)
      (try simp only [Act.put, List.setIfInBounds_toArray, List.set_cons_zero, List.set_cons_succ])
      refine take_first (v := ?_) 3 rfl (by kernel_rfl) (by kernel_rfl) (by kernel_rfl) (fun _ _ _ h => h) (Or.inl ⟨by rfl, ?_⟩) (by assumption) ?_
      rotate_left
      · (intro w hSw; (try dsimp only at hSw); go_simp; try with_reducible rfl)
      (try simp only [Act.put, List.setIfInBounds_toArray, List.set_cons_zero, List.set_cons_succ])
      refine take_first (v := .agg co) 4 rfl (by kernel_rfl) (by kernel_rfl) (by kernel_rfl) (fun _ _ _ h => h) (by rw [← HCO.out]; exact yields_load_obj (by rfl) 60 (.tmp 14) rfl b _ rfl _ (fun W hW => HAT.out W hW.bel) _ Tryz.underlying60 rfl (pref_cellsOf' z.1 HZ.out.2.1 z.2)) (by assumption) ?_
      (try simp only [Act.put, List.setIfInBounds_toArray, List.set_cons_zero, List.set_cons_succ])
      refine take_first (v := .bool y) 5 rfl (by kernel_rfl) (by kernel_rfl) (by kernel_rfl) (fun _ _ _ h => h) (yields_cmp_agg false (by rfl) 60 60 11 15 rfl cx co y rfl rfl prefix_noguard (fun w' => HEQ.out w')) (by assumption) ?_
      (try simp only [Act.put, List.setIfInBounds_toArray, List.set_cons_zero, List.set_cons_succ])
      refine wpAnyH_done (by kernel_rfl) ?_ _
      have hS9 := hHeld
      clear hHeld
      have HS9 := Lib.hid hS9
      clear hS9
      cases y with
      | true =>
        go_wp2
        go_ret
        exact ⟨by rw [idxN_some hjn HPJ.out HNO.out]; rfl, HS9.out.bel⟩
      | false =>
        go_wp2_with fail
        go_roundw
        case rel => exact ⟨j + 1, by omega, by go_num, HS9.out, fun q hq => by
          rcases Nat.lt_or_ge q j with h | h
          · exact HNO.out q h
          · obtain rfl : q = j := by omega
            exact HPJ.out⟩
        case measure => simp [intOf]; omega
    · obtain rfl : j = n := by omega
      have d1 : decide ((j : Int) < (j : Int)) = false := by simp
      have HF := Lib.hid HM.out
      have HX2 := Lib.hid (idxN_none HNO.out)
      clear HM HNO
      go_wp2
      go_ret
      exact ⟨by rw [HX2.out]; rfl, HF.out.bel⟩
end Go.Proofs.YtcbfchkhbngpkaaGreatDoor
namespace Go.Proofs.YtcbfchkhbngpkaaGreatDoor
open Go.RowKit

theorem ks_under : Tryz.prog.underlying 70 = some (.slice (Tryz.prog.elem 70)) := by kernel_rfl
theorem ks_elem : Tryz.prog.elem 70 = 24 := by kernel_rfl
theorem ks_sizeOf (w : World) : (sizeOf (Tryz.prog.elem 70)).run Tryz.prog w = .ok 32 w := by
  obtain ⟨i0, hi, _, hs, _⟩ := keyInfo
  rw [ks_elem]
  simp [sizeOf, typeInfo, hi, hs]
set_option maxRecDepth 100000 in
theorem ks_h {n : Nat} (A : Option Addr) (c j : Nat) (h2 : j ≤ n) (h3 : n ≤ c) (w : World) : (Instr.sliceAt 70 (.slice A n c) none (some (.int .i64 (j : Int))) none).run Tryz.prog w = .ok (.slice (addrK A 0 c 32) j c) w := by
  rw [run_sliceAt_slice (P := Tryz.prog) (w := w) 70 _ _ _ _ ks_under, run_slice_h (P := Tryz.prog) (w := w) 70 A n c ks_under .i64 j (by omega) (by omega), ks_sizeOf]
  simp only [Result.andThen, sliced, Int.toNat_natCast, Nat.sub_zero]
  rfl
theorem ps_under : Tryz.prog.underlying 49 = some (.slice (Tryz.prog.elem 49)) := by kernel_rfl
theorem ps_elem : Tryz.prog.elem 49 = 60 := by kernel_rfl
theorem ps_sizeOf (w : World) : (sizeOf (Tryz.prog.elem 49)).run Tryz.prog w = .ok 18 w := by
  obtain ⟨i0, hi, _, hs, _⟩ := prefInfo
  rw [ps_elem]
  simp [sizeOf, typeInfo, hi, hs]
set_option maxRecDepth 100000 in
theorem ps_h {n : Nat} (A : Option Addr) (c j : Nat) (h2 : j ≤ n) (h3 : n ≤ c) (w : World) : (Instr.sliceAt 49 (.slice A n c) none (some (.int .i64 (j : Int))) none).run Tryz.prog w = .ok (.slice (addrK A 0 c 18) j c) w := by
  rw [run_sliceAt_slice (P := Tryz.prog) (w := w) 49 _ _ _ _ ps_under, run_slice_h (P := Tryz.prog) (w := w) 49 A n c ps_under .i64 j (by omega) (by omega), ps_sizeOf]
  simp only [Result.andThen, sliced, Int.toNat_natCast, Nat.sub_zero]
  rfl
set_option maxRecDepth 100000 in
theorem ps_l (A : Option Addr) (n c i : Nat) (h2 : i ≤ n) (w : World) : (Instr.sliceAt 49 (.slice A n c) (some (.int .i64 (i : Int))) none none).run Tryz.prog w = .ok (.slice (addrK A i c 18) (n - i) (c - i)) w := by
  rw [run_sliceAt_slice (P := Tryz.prog) (w := w) 49 _ _ _ _ ps_under, run_slice_l (P := Tryz.prog) (w := w) 49 A n c ps_under .i64 i (by omega) (by omega), ps_sizeOf]
  simp only [Result.andThen, sliced, Int.toNat_natCast]
  rfl
end Go.Proofs.YtcbfchkhbngpkaaGreatDoor
namespace Go.Proofs.YtcbfchkhbngpkaaGreatDoor
open Go.RowKit

set_option maxRecDepth 100000 in
set_option maxHeartbeats 8000000 in
theorem keyHas_any (A : Option Addr) (n c : Nat) (l : List (List UInt8)) (x : List UInt8) (w : World) (hr : RdRow w w.heap.size A 32 n (l.map fun z => (z).map u8v)) (hk : ∀ z ∈ l, (z).length = 32) (hx : (x).length = 32) (hn : n ≤ 1000000) :
    Calls Tryz.prog 62 #[.slice A n c, .agg ((x).map u8v).toArray] w fun e w' => e = .returned (.bool (hasN eqK l x n)) ∧ Below w.heap.size w w' := by
  have HX := Lib.hid hx
  have HIX := Lib.hid (fun W (hb : Below w.heap.size w W) => keyIndex_any A n c l x W ((hr.below hb).mono hb.size) hk hx hn)
  have hge := idxN_ge (fun i => l[i]?.any fun z => eqK x z) n
  rw [show (List.range n).any (fun i => l[i]?.any fun z => eqK x z) = hasN eqK l x n from rfl] at hge
  obtain ⟨y, hy⟩ : ∃ y, hasN eqK l x n = y := ⟨_, rfl⟩
  obtain ⟨q, hq⟩ : ∃ q, idxN (fun i => l[i]?.any fun z => eqK x z) n = q := ⟨_, rfl⟩
  have hIX2 : ∀ W, Below w.heap.size w W → Calls Tryz.prog 82 #[.slice A n c, .agg ((x).map u8v).toArray] W fun e W' => e = .returned (.int .i64 q) ∧ Below W.heap.size W W' := fun W hb => by rw [← hq]; exact HIX.out W hb
  rw [hy, hq] at hge
  rw [hy]
  have HI2 := Lib.hid hIX2
  obtain ⟨cx, hcx⟩ : ∃ z, ((x).map u8v).toArray = z := ⟨_, rfl⟩
  rw [hcx]
  have HCX := Lib.hid hcx
  have HM := Lib.hid ((Lows.nil w).alloc 24 cx ((x).map u8v) hcx.symm)
  have HGE := Lib.hid hge
  clear hr hk hx hn hcx hge hIX2 hy hq HIX
  go_enter Tryz.func62, Tryz.ntmps62
  go_upto_region 1 with fail
  generalize w.alloc (.cells cx 24) = w1 at HM ⊢
  obtain ⟨g, hg⟩ : ∃ g, w.heap.size = g := ⟨_, rfl⟩
  rw [show blkL w.heap.size 24 ((x).map u8v) = blkL g 24 ((x).map u8v) from by rw [hg]] at HM
  rw [hg]
  have HG := Lib.hid hg
  clear hg
  go_wp2_with ((with_reducible refine at_op (.load 24 (.tmp 3)) rfl ?_); refine wpList_load_obj rfl 24 (.tmp 3) rfl g 0 rfl ((x).map u8v) (HM.out.blk 0 rfl).all _ Tryz.underlying24 rfl (size32 (by rw [List.length_map, HX.out])) ?_; rw [HCX.out])
  have hcall := HI2.out w1 HM.out.bel
  rw [HCX.out] at hcall
  refine hcall.mono ?_
  rintro e w2 ⟨rfl, hb⟩
  have HB2 := Lib.hid (HM.out.bel.trans (hb.mono HM.out.size))
  clear hb HM HI2 hcall
  have hd : decide (q ≥ 0) = y := HGE.out
  go_wp2
  go_ret
  exact ⟨by first | rfl | rw [← HGE.out]; rfl, HB2.out⟩
set_option maxRecDepth 100000 in
set_option maxHeartbeats 8000000 in
theorem keyRep_any (A : Option Addr) (n c : Nat) (l : List (List UInt8)) (w : World) (hr : RdRow w w.heap.size A 32 n (l.map fun z => (z).map u8v)) (hk : ∀ z ∈ l, (z).length = 32) (hn : n ≤ 1000000) (hnc : n ≤ c) :
    Calls Tryz.prog 34 #[.slice A n c] w fun e w' => e = .returned (.bool (repM eqK l)) ∧ Below w.heap.size w w' := by
  have HR := Lib.hid hr
  have HK := Lib.hid hk
  have HN := Lib.hid (And.intro hn hnc)
  have hll : l.length = n := by have h := hr.1; rwa [List.length_map] at h
  have HLN := Lib.hid hll
  obtain ⟨p, hp⟩ : ∃ p : Nat → Bool, (fun i => l[i]?.any fun x => hasN eqK (l.take i) x i) = p := ⟨_, rfl⟩
  have hrep : repM eqK l = (List.range n).any p := by rw [← hp, ← hll]; rfl
  rw [hrep]
  have HPP := Lib.hid (show ∀ j z, l[j]? = some z → p j = hasN eqK (l.take j) z j from fun j z h => by rw [← hp]; simp only [h, Option.any_some])
  clear hr hk hp hll hrep
  go_enter Tryz.func34, Tryz.ntmps34
  go_wp2_with fail
  go_loopw [7] (fun i wr => ∃ j : Nat, j ≤ n ∧ i = .int .i64 (j : Int) ∧ Lows w [] wr ∧ ∀ q, q < j → p q = false) (fun i _ => n - (intOf i).toNat)
  case atStart => exact ⟨0, Nat.zero_le _, rfl, Lows.nil w, fun q h => absurd h (Nat.not_lt_zero _)⟩
  case round =>
    obtain ⟨j, hj, rfl, hM, hno⟩ := hrel
    have HM := Lib.hid hM
    have HNO := Lib.hid hno
    clear hM hno
    by_cases hjn : j < n
    · have d1 : decide ((j : Int) < (n : Int)) = true := by simp; omega
      obtain ⟨b, off, rfl⟩ := HR.out.addr (by omega)
      obtain ⟨z, hz⟩ : ∃ z, l[j]? = some z := ⟨l[j]'(by rw [HLN.out]; exact hjn), List.getElem?_eq_getElem _⟩
      have HZ := Lib.hid (And.intro hz (HK.out z (List.mem_of_getElem? hz)))
      have hat := HR.out.at j ((z).map u8v) (by rw [List.getElem?_map, hz]; rfl)
      have HAT := Lib.hid (hat.2.mono HM.out.bel hat.1)
      have hpj := HPP.out j z hz
      have hhas := fun W (hb : Below w.heap.size w W) => keyHas_any (addrK (some ⟨b, off, none⟩) 0 c 32) j c (l.take j) z W (by
        rw [List.map_take]
        exact ((HR.out.below hb).mono hb.size).ahead j c hj) (fun q hq => HK.out q (List.mem_of_mem_take hq)) HZ.out.2 (by have := HN.out; omega)
      obtain ⟨y, hy⟩ : ∃ y, hasN eqK (l.take j) z j = y := ⟨_, rfl⟩
      rw [hy] at hpj
      simp only [hy] at hhas
      have HSL := Lib.hid (ks_h (n := n) (some ⟨b, off, none⟩) c j hj HN.out.2)
      obtain ⟨co, hco⟩ : ∃ c, ((z).map u8v).toArray = c := ⟨_, rfl⟩
      rw [hco] at hhas
      have HHAS := Lib.hid hhas
      have HPJ := Lib.hid hpj
      have HCO := Lib.hid hco
      have HRT := Lib.hid (show (∀ q, q < j → p q = false) → y = true → (List.range n).any p = true from fun _ hyt => List.any_eq_true.2 ⟨j, List.mem_range.2 hjn, by rw [hpj, hyt]⟩)
      obtain ⟨zs, hzs⟩ : ∃ z : List Value, [Value.int .u8 0, Value.int .u8 0, Value.int .u8 0, Value.int .u8 0, Value.int .u8 0, Value.int .u8 0, Value.int .u8 0, Value.int .u8 0, Value.int .u8 0, Value.int .u8 0, Value.int .u8 0, Value.int .u8 0, Value.int .u8 0, Value.int .u8 0, Value.int .u8 0, Value.int .u8 0, Value.int .u8 0, Value.int .u8 0, Value.int .u8 0, Value.int .u8 0, Value.int .u8 0, Value.int .u8 0, Value.int .u8 0, Value.int .u8 0, Value.int .u8 0, Value.int .u8 0, Value.int .u8 0, Value.int .u8 0, Value.int .u8 0, Value.int .u8 0, Value.int .u8 0, Value.int .u8 0] = z := ⟨_, rfl⟩
      have HZB := Lib.hid (show Blk (wr.alloc (.cells [Value.int .u8 0, Value.int .u8 0, Value.int .u8 0, Value.int .u8 0, Value.int .u8 0, Value.int .u8 0, Value.int .u8 0, Value.int .u8 0, Value.int .u8 0, Value.int .u8 0, Value.int .u8 0, Value.int .u8 0, Value.int .u8 0, Value.int .u8 0, Value.int .u8 0, Value.int .u8 0, Value.int .u8 0, Value.int .u8 0, Value.int .u8 0, Value.int .u8 0, Value.int .u8 0, Value.int .u8 0, Value.int .u8 0, Value.int .u8 0, Value.int .u8 0, Value.int .u8 0, Value.int .u8 0, Value.int .u8 0, Value.int .u8 0, Value.int .u8 0, Value.int .u8 0, Value.int .u8 0].toArray 24)) wr.heap.size 24 zs from by rw [← hzs]; exact Blk.new wr 24 _)
      have HZL := Lib.hid (show zs.length = 32 from by rw [← hzs]; rfl)
      clear hz hat hhas hpj hy hco hzs
      go_upto_region 3 with fail
      go_upto_region 4 with (first | ((with_reducible refine at_op (.load 24 (.tmp 10)) rfl ?_); refine wpList_load_obj rfl 24 (.tmp 10) rfl b _ rfl _ HAT.out _ Tryz.underlying24 rfl (size32 (by rw [List.length_map, HZ.out.2])) ?_; rw [HCO.out]) | ((with_reducible refine at_op (.store 24 (.tmp 4) (.tmp 11)) rfl ?_); refine wpList_store_obj rfl 24 (.tmp 4) (.tmp 11) rfl wr.heap.size 0 ((z).map u8v) rfl (by show Value.agg co = _; rw [HCO.out]) 24 zs HZB.out (size32 (by rw [List.length_map, HZ.out.2])) (by rw [HZL.out]; simp [HZ.out.2]) (u8v_one z) ?_; intro w2 hb2 hg2))
      rw [setL_all zs _ (by rw [HZL.out]; simp [HZ.out.2])] at hb2
      have hM2 := HM.out.stored hg2 hb2
      replace HM := Lib.hid hM2
      generalize wr.heap.size = g at HM HZB hb2 hg2 hM2 ⊢
      clear d1 hb2 hg2 hM2 HZB HAT
      refine wp_region_held_drew (S := fun W' => Lows w [blkL g 24 ((z).map u8v)] W') (by kernel_rfl) (HM.out.drew) (fun hHeld => ?_)
      replace HM := Lib.hid HM.out.drew
      generalize w2.drew = wd1 at HM hHeld ⊢
      refine take_first (v := ?_) 0 rfl (by kernel_rfl) (by kernel_rfl) (by kernel_rfl) (fun _ _ _ h => h) (Or.inl ⟨by rfl, ?_⟩) (by assumption) ?_
      rotate_left
      · (intro w hSw; (try dsimp only at hSw); go_simp; try with_reducible rfl)
      (try simp only [Act.put, List.setIfInBounds_toArray, List.set_cons_zero, List.set_cons_succ])
      refine take_first (v := ?_) 1 rfl (by kernel_rfl) (by kernel_rfl) (by kernel_rfl) (fun _ _ _ h => h) (Or.inl ⟨by rfl, ?_⟩) (by assumption) ?_
      rotate_left
      · (intro w hSw; (try dsimp only at hSw); go_simp; try with_reducible rfl)
      (try simp only [Act.put, List.setIfInBounds_toArray, List.set_cons_zero, List.set_cons_succ])
      refine take_first (v := ?_) 2 rfl (by kernel_rfl) (by kernel_rfl) (by kernel_rfl) (fun _ _ _ h => h) (Or.inl ⟨by rfl, ?_⟩) (by assumption) ?_
      rotate_left
      · (intro w hSw; (try dsimp only at hSw); have hsl := HSL.out; go_simp; try with_reducible rfl)
      (try simp only [Act.put, List.setIfInBounds_toArray, List.set_cons_zero, List.set_cons_succ])
      refine take_first (v := .agg co) 3 rfl (by kernel_rfl) (by kernel_rfl) (by kernel_rfl) (fun _ _ _ h => h) (by rw [← HCO.out]; exact yields_load_obj (by rfl) 24 (.tmp 4) rfl g 0 rfl _ (fun W hW => (Lows.blk hW 0 rfl).all) _ Tryz.underlying24 rfl (size32 (by rw [List.length_map, HZ.out.2]))) (by assumption) ?_
      (try simp only [Act.put, List.setIfInBounds_toArray, List.set_cons_zero, List.set_cons_succ])
      refine step_one 4 rfl (by kernel_rfl) (fun K hK => ?_)
      clear hHeld
      go_simp
      refine ((HHAS.out wd1 HM.out.bel)).mono ?_
      rintro e wy2 ⟨rfl, hb⟩
      replace HM := Lib.hid (show Lows w [blkL g 24 ((z).map u8v)] wy2 from HM.out.below hb)
      clear hb
      go_wp2_with fail
      refine hK.out _ _ (HM.out) (fun hHeld => ?_)
      clear hK K
      (try simp only [Act.put, List.setIfInBounds_toArray, List.set_cons_zero, List.set_cons_succ])
      refine wpAnyH_done (by kernel_rfl) ?_ _
      clear hHeld
      cases y with
      | true =>
        go_wp2
        go_ret
        exact ⟨by rw [HRT.out HNO.out (by simp)]; rfl, HM.out.bel⟩
      | false =>
        go_wp2_with fail
        go_roundw
        case rel => exact ⟨j + 1, by omega, by go_num, HM.out.tail 0, fun q hq => by
          rcases Nat.lt_or_ge q j with h | h
          · exact HNO.out q h
          · obtain rfl : q = j := by omega
            exact HPJ.out⟩
        case measure => simp [intOf]; omega
    · obtain rfl : j = n := by omega
      have d1 : decide ((j : Int) < (j : Int)) = false := by simp
      have HF := Lib.hid HM.out.bel
      have HX2 := Lib.hid (show (List.range j).any p = false from List.any_eq_false.2 fun x hx => by rw [HNO.out x (List.mem_range.1 hx)]; simp)
      clear HM HNO
      go_wp2
      go_ret
      exact ⟨by rw [HX2.out]; rfl, HF.out⟩
set_option maxRecDepth 100000 in
set_option maxHeartbeats 8000000 in
theorem prefHas_any (A : Option Addr) (n c : Nat) (l : List (AddrM × Int)) (x : AddrM × Int) (w : World) (hr : RdRow w w.heap.size A 18 n (l.map fun z => prefC (z).1 (z).2)) (hk : ∀ z ∈ l, okP z) (hx : okP x) (hn : n ≤ 1000000) :
    Calls Tryz.prog 63 #[.slice A n c, .agg (prefC (x).1 (x).2).toArray] w fun e w' => e = .returned (.bool (hasN eqP l x n)) ∧ Below w.heap.size w w' := by
  have HX := Lib.hid hx
  have HIX := Lib.hid (fun W (hb : Below w.heap.size w W) => prefIndex_any A n c l x W ((hr.below hb).mono hb.size) hk hx hn)
  have hge := idxN_ge (fun i => l[i]?.any fun z => eqP x z) n
  rw [show (List.range n).any (fun i => l[i]?.any fun z => eqP x z) = hasN eqP l x n from rfl] at hge
  obtain ⟨y, hy⟩ : ∃ y, hasN eqP l x n = y := ⟨_, rfl⟩
  obtain ⟨q, hq⟩ : ∃ q, idxN (fun i => l[i]?.any fun z => eqP x z) n = q := ⟨_, rfl⟩
  have hIX2 : ∀ W, Below w.heap.size w W → Calls Tryz.prog 83 #[.slice A n c, .agg (prefC (x).1 (x).2).toArray] W fun e W' => e = .returned (.int .i64 q) ∧ Below W.heap.size W W' := fun W hb => by rw [← hq]; exact HIX.out W hb
  rw [hy, hq] at hge
  rw [hy]
  have HI2 := Lib.hid hIX2
  obtain ⟨cx, hcx⟩ : ∃ z, (prefC (x).1 (x).2).toArray = z := ⟨_, rfl⟩
  rw [hcx]
  have HCX := Lib.hid hcx
  have HM := Lib.hid ((Lows.nil w).alloc 60 cx (prefC (x).1 (x).2) hcx.symm)
  have HGE := Lib.hid hge
  clear hr hk hx hn hcx hge hIX2 hy hq HIX
  go_enter Tryz.func63, Tryz.ntmps63
  go_upto_region 1 with fail
  generalize w.alloc (.cells cx 60) = w1 at HM ⊢
  obtain ⟨g, hg⟩ : ∃ g, w.heap.size = g := ⟨_, rfl⟩
  rw [show blkL w.heap.size 60 (prefC (x).1 (x).2) = blkL g 60 (prefC (x).1 (x).2) from by rw [hg]] at HM
  rw [hg]
  have HG := Lib.hid hg
  clear hg
  go_wp2_with ((with_reducible refine at_op (.load 60 (.tmp 3)) rfl ?_); refine wpList_load_obj rfl 60 (.tmp 3) rfl g 0 rfl (prefC (x).1 (x).2) (HM.out.blk 0 rfl).all _ Tryz.underlying60 rfl (pref_cellsOf' x.1 HX.out.1 x.2) ?_; rw [HCX.out])
  have hcall := HI2.out w1 HM.out.bel
  rw [HCX.out] at hcall
  refine hcall.mono ?_
  rintro e w2 ⟨rfl, hb⟩
  have HB2 := Lib.hid (HM.out.bel.trans (hb.mono HM.out.size))
  clear hb HM HI2 hcall
  have hd : decide (q ≥ 0) = y := HGE.out
  go_wp2
  go_ret
  exact ⟨by first | rfl | rw [← HGE.out]; rfl, HB2.out⟩
set_option maxRecDepth 100000 in
set_option maxHeartbeats 8000000 in
theorem prefRep_any (A : Option Addr) (n c : Nat) (l : List (AddrM × Int)) (w : World) (hr : RdRow w w.heap.size A 18 n (l.map fun z => prefC (z).1 (z).2)) (hk : ∀ z ∈ l, okP z) (hn : n ≤ 1000000) (hnc : n ≤ c) :
    Calls Tryz.prog 35 #[.slice A n c] w fun e w' => e = .returned (.bool (repM eqP l)) ∧ Below w.heap.size w w' := by
  have HR := Lib.hid hr
  have HK := Lib.hid hk
  have HN := Lib.hid (And.intro hn hnc)
  have hll : l.length = n := by have h := hr.1; rwa [List.length_map] at h
  have HLN := Lib.hid hll
  obtain ⟨p, hp⟩ : ∃ p : Nat → Bool, (fun i => l[i]?.any fun x => hasN eqP (l.take i) x i) = p := ⟨_, rfl⟩
  have hrep : repM eqP l = (List.range n).any p := by rw [← hp, ← hll]; rfl
  rw [hrep]
  have HPP := Lib.hid (show ∀ j z, l[j]? = some z → p j = hasN eqP (l.take j) z j from fun j z h => by rw [← hp]; simp only [h, Option.any_some])
  clear hr hk hp hll hrep
  go_enter Tryz.func35, Tryz.ntmps35
  go_wp2_with fail
  go_loopw [7] (fun i wr => ∃ j : Nat, j ≤ n ∧ i = .int .i64 (j : Int) ∧ Lows w [] wr ∧ ∀ q, q < j → p q = false) (fun i _ => n - (intOf i).toNat)
  case atStart => exact ⟨0, Nat.zero_le _, rfl, Lows.nil w, fun q h => absurd h (Nat.not_lt_zero _)⟩
  case round =>
    obtain ⟨j, hj, rfl, hM, hno⟩ := hrel
    have HM := Lib.hid hM
    have HNO := Lib.hid hno
    clear hM hno
    by_cases hjn : j < n
    · have d1 : decide ((j : Int) < (n : Int)) = true := by simp; omega
      obtain ⟨b, off, rfl⟩ := HR.out.addr (by omega)
      obtain ⟨z, hz⟩ : ∃ z, l[j]? = some z := ⟨l[j]'(by rw [HLN.out]; exact hjn), List.getElem?_eq_getElem _⟩
      have HZ := Lib.hid (And.intro hz (HK.out z (List.mem_of_getElem? hz)))
      have hat := HR.out.at j (prefC (z).1 (z).2) (by rw [List.getElem?_map, hz]; rfl)
      have HAT := Lib.hid (hat.2.mono HM.out.bel hat.1)
      have hpj := HPP.out j z hz
      have hhas := fun W (hb : Below w.heap.size w W) => prefHas_any (addrK (some ⟨b, off, none⟩) 0 c 18) j c (l.take j) z W (by
        rw [List.map_take]
        exact ((HR.out.below hb).mono hb.size).ahead j c hj) (fun q hq => HK.out q (List.mem_of_mem_take hq)) HZ.out.2 (by have := HN.out; omega)
      obtain ⟨y, hy⟩ : ∃ y, hasN eqP (l.take j) z j = y := ⟨_, rfl⟩
      rw [hy] at hpj
      simp only [hy] at hhas
      have HSL := Lib.hid (ps_h (n := n) (some ⟨b, off, none⟩) c j hj HN.out.2)
      obtain ⟨co, hco⟩ : ∃ c, (prefC (z).1 (z).2).toArray = c := ⟨_, rfl⟩
      rw [hco] at hhas
      have HHAS := Lib.hid hhas
      have HPJ := Lib.hid hpj
      have HCO := Lib.hid hco
      have HRT := Lib.hid (show (∀ q, q < j → p q = false) → y = true → (List.range n).any p = true from fun _ hyt => List.any_eq_true.2 ⟨j, List.mem_range.2 hjn, by rw [hpj, hyt]⟩)
      obtain ⟨zs, hzs⟩ : ∃ z : List Value, [Value.bool false, Value.int .u8 0, Value.int .u8 0, Value.int .u8 0, Value.int .u8 0, Value.int .u8 0, Value.int .u8 0, Value.int .u8 0, Value.int .u8 0, Value.int .u8 0, Value.int .u8 0, Value.int .u8 0, Value.int .u8 0, Value.int .u8 0, Value.int .u8 0, Value.int .u8 0, Value.int .u8 0, Value.int .i64 0] = z := ⟨_, rfl⟩
      have HZB := Lib.hid (show Blk (wr.alloc (.cells [Value.bool false, Value.int .u8 0, Value.int .u8 0, Value.int .u8 0, Value.int .u8 0, Value.int .u8 0, Value.int .u8 0, Value.int .u8 0, Value.int .u8 0, Value.int .u8 0, Value.int .u8 0, Value.int .u8 0, Value.int .u8 0, Value.int .u8 0, Value.int .u8 0, Value.int .u8 0, Value.int .u8 0, Value.int .i64 0].toArray 60)) wr.heap.size 60 zs from by rw [← hzs]; exact Blk.new wr 60 _)
      have HZL := Lib.hid (show zs.length = 18 from by rw [← hzs]; rfl)
      clear hz hat hhas hpj hy hco hzs
      go_upto_region 3 with fail
      go_upto_region 4 with (first | ((with_reducible refine at_op (.load 60 (.tmp 10)) rfl ?_); refine wpList_load_obj rfl 60 (.tmp 10) rfl b _ rfl _ HAT.out _ Tryz.underlying60 rfl (pref_cellsOf' z.1 HZ.out.2.1 z.2) ?_; rw [HCO.out]) | ((with_reducible refine at_op (.store 60 (.tmp 4) (.tmp 11)) rfl ?_); refine wpList_store_obj rfl 60 (.tmp 4) (.tmp 11) rfl wr.heap.size 0 (prefC (z).1 (z).2) rfl (by show Value.agg co = _; rw [HCO.out]) 60 zs HZB.out (pref_cellsOf' z.1 HZ.out.2.1 z.2) (by rw [HZL.out]; simp [prefC_length z.1 HZ.out.2.1]) (prefC_one _ _) ?_; intro w2 hb2 hg2))
      rw [setL_all zs _ (by rw [HZL.out]; simp [prefC_length z.1 HZ.out.2.1])] at hb2
      have hM2 := HM.out.stored hg2 hb2
      replace HM := Lib.hid hM2
      generalize wr.heap.size = g at HM HZB hb2 hg2 hM2 ⊢
      clear d1 hb2 hg2 hM2 HZB HAT
      refine wp_region_held_drew (S := fun W' => Lows w [blkL g 60 (prefC (z).1 (z).2)] W') (by kernel_rfl) (HM.out.drew) (fun hHeld => ?_)
      replace HM := Lib.hid HM.out.drew
      generalize w2.drew = wd1 at HM hHeld ⊢
      refine take_first (v := ?_) 0 rfl (by kernel_rfl) (by kernel_rfl) (by kernel_rfl) (fun _ _ _ h => h) (Or.inl ⟨by rfl, ?_⟩) (by assumption) ?_
      rotate_left
      · (intro w hSw; (try dsimp only at hSw); go_simp; try with_reducible rfl)
      (try simp only [Act.put, List.setIfInBounds_toArray, List.set_cons_zero, List.set_cons_succ])
      refine take_first (v := ?_) 1 rfl (by kernel_rfl) (by kernel_rfl) (by kernel_rfl) (fun _ _ _ h => h) (Or.inl ⟨by rfl, ?_⟩) (by assumption) ?_
      rotate_left
      · (intro w hSw; (try dsimp only at hSw); go_simp; try with_reducible rfl)
      (try simp only [Act.put, List.setIfInBounds_toArray, List.set_cons_zero, List.set_cons_succ])
      refine take_first (v := ?_) 2 rfl (by kernel_rfl) (by kernel_rfl) (by kernel_rfl) (fun _ _ _ h => h) (Or.inl ⟨by rfl, ?_⟩) (by assumption) ?_
      rotate_left
      · (intro w hSw; (try dsimp only at hSw); have hsl := HSL.out; go_simp; try with_reducible rfl)
      (try simp only [Act.put, List.setIfInBounds_toArray, List.set_cons_zero, List.set_cons_succ])
      refine take_first (v := .agg co) 3 rfl (by kernel_rfl) (by kernel_rfl) (by kernel_rfl) (fun _ _ _ h => h) (by rw [← HCO.out]; exact yields_load_obj (by rfl) 60 (.tmp 4) rfl g 0 rfl _ (fun W hW => (Lows.blk hW 0 rfl).all) _ Tryz.underlying60 rfl (pref_cellsOf' z.1 HZ.out.2.1 z.2)) (by assumption) ?_
      (try simp only [Act.put, List.setIfInBounds_toArray, List.set_cons_zero, List.set_cons_succ])
      refine step_one 4 rfl (by kernel_rfl) (fun K hK => ?_)
      clear hHeld
      go_simp
      refine ((HHAS.out wd1 HM.out.bel)).mono ?_
      rintro e wy2 ⟨rfl, hb⟩
      replace HM := Lib.hid (show Lows w [blkL g 60 (prefC (z).1 (z).2)] wy2 from HM.out.below hb)
      clear hb
      go_wp2_with fail
      refine hK.out _ _ (HM.out) (fun hHeld => ?_)
      clear hK K
      (try simp only [Act.put, List.setIfInBounds_toArray, List.set_cons_zero, List.set_cons_succ])
      refine wpAnyH_done (by kernel_rfl) ?_ _
      clear hHeld
      cases y with
      | true =>
        go_wp2
        go_ret
        exact ⟨by rw [HRT.out HNO.out (by simp)]; rfl, HM.out.bel⟩
      | false =>
        go_wp2_with fail
        go_roundw
        case rel => exact ⟨j + 1, by omega, by go_num, HM.out.tail 0, fun q hq => by
          rcases Nat.lt_or_ge q j with h | h
          · exact HNO.out q h
          · obtain rfl : q = j := by omega
            exact HPJ.out⟩
        case measure => simp [intOf]; omega
    · obtain rfl : j = n := by omega
      have d1 : decide ((j : Int) < (j : Int)) = false := by simp
      have HF := Lib.hid HM.out.bel
      have HX2 := Lib.hid (show (List.range j).any p = false from List.any_eq_false.2 fun x hx => by rw [HNO.out x (List.mem_range.1 hx)]; simp)
      clear HM HNO
      go_wp2
      go_ret
      exact ⟨by rw [HX2.out]; rfl, HF.out⟩
end Go.Proofs.YtcbfchkhbngpkaaGreatDoor
namespace Go.Proofs.YtcbfchkhbngpkaaGreatDoor
open Go.RowKit

/-- the powers of ten, the table of trailing zeros at 16, the error of a number's form, the greatest length of bytealg -/
def LvCf (w : World) : Prop :=
  Lib.TabIs Tryz.prog w "internal/strconv.uint64pow10" .u64 Lib.pow10Tab ∧
  w.cell? ⟨7, 15, none⟩ = some (.int .u8 4) ∧
  (∃ tp p, w.var? Tryz.prog "strconv.ErrSyntax" = some #[.iface tp p]) ∧
  ∃ m, w.cell? ⟨1, 0, none⟩ = some (.int .i64 m)
theorem var_below {P : Program} {w w' : World} {n : String} {cs : Array Value} (h : w.var? P n = some cs) (hb : Below w.heap.size w w') : w'.var? P n = some cs := by
  unfold World.var? at h ⊢
  cases hg : P.globalNamed n with
  | none => rw [hg] at h; cases h
  | some g =>
    rw [hg] at h
    simp only [Option.bind_some] at h ⊢
    cases hx : w.heap[g]? with
    | none => rw [hx] at h; cases h
    | some o =>
      rw [hb.block g (Array.getElem?_eq_some_iff.1 hx).1, hx]
      rw [hx] at h
      exact h
theorem cell_below {w w' : World} {a : Addr} {v : Value} (h : w.cell? a = some v) (hb : Below w.heap.size w w') : w'.cell? a = some v := by
  refine (hb.cell ?_).trans h
  unfold World.cell? at h
  cases hx : w.heap[a.block]? with
  | none => simp [hx] at h
  | some o => exact (Array.getElem?_eq_some_iff.1 hx).1
theorem LvCf.below {w w' : World} (h : LvCf w) (hb : Below w.heap.size w w') : LvCf w' := by
  obtain ⟨h1, h2, ⟨tp, p, h3⟩, m, h4⟩ := h
  exact ⟨var_below h1 hb, cell_below h2 hb, ⟨tp, p, var_below h3 hb⟩, m, cell_below h4 hb⟩
end Go.Proofs.YtcbfchkhbngpkaaGreatDoor
namespace Go.Proofs.YtcbfchkhbngpkaaGreatDoor
open Go.RowKit

def CfFmtEndC (F : Nat) : Prop := ∀ a : AddrM, a.ok → ∀ port : Int, -9223372036854775808 ≤ port → port ≤ 9223372036854775807 → ∀ w : World, LvCf w →
  Calls Tryz.prog F #[.agg (prefC a port).toArray] w fun e w' => e = .returned (.string ⟨(endT a port).toArray⟩) ∧ Below w.heap.size w w'
def CfFmtPrefC (F : Nat) : Prop := ∀ a : AddrM, a.ok → ∀ bits : Int, -9223372036854775808 ≤ bits → bits ≤ 9223372036854775807 → ∀ w : World, LvCf w →
  Calls Tryz.prog F #[.agg (prefC a bits).toArray] w fun e w' => e = .returned (.string ⟨(prefT a bits).toArray⟩) ∧ Below w.heap.size w w'
def CfParsePrefC (F : Nat) : Prop := ∀ l : List UInt8, l.length ≤ 100000 → ∀ w : World, LvCf w →
  Calls Tryz.prog F #[.string ⟨l.toArray⟩] w fun e w' => e = .returned (.tuple #[.agg (prefC (prefP l).1.1 ((prefP l).1.2 : Int)).toArray, .int .i64 ((prefP l).2 : Int)]) ∧ Below w.heap.size w w'

theorem end_cellsOf (a : AddrM) (h : a.ok) (q : Int) : (Tryz.prog.info? 55).map (·.size) = some (prefC a q).length := by
  rw [prefC_length a h q]; kernel_rfl
theorem end_noguard : Tryz.prog.eqGuardType Tryz.prog.depth 55 = false := by kernel_rfl
end Go.Proofs.YtcbfchkhbngpkaaGreatDoor
