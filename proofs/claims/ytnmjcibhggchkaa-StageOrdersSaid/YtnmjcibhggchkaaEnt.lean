/-
  What a walk keeps of the memory that it has made: a list of entries, the newest first, each of which speaks of blocks of its own. No statement is proved here.
-/
import Derived.Test.YtnmjcibhggchkaaBlkMore
namespace Go.Proofs.Ytnmjcibhggchkaa
open Go.RowKit

/-- a fact that speaks of the blocks from lo to hi only -/
structure Ent where
  lo : Nat
  hi : Nat
  P : World → Prop
  loc : ∀ W W' : World, (∀ k, lo ≤ k → k < hi → W'.heap[k]? = W.heap[k]?) → P W → P W'
/-- a block -/
def blkE (g : Nat) (t : TypeId) (cs : List Value) : Ent := ⟨g, g + 1, fun W => Blk W g t cs, fun W W' h hp => by
  unfold Blk at *
  rw [h g (Nat.le_refl _) (by omega)]
  exact hp⟩
/-- bytes that lie somewhere from lo to hi -/
def RdIn (lo hi : Nat) (A : Option Addr) (n : Nat) (l : List UInt8) (W : World) : Prop :=
  l.length = n ∧ (0 < n → ∃ b off, A = some ⟨b, off, none⟩ ∧ lo ≤ b ∧ b < hi ∧ ∀ j (h : j < l.length), W.cell? ⟨b, off + j, none⟩ = some (.int .u8 (l[j].toNat : Int)))
def rdE (lo hi : Nat) (A : Option Addr) (n : Nat) (l : List UInt8) : Ent := ⟨lo, hi, RdIn lo hi A n l, fun W W' h hp => ⟨hp.1, fun hn => by
  obtain ⟨b, off, e, h1, h2, hc⟩ := hp.2 hn
  exact ⟨b, off, e, h1, h2, fun j hj => (World.cell?_of_block (w := W) (h b h1 h2)).trans (hc j hj)⟩⟩⟩
theorem RdIn.rd {lo hi : Nat} {A : Option Addr} {n : Nat} {l : List UInt8} {W : World} (h : RdIn lo hi A n l W) : Rd W hi A n l :=
  ⟨h.1, fun hn => by
    obtain ⟨b, off, e, _, h2, hc⟩ := h.2 hn
    exact ⟨b, off, e, h2, hc⟩⟩
/-- a row of bytes of the call's own -/
def ownE (lo hi : Nat) (v : Value) (n : Nat) (xs : List Value) : Ent := ⟨lo, hi, fun W => W.ownsRow lo 5 1 v n xs ∧ ∀ k, v.ownBlock = some k → k < hi, fun W W' h hp => ⟨⟨hp.1.1, by
  rcases hp.1.2 with h1 | ⟨g, cap, cur, hv, hbg, hg, hr⟩
  · exact .inl h1
  · exact .inr ⟨g, cap, cur, hv, hbg, (h g hbg (hp.2 g (by rw [hv]; rfl))).trans hg, hr⟩⟩, hp.2⟩⟩

/-- the entries, each above the one behind it in the list -/
def MemE (b : Nat) : List Ent → Nat → World → Prop
  | [], top, _ => b ≤ top
  | e :: r, top, W => e.hi ≤ top ∧ e.lo ≤ e.hi ∧ e.P W ∧ MemE b r e.lo W
def Mem (w0 : World) (E : List Ent) (W : World) : Prop := MemE w0.heap.size E W.heap.size W ∧ Below w0.heap.size w0 W
theorem MemE.base {b : Nat} : ∀ {E : List Ent} {top : Nat} {W : World}, MemE b E top W → b ≤ top
  | [], _, _, h => h
  | _ :: _, _, _, h => Nat.le_trans (MemE.base h.2.2.2) (Nat.le_trans h.2.1 h.1)
theorem MemE.keep {b : Nat} : ∀ {E : List Ent} {top top' : Nat} {W W' : World}, MemE b E top W → top ≤ top' → (∀ k, b ≤ k → k < top → W'.heap[k]? = W.heap[k]?) → MemE b E top' W'
  | [], _, _, _, _, h, ht, _ => Nat.le_trans h ht
  | e :: _, _, _, W, W', h, ht, hk => ⟨Nat.le_trans h.1 ht, h.2.1, e.loc W W' (fun k h1 h2 => hk k (Nat.le_trans (MemE.base h.2.2.2) h1) (Nat.lt_of_lt_of_le h2 h.1)) h.2.2.1, MemE.keep h.2.2.2 (Nat.le_refl _) (fun k h1 h2 => hk k h1 (Nat.lt_of_lt_of_le h2 (Nat.le_trans h.2.1 h.1)))⟩
theorem MemE.get {b : Nat} : ∀ {E : List Ent} {top : Nat} {W : World}, MemE b E top W → ∀ (i : Nat) (e : Ent), E[i]? = some e → e.P W
  | [], _, _, _, i, _, he => by simp at he
  | x :: r, _, _, h, 0, e, he => by
    have : x = e := by simpa using he
    exact this ▸ h.2.2.1
  | x :: r, _, _, h, i + 1, e, he => MemE.get h.2.2.2 i e (by simpa using he)
theorem MemE.erase {b : Nat} : ∀ {E : List Ent} {top : Nat} {W : World}, MemE b E top W → ∀ i : Nat, MemE b (E.eraseIdx i) top W
  | [], _, _, h, _ => h
  | _ :: _, _, _, h, 0 => MemE.keep h.2.2.2 (Nat.le_trans h.2.1 h.1) (fun _ _ _ => rfl)
  | _ :: _, _, _, h, i + 1 => ⟨h.1, h.2.1, h.2.2.1, MemE.erase h.2.2.2 i⟩
/-- a place of the list is written anew, within its own blocks -/
theorem MemE.put {b : Nat} : ∀ {E : List Ent} {top : Nat} {W W' : World}, MemE b E top W → ∀ (i : Nat) (e e' : Ent), E[i]? = some e → e'.lo = e.lo → e'.hi = e.hi → (∀ k, k < top → ¬(e.lo ≤ k ∧ k < e.hi) → W'.heap[k]? = W.heap[k]?) → e'.P W' → MemE b (E.set i e') top W'
  | [], _, _, _, _, i, _, _, he, _, _, _, _ => by simp at he
  | x :: r, top, W, W', h, 0, e, e', he, h1, h2, hk, hp => by
    have hx : x = e := by simpa using he
    subst hx
    refine ⟨by rw [h2]; exact h.1, by rw [h1, h2]; exact h.2.1, hp, ?_⟩
    rw [h1]
    exact MemE.keep h.2.2.2 (Nat.le_refl _) (fun k _ hlt => hk k (Nat.lt_of_lt_of_le hlt (Nat.le_trans h.2.1 h.1)) (fun hh => by omega))
  | x :: r, top, W, W', h, i + 1, e, e', he, h1, h2, hk, hp => by
    have he' : r[i]? = some e := by simpa using he
    have hin : e.hi ≤ x.lo := MemE.under h.2.2.2 i e he'
    exact ⟨h.1, h.2.1, x.loc W W' (fun k h3 h4 => hk k (Nat.lt_of_lt_of_le h4 h.1) (fun hh => by omega)) h.2.2.1, MemE.put h.2.2.2 i e e' he' h1 h2 (fun k hlt => hk k (Nat.lt_of_lt_of_le hlt (Nat.le_trans h.2.1 h.1))) hp⟩
where
  MemE.under {b : Nat} : ∀ {E : List Ent} {top : Nat} {W : World}, MemE b E top W → ∀ (i : Nat) (e : Ent), E[i]? = some e → e.hi ≤ top
  | [], _, _, _, i, _, he => by simp at he
  | x :: r, _, _, h, 0, e, he => by
    have : x = e := by simpa using he
    exact this ▸ h.1
  | x :: r, _, _, h, i + 1, e, he => Nat.le_trans (MemE.under h.2.2.2 i e (by simpa using he)) (Nat.le_trans h.2.1 h.1)
theorem MemE.low {b : Nat} : ∀ {E : List Ent} {top : Nat} {W : World}, MemE b E top W → ∀ (i : Nat) (e : Ent), E[i]? = some e → b ≤ e.lo
  | [], _, _, _, i, _, he => by simp at he
  | x :: r, _, _, h, 0, e, he => by
    have : x = e := by simpa using he
    exact this ▸ MemE.base h.2.2.2
  | x :: r, _, _, h, i + 1, e, he => MemE.low h.2.2.2 i e (by simpa using he)

section
variable {w0 W W' : World} {E : List Ent}
theorem Mem.nil (w0 : World) : Mem w0 [] w0 := ⟨Nat.le_refl _, Below.refl _ _⟩
theorem Mem.bel (h : Mem w0 E W) : Below w0.heap.size w0 W := h.2
theorem Mem.size (h : Mem w0 E W) : w0.heap.size ≤ W.heap.size := h.2.size
theorem Mem.get (h : Mem w0 E W) (i : Nat) {e : Ent} (he : E[i]? = some e) : e.P W := h.1.get i e he
theorem Mem.blk (h : Mem w0 E W) (i : Nat) {g : Nat} {t : TypeId} {cs : List Value} (he : E[i]? = some (blkE g t cs)) : Blk W g t cs := h.1.get i _ he
theorem Mem.rd (h : Mem w0 E W) (i : Nat) {lo hi : Nat} {A : Option Addr} {n : Nat} {l : List UInt8} (he : E[i]? = some (rdE lo hi A n l)) : Rd W W.heap.size A n l :=
  (RdIn.rd (h.1.get i _ he)).mono (MemE.put.MemE.under h.1 i _ he)
theorem Mem.erase (h : Mem w0 E W) (i : Nat) : Mem w0 (E.eraseIdx i) W := ⟨h.1.erase i, h.2⟩
theorem Mem.below (h : Mem w0 E W) (hb : Below W.heap.size W W') : Mem w0 E W' := ⟨h.1.keep hb.size (fun k _ hk => hb.block k hk), h.2.trans (hb.mono h.2.size)⟩
theorem Mem.drew (h : Mem w0 E W) : Mem w0 E W.drew := h.below ((Below.refl _ _).drew)
theorem Mem.alloc (h : Mem w0 E W) {g : Nat} (hg : g = W.heap.size) (t : TypeId) (arr : Array Value) (cs : List Value) (ha : arr = cs.toArray) : Mem w0 (blkE g t cs :: E) (W.alloc (.cells arr t)) := by
  subst hg ha
  have hb : Below W.heap.size W (W.alloc (.cells cs.toArray t)) := (Below.refl _ _).alloc (Nat.le_refl _) _
  refine ⟨⟨?_, Nat.le_succ _, Blk.new W t cs, h.1.keep (Nat.le_refl _) (fun k _ hk => hb.block k hk)⟩, h.2.trans (hb.mono h.2.size)⟩
  show W.heap.size + 1 ≤ _
  simp
/-- what a call returns -/
theorem Mem.call (h : Mem w0 E W) (hb : Below W.heap.size W W') (e : Ent) (hl : e.lo = W.heap.size) (hh : e.hi = W'.heap.size) (hp : e.P W') : Mem w0 (e :: E) W' :=
  ⟨⟨by rw [hh]; exact Nat.le_refl _, by rw [hl, hh]; exact hb.size, hp, by rw [hl]; exact h.1.keep (Nat.le_refl _) (fun k _ hk => hb.block k hk)⟩, h.2.trans (hb.mono h.2.size)⟩
theorem Mem.callRd (h : Mem w0 E W) (hb : Below W.heap.size W W') {A : Option Addr} {n c : Nat} {l : List UInt8} (ho : W'.ownsRow W.heap.size 5 1 (.slice A n c) n (l.map u8v)) : Mem w0 (rdE W.heap.size W'.heap.size A n l :: E) W' :=
  h.call hb _ rfl rfl (by
    have hr := Rd.of_own ho
    refine ⟨hr.1, fun hn => ?_⟩
    obtain ⟨b, off, e, h1, hc⟩ := hr.2 hn
    subst e
    exact ⟨b, off, rfl, (ho.lt b rfl).1, h1, hc⟩)
theorem Mem.callOwn (h : Mem w0 E W) (hb : Below W.heap.size W W') {v : Value} {n : Nat} {xs : List Value} (ho : W'.ownsRow W.heap.size 5 1 v n xs) : Mem w0 (ownE W.heap.size W'.heap.size v n xs :: E) W' :=
  h.call hb _ rfl rfl ⟨ho, fun k hk => (ho.lt k hk).2⟩
/-- a store into one block of the list -/
theorem Mem.put (h : Mem w0 E W) (i : Nat) {g : Nat} {t : TypeId} {cs : List Value} (he : E[i]? = some (blkE g t cs)) (cs' : List Value) (hg : W.grownBy W' (some g)) (hb : Blk W' g t cs') : Mem w0 (E.set i (blkE g t cs')) W' := by
  have hsz := hg.size
  refine ⟨(MemE.put h.1 i _ (blkE g t cs') he rfl rfl (fun k hk hne => hg.block k hk (fun e => hne ?_)) hb).keep hg.size (fun _ _ _ => rfl), ?_⟩
  · injection e with e
    subst e
    exact ⟨Nat.le_refl _, Nat.lt_succ_self _⟩
  · exact Below.grown h.2 hg h.2.size (fun k hk => by injection hk with hk; subst hk; exact MemE.low h.1 i _ he)
theorem Mem.setCell (h : Mem w0 E W) (i : Nat) {g : Nat} {t : TypeId} {cs : List Value} (he : E[i]? = some (blkE g t cs)) (j : Nat) (u : Value) : Mem w0 (E.set i (blkE g t (cs.set j u))) (W.setCell ⟨g, j, none⟩ u) := by
  have hw : W.heap.size ≤ (W.setCell ⟨g, j, none⟩ u).heap.size := by simp [World.setCell]
  refine ⟨(MemE.put h.1 i _ (blkE g t (cs.set j u)) he rfl rfl (fun k hk hne => Below.heap_setCell _ _ _ _ (fun e => hne ?_)) ((h.blk i he).set_ j u)).keep hw (fun _ _ _ => rfl), ?_⟩
  · dsimp only at e
    subst e
    exact ⟨Nat.le_refl _, Nat.lt_succ_self _⟩
  · exact h.2.setCell (MemE.low h.1 i _ he) _
/-- an argument's bytes, later -/
theorem Mem.arg (h : Mem w0 E W) {A : Option Addr} {n : Nat} {l : List UInt8} (hr : Rd w0 w0.heap.size A n l) : Rd W W.heap.size A n l := (hr.below h.2).mono h.2.size
end
theorem step_three {P : Program} {md : Region.Mode} {ops : Array Oper} {Q : Exit → Act → World → Prop} {S : World → Prop} {r r' r'' : List Oper} {o o' o'' : Oper} {fuel : Nat} {listed : Array Bool} {a : Act} {w : World} (i j k : Nat) (hi : ops.toList.drop i = o :: r) (hj : ops.toList.drop j = o' :: r') (hk : ops.toList.drop k = o'' :: r'')
    (hr : Region.ready md ops listed = [i, j, k])
    (h : ∀ K' : Act → World → Prop, Shut (∀ a w, S w → (S w → wpAnyH P md ops Q S fuel (listed.setIfInBounds i true) a w) → K' a w) → if Region.wanted o (yielded ops a.tmps) = true then Oper.wp P o a w K' Q else K' (a.put o.dst undef) w)
    (h' : ∀ K' : Act → World → Prop, Shut (∀ a w, S w → (S w → wpAnyH P md ops Q S fuel (listed.setIfInBounds j true) a w) → K' a w) → if Region.wanted o' (yielded ops a.tmps) = true then Oper.wp P o' a w K' Q else K' (a.put o'.dst undef) w)
    (h'' : ∀ K' : Act → World → Prop, Shut (∀ a w, S w → (S w → wpAnyH P md ops Q S fuel (listed.setIfInBounds k true) a w) → K' a w) → if Region.wanted o'' (yielded ops a.tmps) = true then Oper.wp P o'' a w K' Q else K' (a.put o''.dst undef) w) :
    wpAnyH P md ops Q S (fuel + 1) listed a w :=
  wpAnyH_ready hr (by simp) (AllReadyH.cons (getElem?_of_drop hi) h (AllReadyH.cons (getElem?_of_drop hj) h' (AllReadyH.cons (getElem?_of_drop hk) h'' AllReadyH.nil)))
theorem results_blk2 {P : Program} {fn : Func} {p q : Tmp} {ty ty' : TypeId} (h : fn.results = #[.cell p ty, .cell q ty']) (tmps : Array Value) (w : World) (g : Nat) (t : TypeId) (cs : List Value) (n : Nat) (e : TypeId)
    (hp : tmps.getD p undef = .pointer (some ⟨g, 0, none⟩)) (hg : Blk w g t cs) (hu : P.underlying ty = some (.array n e)) (hi : (P.info? ty).map (·.size) = some cs.length)
    (g' : Nat) (t' : TypeId) (cs' : List Value) (n' : Nat) (e' : TypeId)
    (hp2 : tmps.getD q undef = .pointer (some ⟨g', 0, none⟩)) (hg2 : Blk w g' t' cs') (hu2 : P.underlying ty' = some (.array n' e')) (hi2 : (P.info? ty').map (·.size) = some cs'.length) :
    (results fn tmps).run P w = .ok (.tuple #[.agg cs.toArray, .agg cs'.toArray]) w := by
  have hp' : tmps[p]?.getD undef = .pointer (some ⟨g, 0, none⟩) := by simpa using hp
  have hq' : tmps[q]?.getD undef = .pointer (some ⟨g', 0, none⟩) := by simpa using hp2
  simp [results, h, hp', hq', asAddr, run_loadVar_row w g t ty cs.toArray (0, 0) _ hg hu rfl (by simpa using hi), run_loadVar_row w g' t' ty' cs'.toArray (0, 0) _ hg2 hu2 rfl (by simpa using hi2)]
/-- the entries lie below B, whatever lies above it -/
def MemB (w0 : World) (B : Nat) (E : List Ent) (W : World) : Prop := MemE w0.heap.size E B W ∧ Below w0.heap.size w0 W ∧ B ≤ W.heap.size
section
variable {w0 W W' : World} {B : Nat} {E : List Ent}
theorem Mem.fix (h : Mem w0 E W) : MemB w0 W.heap.size E W := ⟨h.1, h.2, Nat.le_refl _⟩
theorem MemB.mem (h : MemB w0 B E W) : Mem w0 E W := ⟨h.1.keep h.2.2 (fun _ _ _ => rfl), h.2.1⟩
theorem MemB.below (h : MemB w0 B E W) (hb : Below B W W') : MemB w0 B E W' := ⟨h.1.keep (Nat.le_refl _) (fun k _ hk => hb.block k hk), h.2.1.trans (hb.mono h.1.base), Nat.le_trans h.2.2 hb.size⟩
/-- behind an append to a row that lies above -/
theorem MemB.grown (h : MemB w0 B E W) {v : Value} {e n : Nat} {xs : List Value} (ho : W.ownsRow B e 1 v n xs) (hg : W.grownBy W' v.ownBlock) : MemB w0 B E W' := h.below ((Below.refl _ _).grown hg h.2.2 (own_from ho))
/-- the row that lies above becomes an entry -/
theorem MemB.row (h : MemB w0 B E W) {A : Option Addr} {n c : Nat} {l : List UInt8} (ho : W.ownsRow B 5 1 (.slice A n c) n (l.map u8v)) : Mem w0 (rdE B W.heap.size A n l :: E) W :=
  ⟨⟨Nat.le_refl _, h.2.2, by
    have hr := Rd.of_own ho
    refine ⟨hr.1, fun hn => ?_⟩
    obtain ⟨b, off, e, h1, hc⟩ := hr.2 hn
    subst e
    exact ⟨b, off, rfl, (ho.lt b rfl).1, h1, hc⟩, h.1⟩, h.2.1⟩
theorem MemB.arg (h : MemB w0 B E W) {A : Option Addr} {n : Nat} {l : List UInt8} (hr : Rd w0 w0.heap.size A n l) : Rd W W.heap.size A n l := (hr.below h.2.1).mono h.2.1.size
end
end Go.Proofs.Ytnmjcibhggchkaa
