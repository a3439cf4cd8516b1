/-
  The mathematics of timers in order: what Set, Cancel and Due give of one another. No function of the program is named here. What a walk keeps of the memory that it has made, where the call changes one block of its caller's. The contracts of the choices that the statements are made of: Left, Next. Pieces of a slice of bytes whose address is not known: what x[i:j] and x[i:] give, and what they read as. A row that was made is a block; bytes that were read stay. The choices that the statements are made of: New. The choices that the statements are made of, at a world. Rows of objects, where one block is written. Building an array of arrays, stated over a list of its parts. The contract of the laws' made. Calls of the functions of timers, with named results. The example of the chapter on timers: begun of the laws. Lists of timers that are equal: same of the laws. The contract of the reference's Has. The contract of the reference's Due. No statement is proved here.
-/
import Derived.Deep.DeepCutAuto
import Derived.Outline
import Derived.RegionTactic
import Derived.Test.YtffeecaidkeepaaWheelChangesB2
namespace Go.Proofs.Ytffeecaidkeepaa
open Go.RowKit

/-- timers in order, permitted, no two of one peer and kind -/
def WhGood (l : List TimerM) : Prop := (∀ t ∈ l, t.ok ∧ permT t = true) ∧ l.Pairwise (fun a b => lessT a b = true) ∧ l.Pairwise (fun a b => forT a.peer a.kind b = false)
theorem WhGood.nil : WhGood [] := ⟨by simp, List.Pairwise.nil, List.Pairwise.nil⟩
theorem WhGood.ok {l : List TimerM} (h : WhGood l) : ∀ t ∈ l, t.ok := fun t ht => (h.1 t ht).1
theorem forT_sym (a b : TimerM) : forT a.peer a.kind b = forT b.peer b.kind a := by
  unfold forT
  rw [show decide (b.peer = a.peer) = decide (a.peer = b.peer) from decide_eq_decide.2 eq_comm, show decide (b.kind = a.kind) = decide (a.kind = b.kind) from decide_eq_decide.2 eq_comm]
theorem cancel_out {l : List TimerM} {k : List UInt8} {d : Int} {x : TimerM} (h : x ∈ cancelT l k d) : forT k d x = false := by
  have := (List.mem_filter.1 h).2
  simpa using this
theorem place_split (r : List TimerM) (t : TimerM) (hp : r.Pairwise (fun a b => lessT a b = true)) : (∀ x ∈ r.take (placeT r t), lessT t x = false) ∧ ∀ x ∈ r.drop (placeT r t), lessT t x = true := by
  unfold placeT
  cases h : r.findIdx? fun x => lessT t x with
  | none =>
    have hn := List.findIdx?_eq_none_iff.1 h
    simp only [Option.getD_none]
    rw [List.take_length, List.drop_length]
    exact ⟨hn, fun x hx => by cases hx⟩
  | some j =>
    obtain ⟨hj, h1, h2⟩ := List.findIdx?_eq_some_iff_getElem.1 h
    simp only [Option.getD_some]
    refine ⟨fun x hx => ?_, fun x hx => ?_⟩
    · obtain ⟨i, hi, rfl⟩ := List.getElem_of_mem hx
      rw [List.length_take] at hi
      rw [List.getElem_take]
      simpa using h2 i (by omega)
    · rw [List.drop_eq_getElem_cons hj] at hx
      rcases List.mem_cons.1 hx with rfl | hx
      · exact h1
      · have hpd : (r.drop j).Pairwise (fun a b => lessT a b = true) := hp.sublist (List.drop_sublist j r)
        rw [List.drop_eq_getElem_cons hj] at hpd
        exact lessT_trans h1 ((List.pairwise_cons.1 hpd).1 x hx)
theorem set_split (l : List TimerM) (t : TimerM) : ∃ A B, setT l t = A ++ t :: B ∧ cancelT l t.peer t.kind = A ++ B ∧ (WhGood l → (∀ x ∈ A, lessT t x = false) ∧ ∀ x ∈ B, lessT t x = true) :=
  ⟨(cancelT l t.peer t.kind).take (placeT (cancelT l t.peer t.kind) t), (cancelT l t.peer t.kind).drop (placeT (cancelT l t.peer t.kind) t), rfl, (List.take_append_drop _ _).symm, fun h => place_split _ t (h.2.1.sublist List.filter_sublist)⟩
theorem good_cancel {l : List TimerM} (h : WhGood l) (k : List UInt8) (d : Int) : WhGood (cancelT l k d) :=
  ⟨fun t ht => h.1 t (List.mem_filter.1 ht).1, h.2.1.sublist List.filter_sublist, h.2.2.sublist List.filter_sublist⟩
theorem good_set {l : List TimerM} {t : TimerM} (h : WhGood l) (ho : t.ok) (hp : permT t = true) : WhGood (setT l t) := by
  obtain ⟨A, B, h1, h2, h3⟩ := set_split l t
  obtain ⟨hA, hB⟩ := h3 h
  have hg := good_cancel h t.peer t.kind
  have hout : ∀ x ∈ A ++ B, forT t.peer t.kind x = false := fun x hx => cancel_out (h2 ▸ hx)
  rw [h2] at hg
  rw [h1]
  obtain ⟨g1, g2, g3⟩ := hg
  rw [List.pairwise_append] at g2 g3
  refine ⟨fun x hx => ?_, ?_, ?_⟩
  · rcases List.mem_append.1 hx with hx | hx
    · exact g1 x (List.mem_append_left _ hx)
    · rcases List.mem_cons.1 hx with rfl | hx
      · exact ⟨ho, hp⟩
      · exact g1 x (List.mem_append_right _ hx)
  · rw [List.pairwise_append]
    refine ⟨g2.1, List.pairwise_cons.2 ⟨hB, g2.2.1⟩, fun a ha c hc => ?_⟩
    rcases List.mem_cons.1 hc with rfl | hc
    · have ha2 := g1 a (List.mem_append_left _ ha)
      rcases lessT_total ho.2.1 ha2.1.2.1 (hout a (List.mem_append_left _ ha)) with h | h
      · rw [hA a ha] at h; cases h
      · exact h
    · exact g2.2.2 a ha c hc
  · rw [List.pairwise_append]
    refine ⟨g3.1, List.pairwise_cons.2 ⟨fun x hx => hout x (List.mem_append_right _ hx), g3.2.1⟩, fun a ha c hc => ?_⟩
    rcases List.mem_cons.1 hc with rfl | hc
    · rw [forT_sym]; exact hout a (List.mem_append_left _ ha)
    · exact g3.2.2 a ha c hc
theorem good_valid {l : List TimerM} (h : WhGood l) : validT l = true := by
  refine allT_good fun i hi => ?_
  have hg : l[i]? = some l[i] := List.getElem?_eq_getElem hi
  have hp := (h.1 l[i] (List.getElem_mem hi)).2
  have hh : hasT (l.take i) l[i].peer l[i].kind = false := by
    refine hasT_none fun q x hq hx => ?_
    rw [List.length_take] at hq
    rw [List.getElem?_take] at hx
    split at hx
    · obtain ⟨hql, rfl⟩ := List.getElem?_eq_some_iff.1 hx
      rw [forT_sym]
      exact List.pairwise_iff_getElem.1 h.2.2 q i hql hi (by omega)
    · cases hx
  cases i with
  | zero => rw [stepT_zero hg, hp, hh]; rfl
  | succ k =>
    rw [stepT_succ (List.getElem?_eq_getElem (show k < l.length by omega)) hg, hp, hh, List.pairwise_iff_getElem.1 h.2.1 k (k + 1) (by omega) hi (by omega)]
    rfl
end Go.Proofs.Ytffeecaidkeepaa
namespace Go.Proofs.Ytffeecaidkeepaa
open Go.RowKit

theorem grownD {a w : World} {row : Option Nat} (h : a.grownBy w row) : a.grownBy w.drew row := ⟨h.os, h.tape, h.output, h.size, h.block⟩
theorem grownB {a w w' : World} {row : Option Nat} (h : a.grownBy w row) (hb : Below w.heap.size w w') : a.grownBy w' row :=
  grownBy_trans h ⟨hb.os, hb.tape, hb.output, hb.size, fun k hk _ => hb.block k hk⟩
theorem grown_refl (w : World) (k : Option Nat) : w.grownBy w k := ⟨rfl, rfl, rfl, Nat.le_refl _, fun _ _ _ => rfl⟩
/-- a change above w is none below it -/
theorem grownA {w W W' : World} {g : Nat} {row : Option Nat} (h : w.grownBy W (some g)) (hb : W.grownBy W' row) (hr : ∀ k, row = some k → w.heap.size ≤ k) : w.grownBy W' (some g) :=
  ⟨hb.os.trans h.os, hb.tape.trans h.tape, hb.output.trans h.output, Nat.le_trans h.size hb.size, fun k hk hne => (hb.block k (Nat.lt_of_lt_of_le hk h.size) (fun e => absurd (hr k e.symm) (by omega))).trans (h.block k hk hne)⟩
/-- the entries, and that of what was there ahead of w0 only the block g has changed -/
def MemG (w0 : World) (g : Nat) (E : List Ent) (W : World) : Prop := MemE w0.heap.size E W.heap.size W ∧ w0.grownBy W (some g)
section
variable {w0 W W' : World} {g : Nat} {E : List Ent}
theorem MemG.nil (w0 : World) (g : Nat) : MemG w0 g [] w0 := ⟨Nat.le_refl _, grown_refl _ _⟩
theorem MemG.get (h : MemG w0 g E W) (i : Nat) {e : Ent} (he : E[i]? = some e) : e.P W := h.1.get i e he
theorem MemG.blk (h : MemG w0 g E W) (i : Nat) {b : Nat} {t : TypeId} {cs : List Value} (he : E[i]? = some (blkE b t cs)) : Blk W b t cs := h.1.get i _ he
theorem MemG.rd (h : MemG w0 g E W) (i : Nat) {lo hi : Nat} {A : Option Addr} {n : Nat} {l : List UInt8} (he : E[i]? = some (rdE lo hi A n l)) : Rd W W.heap.size A n l :=
  (RdIn.rd (h.1.get i _ he)).mono (MemE.put.MemE.under h.1 i _ he)
theorem MemG.below (h : MemG w0 g E W) (hb : Below W.heap.size W W') : MemG w0 g E W' := ⟨h.1.keep hb.size (fun k _ hk => hb.block k hk), grownB h.2 hb⟩
theorem MemG.drew (h : MemG w0 g E W) : MemG w0 g E W.drew := h.below ((Below.refl _ _).drew)
/-- the block g changes -/
theorem MemG.next (h : MemG w0 g E W) (hg : g < w0.heap.size) (hb : W.grownBy W' (some g)) : MemG w0 g E W' :=
  ⟨h.1.keep hb.size (fun k h1 hk => hb.block k hk (fun e => by injection e with e; omega)), grownBy_trans h.2 hb⟩
theorem MemG.alloc (h : MemG w0 g E W) {b : Nat} (hb0 : b = W.heap.size) (t : TypeId) (arr : Array Value) (cs : List Value) (ha : arr = cs.toArray) : MemG w0 g (blkE b t cs :: E) (W.alloc (.cells arr t)) := by
  subst hb0 ha
  have hb : Below W.heap.size W (W.alloc (.cells cs.toArray t)) := (Below.refl _ _).alloc (Nat.le_refl _) _
  refine ⟨⟨?_, Nat.le_succ _, Blk.new W t cs, h.1.keep (Nat.le_refl _) (fun k _ hk => hb.block k hk)⟩, grownB h.2 hb⟩
  show W.heap.size + 1 ≤ _
  simp
theorem MemG.call (h : MemG w0 g E W) (hb : Below W.heap.size W W') (e : Ent) (hl : e.lo = W.heap.size) (hh : e.hi = W'.heap.size) (hp : e.P W') : MemG w0 g (e :: E) W' :=
  ⟨⟨by rw [hh]; exact Nat.le_refl _, by rw [hl, hh]; exact hb.size, hp, by rw [hl]; exact h.1.keep (Nat.le_refl _) (fun k _ hk => hb.block k hk)⟩, grownB h.2 hb⟩
theorem MemG.put (h : MemG w0 g E W) (i : Nat) {b : Nat} {t : TypeId} {cs : List Value} (he : E[i]? = some (blkE b t cs)) (cs' : List Value) (hg : W.grownBy W' (some b)) (hb : Blk W' b t cs') : MemG w0 g (E.set i (blkE b t cs')) W' := by
  have hlow : w0.heap.size ≤ b := MemE.low h.1 i _ he
  refine ⟨(MemE.put h.1 i _ (blkE b t cs') he rfl rfl (fun k hk hne => hg.block k hk (fun e => hne ?_)) hb).keep hg.size (fun _ _ _ => rfl), grownA h.2 hg (fun k hk => by injection hk with hk; omega)⟩
  injection e with e
  subst e
  exact ⟨Nat.le_refl _, Nat.lt_succ_self _⟩
theorem MemG.setCell (h : MemG w0 g E W) (i : Nat) {b : Nat} {t : TypeId} {cs : List Value} (he : E[i]? = some (blkE b t cs)) (j : Nat) (u : Value) : MemG w0 g (E.set i (blkE b t (cs.set j u))) (W.setCell ⟨b, j, none⟩ u) :=
  h.put i he _ ⟨rfl, rfl, rfl, by simp [World.setCell], fun k _ hne => Below.heap_setCell _ _ _ _ (fun e => hne (by rw [e]))⟩ ((h.blk i he).set_ j u)
end
end Go.Proofs.Ytffeecaidkeepaa
namespace Go.Proofs.Ytffeecaidkeepaa
open Go.RowKit

/-- the list of choices that lies at A, p of them taken -/
def codesC (A : Option Addr) (n c p : Nat) : List Value := [.slice A n c, .int .i64 (p : Int)]
def nextV (l : List UInt8) (p m : Nat) : Nat := if p < l.length ∧ 1 ≤ m then (l.getD p 0).toNat % m else 0
def nextP (l : List UInt8) (p m : Nat) : Nat := if p < l.length ∧ 1 ≤ m then p + 1 else p
theorem nextP_le (l : List UInt8) (p m : Nat) (h : p ≤ l.length) : nextP l p m ≤ l.length := by unfold nextP; split <;> omega
theorem nextV_lt (l : List UInt8) (p m : Nat) (h : 1 ≤ m) : nextV l p m < m := by unfold nextV; split; exact Nat.mod_lt _ h; omega
set_option maxRecDepth 100000 in
theorem caseLeft_any (g : Nat) (A : Option Addr) (n c : Nat) (p : Nat) (w : World) (hg : Blk w g 63 (codesC A n c p)) :
    Calls Try.prog 36 #[.pointer (some ⟨g, 0, none⟩)] w fun e w' => e = .returned (.bool (decide (p < n))) ∧ Below w.heap.size w w' := by
  have HG := Lib.hid hg
  have hd : decide ((p : Int) < (n : Int)) = decide (p < n) := by simp
  obtain ⟨q, hq⟩ : ∃ q, decide (p < n) = q := ⟨_, rfl⟩
  rw [hq] at hd
  have HQ := Lib.hid hq
  clear hg hq
  go_enter Try.func36, Try.ntmps36
  have f0 := HG.out.cell 0
  have f1 := HG.out.cell 1
  rw [show (codesC A n c p)[0]? = some (.slice A n c) from rfl] at f0
  rw [show (codesC A n c p)[1]? = some (.int .i64 (p : Int)) from rfl] at f1
  go_upto_region 1 with fail
  go_region
  go_wp2
  go_ret
  exact ⟨by rw [HQ.out]; rfl, (Below.refl _ _).drew⟩
set_option maxRecDepth 100000 in
set_option maxHeartbeats 2000000 in
theorem caseNext_any (g : Nat) (A : Option Addr) (n c : Nat) (l : List UInt8) (p : Nat) (hn : n ≤ 100000) (hp : p ≤ n) (m : Nat) (hm : m ≤ 1000000) (B : Nat) (hB : B ≤ g) (w : World) (hg : Blk w g 63 (codesC A n c p)) (hr : Rd w B A n l) :
    Calls Try.prog 25 #[.pointer (some ⟨g, 0, none⟩), .int .i64 (m : Int)] w fun e w' => e = .returned (.int .i64 (nextV l p m : Int)) ∧ Blk w' g 63 (codesC A n c (nextP l p m)) ∧ w.grownBy w' (some g) := by
  have hl := hr.1
  have LC := caseLeft_any g A n c p w hg
  have HG := Lib.hid hg
  have HR := Lib.hid hr
  have HLC := Lib.hid LC
  clear hg hr LC
  by_cases hpn : p < n
  · by_cases hm1 : 1 ≤ m
    · have HV := Lib.hid (show nextV l p m = (l.getD p 0).toNat % m ∧ nextP l p m = p + 1 from ⟨if_pos ⟨by omega, hm1⟩, if_pos ⟨by omega, hm1⟩⟩)
      obtain ⟨b, off, rfl, hb0, _⟩ := HR.out.at_ (by omega)
      go_enter Try.func25, Try.ntmps25
      go_upto_region 1 with fail
      go_wp2_with fail
      refine HLC.out.mono ?_
      rintro e w1 ⟨rfl, hb⟩
      rw [decide_eq_true hpn]
      have HG1 := Lib.hid (HG.out.below hb HG.out.lt)
      have HR1 := Lib.hid ((HR.out.mono (Nat.le_trans hB (Nat.le_of_lt HG.out.lt))).below hb)
      have HW := Lib.hid (grownB (grown_refl w (some g)) hb)
      clear hb HLC
      have dm : decide ((m : Int) < 1) = false := by simp; omega
      have f0 := HG1.out.cell 0
      have f1 := HG1.out.cell 1
      rw [show (codesC (some ⟨b, off, none⟩) n c p)[0]? = some (.slice (some ⟨b, off, none⟩) n c) from rfl] at f0
      rw [show (codesC (some ⟨b, off, none⟩) n c p)[1]? = some (.int .i64 (p : Int)) from rfl] at f1
      have z1 := HG1.out.frozen 1
      have hw1 : IntKind.i64.wrap ((p : Int) + 1) = ((p + 1 : Nat) : Int) := by rw [IntWalk.i64_in _ (by omega)]; omega
      obtain ⟨p1, hp1⟩ : ∃ q, p + 1 = q := ⟨_, rfl⟩
      rw [hp1] at hw1
      have hs := HG1.out.set_ 1 (.int .i64 (p1 : Int))
      have HS := Lib.hid (show Blk (w1.setCell ⟨g, 1, none⟩ (.int .i64 (p1 : Int))) g 63 (codesC (some ⟨b, off, none⟩) n c p1) from hs)
      have HW2 := Lib.hid (show w.grownBy (w1.setCell ⟨g, 1, none⟩ (.int .i64 (p1 : Int))) (some g) from grown_set HW.out 1 _)
      have hfx : (w1.setCell ⟨g, 1, none⟩ (.int .i64 (p1 : Int))).cell? ⟨b, off + p, none⟩ = some (.int .u8 ((l.getD p 0).toNat : Int)) := by
        rw [World.cell?_of_block (w := w1) (Below.heap_setCell _ _ _ _ (by dsimp only; omega))]
        exact HR1.out.byt p hpn
      have HFX := Lib.hid hfx
      clear hs hfx
      go_upto_region 4 with fail
      clear f0 f1 z1 dm
      (try simp only [hw1])
      generalize w1.setCell ⟨g, 1, none⟩ (.int .i64 (p1 : Int)) = w2 at HS HW2 HFX ⊢
      clear hw1
      have f0 := HS.out.cell 0
      have f1 := HS.out.cell 1
      rw [show (codesC (some ⟨b, off, none⟩) n c p1)[0]? = some (.slice (some ⟨b, off, none⟩) n c) from rfl] at f0
      rw [show (codesC (some ⟨b, off, none⟩) n c p1)[1]? = some (.int .i64 (p1 : Int)) from rfl] at f1
      have fx := HFX.out
      generalize l.getD p 0 = x at fx HV
      have hw2 : IntKind.i64.wrap ((p1 : Int) - 1) = (p : Int) := by rw [IntWalk.i64_in _ (by omega)]; omega
      have hw3 : (p1 : Int) - 1 = (p : Int) := by omega
      have hw4 : IntKind.i64.wrap (p : Int) = (p : Int) := IntWalk.i64_in _ (by omega)
      have hx256 := x.toNat_lt
      have hw5 : IntKind.i64.wrap (x.toNat : Int) = (x.toNat : Int) := IntWalk.i64_in _ (by omega)
      have bp : (p : Int) < (n : Int) := by omega
      have hmz : ((m : Int) == 0) = false := by rw [beq_eq_false_iff_ne]; omega
      have hmz' : ¬ (m : Int) = 0 := by omega
      obtain ⟨r, hr⟩ : ∃ r, x.toNat % m = r := ⟨_, rfl⟩
      have hmod : (x.toNat : Int).tmod (m : Int) = (r : Int) := by rw [← hr, Int.tmod_eq_emod_of_nonneg (by omega), Int.natCast_emod]
      have hmod2 : (x.toNat : Int) % (m : Int) = (r : Int) := by rw [← hr, Int.natCast_emod]
      rw [hr, hp1] at HV
      have hwr : IntKind.i64.wrap (r : Int) = (r : Int) := IntWalk.i64_in _ (by rw [← hr]; have := Nat.mod_le x.toNat m; omega)
      clear hr
      go_region
      go_wp2
      go_ret
      exact ⟨by rw [HV.out.1]; rfl, by rw [HV.out.2]; exact HS.out.drew, grownD HW2.out⟩
    · have HV := Lib.hid (show nextV l p m = 0 ∧ nextP l p m = p from ⟨if_neg (by omega), if_neg (by omega)⟩)
      go_enter Try.func25, Try.ntmps25
      go_upto_region 1 with fail
      go_wp2_with fail
      refine HLC.out.mono ?_
      rintro e w1 ⟨rfl, hb⟩
      rw [decide_eq_true hpn]
      have HG1 := Lib.hid (HG.out.below hb HG.out.lt)
      have HW := Lib.hid (grownB (grown_refl w (some g)) hb)
      clear hb HLC
      have dm : decide ((m : Int) < 1) = true := by simp; omega
      go_wp2
      go_ret
      exact ⟨by rw [HV.out.1]; rfl, by rw [HV.out.2]; exact HG1.out, HW.out⟩
  · have HV := Lib.hid (show nextV l p m = 0 ∧ nextP l p m = p from ⟨if_neg (by omega), if_neg (by omega)⟩)
    go_enter Try.func25, Try.ntmps25
    go_upto_region 1 with fail
    go_wp2_with fail
    refine HLC.out.mono ?_
    rintro e w1 ⟨rfl, hb⟩
    rw [decide_eq_false hpn]
    have HG1 := Lib.hid (HG.out.below hb HG.out.lt)
    have HW := Lib.hid (grownB (grown_refl w (some g)) hb)
    clear hb HLC
    go_wp2
    go_ret
    exact ⟨by rw [HV.out.1]; rfl, by rw [HV.out.2]; exact HG1.out, HW.out⟩
end Go.Proofs.Ytffeecaidkeepaa
namespace Go.Proofs.Ytffeecaidkeepaa
open Go.RowKit

/-- the address behind i elements, as the model keeps it -/
def addrOf (A : Option Addr) (i c : Nat) : Option Addr := if c = i then A else A.map (·.add (i * 1))
theorem Rd.behind {W : World} {B n : Nat} {A : Option Addr} {l : List UInt8} (h : Rd W B A n l) (i c : Nat) (hi : i ≤ n) (hc : n ≤ c) : Rd W B (addrOf A i c) (n - i) (l.drop i) := by
  unfold addrOf
  by_cases e : c = i
  · have e0 : n - i = 0 := by omega
    rw [if_pos e, e0, List.drop_of_length_le (by have := h.1; omega)]
    exact Rd.nil _ _ _
  · rw [if_neg e]
    rcases Nat.eq_zero_or_pos (n - i) with h0 | h0
    · rw [h0, List.drop_of_length_le (by have := h.1; omega)]
      exact Rd.nil _ _ _
    · obtain ⟨b, off, rfl, _, _⟩ := h.2 (by omega)
      rw [Option.map_some, Go.WideShapes.add_plain, Nat.mul_one]
      exact h.drop i b off rfl hi
end Go.Proofs.Ytffeecaidkeepaa
namespace Go.Proofs.Ytffeecaidkeepaa
open Go.RowKit

theorem Rd.kept {w w' : World} {B g n : Nat} {A : Option Addr} {l : List UInt8} (h : Rd w B A n l) (hB : B ≤ g) (hg : g < w.heap.size) (hb : w.grownBy w' (some g)) : Rd w' B A n l :=
  h.keep fun q hq => World.cell?_of_block (hb.block q.block (by omega) (fun e => by injection e with e; omega))
theorem Rd.below2 {w w' : World} {B n : Nat} {A : Option Addr} {l : List UInt8} (h : Rd w B A n l) (hB : B ≤ w.heap.size) (hb : Below w.heap.size w w') : Rd w' B A n l := h.below (hb.mono hB)
end Go.Proofs.Ytffeecaidkeepaa
namespace Go.Proofs.Ytffeecaidkeepaa
open Go.RowKit

set_option maxRecDepth 100000 in
theorem caseNew_any (A : Option Addr) (n c m k : Nat) (hm : m ≤ 1000000) (hnc : n ≤ c) (hcm : c ≤ maxLen) (hk : min n m = k) (w : World) :
    Calls Try.prog 24 #[.slice A n c, .int .i64 (m : Int)] w fun e w' => e = .returned (.pointer (some ⟨w.heap.size, 0, none⟩)) ∧ Mem w [blkE w.heap.size 63 (codesC A k c 0)] w' := by
  have hc63 : (c : Int) ≤ 9223372036854775807 := by unfold maxLen at hcm; omega
  have HM := Lib.hid ((Mem.nil w).alloc rfl 63 #[.slice A k c, .int .i64 0] (codesC A k c 0) rfl)
  by_cases h : n ≤ m
  · obtain rfl : k = n := by omega
    have h1 : ¬ (m : Int) < (k : Int) := by omega
    have h2 : (k : Int) ≤ (m : Int) := by omega
    have h3 : (k : Int) ≤ (c : Int) := by omega
    have h4 : (if (m : Int) < (k : Int) then (m : Int) else (k : Int)) = (k : Int) := if_neg h1
    clear hk
    go_enter Try.func24, Try.ntmps24
    go_wp2
    go_ret
    exact ⟨rfl, HM.out⟩
  · obtain rfl : k = m := by omega
    have h1 : (k : Int) < (n : Int) := by omega
    have h2 : ¬ (n : Int) ≤ (k : Int) := by omega
    have h3 : (k : Int) ≤ (c : Int) := by omega
    have h4 : (if (k : Int) < (n : Int) then (k : Int) else (n : Int)) = (k : Int) := if_pos h1
    clear hk
    go_enter Try.func24, Try.ntmps24
    go_wp2
    go_ret
    exact ⟨rfl, HM.out⟩
end Go.Proofs.Ytffeecaidkeepaa
namespace Go.Proofs.Ytffeecaidkeepaa
open Go.RowKit

/-- the choices at a world: p of them taken -/
structure CodesAt (W : World) (g : Nat) (A : Option Addr) (n c : Nat) (l : List UInt8) (B : Nat) (p : Nat) : Prop where
  blk : Blk W g 63 (codesC A n c p)
  rd : Rd W B A n l
  le : B ≤ g
  lt : g < W.heap.size
  small : n ≤ 100000
  pos : p ≤ n
section
variable {W W' : World} {g : Nat} {A : Option Addr} {n c : Nat} {l : List UInt8} {B p : Nat}
theorem CodesAt.below (h : CodesAt W g A n c l B p) (hb : Below W.heap.size W W') : CodesAt W' g A n c l B p :=
  ⟨h.blk.below hb h.lt, h.rd.below2 (by have := h.le; have := h.lt; omega) hb, h.le, Nat.lt_of_lt_of_le h.lt hb.size, h.small, h.pos⟩
theorem CodesAt.put (h : CodesAt W g A n c l B p) {b : Nat} (hg : W.grownBy W' (some b)) (hb : g < b) : CodesAt W' g A n c l B p :=
  ⟨h.blk.grown hg (fun e => by injection e with e; omega), h.rd.keep (fun q hq => World.cell?_of_block (hg.block q.block (by have := h.le; have := h.lt; omega) (fun e => by injection e with e; have := h.le; omega))), h.le, Nat.lt_of_lt_of_le h.lt hg.size, h.small, h.pos⟩
theorem CodesAt.next (h : CodesAt W g A n c l B p) {q : Nat} (hq : q ≤ n) (hb : Blk W' g 63 (codesC A n c q)) (hg : W.grownBy W' (some g)) : CodesAt W' g A n c l B q :=
  ⟨hb, h.rd.kept h.le h.lt hg, h.le, Nat.lt_of_lt_of_le h.lt hg.size, h.small, hq⟩
theorem CodesAt.nextLe (h : CodesAt W g A n c l B p) (m : Nat) : nextP l p m ≤ n := by have := nextP_le l p m (by rw [h.rd.1]; exact h.pos); rw [h.rd.1] at this; exact this
theorem CodesAt.callNext (h : CodesAt W g A n c l B p) (m : Nat) (hm : m ≤ 1000000) :
    Calls Try.prog 25 #[.pointer (some ⟨g, 0, none⟩), .int .i64 (m : Int)] W fun e w' => e = .returned (.int .i64 (nextV l p m : Int)) ∧ CodesAt w' g A n c l B (nextP l p m) ∧ W.grownBy w' (some g) :=
  (caseNext_any g A n c l p h.small h.pos m hm B h.le W h.blk h.rd).mono fun _ _ k => ⟨k.1, h.next (h.nextLe m) k.2.1 k.2.2, k.2.2⟩
end
end Go.Proofs.Ytffeecaidkeepaa
namespace Go.Proofs.Ytffeecaidkeepaa
open Go.RowKit

theorem RdRow.kept {W W' : World} {B k n g : Nat} {A : Option Addr} {os : List (List Value)} (h : RdRow W B A k n os) (hB : B ≤ W.heap.size) (hg : W.grownBy W' (some g)) (hne : ∀ ad, A = some ad → g < ad.block) : RdRow W' B A k n os :=
  ⟨h.1, h.2.1, fun hn => by
    obtain ⟨b, off, e, hlt, hc⟩ := h.2.2 hn
    exact ⟨b, off, e, hlt, fun j v hv => (World.cell?_of_block (hg.block b (by omega) (fun e2 => by injection e2 with e2; have := hne _ e; simp only at this; omega))).trans (hc j v hv)⟩⟩
theorem At.kept {W W' : World} {b off g : Nat} {cs : List Value} (h : At W b off cs) (hb : b < W.heap.size) (hg : W.grownBy W' (some g)) (hne : g < b) : At W' b off cs := fun j v hv => (World.cell?_of_block (hg.block b hb (fun e2 => by injection e2 with e2; omega))).trans (h j v hv)
end Go.Proofs.Ytffeecaidkeepaa
namespace Go.Proofs.Ytffeecaidkeepaa
open Go.RowKit

theorem wpList_build_as {P : Program} {ops : Array Oper} {rest : List Oper} {o : Oper} {a : Act} {w : World} {Q : Exit → Act → World → Prop} (hg : o.guard = none) (t : TypeId) (parts : List (Nat × Operand)) (ho : o.op = .build t parts.toArray) (v : Array Value)
    (hb : P.built t (parts.map fun p => (p.1, a.eval p.2)) = some v) (h : wpList P ops Q rest (a.put o.dst (.agg v)) w) : wpList P ops Q (o :: rest) a w :=
  have e : (parts.toArray.map fun (i, x) => (i, a.eval x)).toList = parts.map fun p => (p.1, a.eval p.2) := by simp
  wpList_build hg t parts.toArray ho (by rw [e, hb]; rfl) (by rw [e, hb]; exact h)
end Go.Proofs.Ytffeecaidkeepaa
namespace Go.Proofs.Ytffeecaidkeepaa
open Go.RowKit

theorem TmRd.kept {W W' : World} {n g : Nat} {A : Option Addr} {l : List TimerM} (h : TmRd W W.heap.size A n l) (hg : W.grownBy W' (some g)) (hne : ∀ ad, A = some ad → g < ad.block) : TmRd W' W'.heap.size A n l := ⟨(h.1.kept (Nat.le_refl _) hg hne).mono hg.size, h.2⟩
/-- a call that changes the choices' block keeps what the law holds -/
theorem tm_keep {w W W' : World} {G n : Nat} {A : Option Addr} {l : List TimerM} (h : TmRd W W.heap.size A n l ∧ (∀ ad, A = some ad → G < ad.block) ∧ Below w.heap.size w W) (hG : w.heap.size ≤ G) (hg : W.grownBy W' (some G)) : TmRd W' W'.heap.size A n l ∧ (∀ ad, A = some ad → G < ad.block) ∧ Below w.heap.size w W' :=
  ⟨h.1.kept hg h.2.1, h.2.1, h.2.2.grown hg h.2.2.size (fun b hb => by injection hb with hb; omega)⟩
theorem timer_made (x : Int) (k : List UInt8) (d : Int) (hk : k.length = 32) : Try.prog.built 27 [(0, .int .i64 x), (1, .agg (k.map u8v).toArray), (2, .int .i64 d)] = some (TimerM.mk x k d).cells.toArray := by
  rw [built_of 27 [1, 32, 1] [[.int .i64 0], aeZ 32, [.int .i64 0]] (by kernel_rfl) #[(0, 1), (1, 32), (33, 1)] (fun parts => by kernel_rfl) (fun i h => by
    match i, h with
    | 0, _ => rfl
    | 1, _ => rfl
    | 2, _ => rfl
    | i + 3, h => exact absurd h (by simp)) _ (fun p hp => by
    simp only [List.mem_cons, List.not_mem_nil, or_false] at hp
    rcases hp with rfl | rfl | rfl
    · rfl
    · simp [Value.cells, hk]
    · rfl)]
  simp [TimerM.cells, Value.cells]
set_option maxRecDepth 100000 in
set_option maxHeartbeats 16000000 in
theorem made_any (A : Option Addr) (n c : Nat) (l : List UInt8) (hnc : n ≤ c) (hcm : c ≤ maxLen) (w : World) (hr : Rd w w.heap.size A n l) :
    Calls Try.prog 6 #[.slice A n c] w fun e w' => ∃ (ls : List TimerM) (A' : Option Addr) (c' : Nat), WhGood ls ∧ ls.length ≤ 15 ∧ e = .returned (.slice A' ls.length c') ∧ TmRd w' w'.heap.size A' ls.length ls ∧ (ls.length ≤ c' ∧ c' ≤ maxLen) ∧ Below w.heap.size w w' := by
  obtain ⟨k0, hk⟩ : ∃ k, min n 80 = k := ⟨_, rfl⟩
  have HR := Lib.hid (hr.take (show k0 ≤ n by omega))
  have HW1 := Lib.hid (caseNew_any A n c 80 k0 (by omega) hnc hcm hk w)
  have hk60 : k0 ≤ 80 := by omega
  generalize l.take k0 = lk at HR
  clear hr hk hnc hcm
  go_enter Try.func6, Try.ntmps6
  go_wp2_with fail
  refine HW1.out.mono ?_
  rintro e w1 ⟨rfl, hm⟩
  have hc : CodesAt w1 w.heap.size A k0 c lk w.heap.size 0 := ⟨hm.blk 0 rfl, HR.out.below hm.bel, Nat.le_refl _, (hm.blk 0 rfl).lt, by omega, Nat.zero_le _⟩
  have HB1 := Lib.hid hm.bel
  obtain ⟨G, hG⟩ : ∃ G, w.heap.size = G := ⟨_, rfl⟩
  have hn20 := hc.callNext 16 (by omega)
  rw [show ((16 : Nat) : Int) = 16 from rfl] at hn20
  have hv20 := nextV_lt lk 0 16 (by omega)
  have HC1 := Lib.hid hc
  rw [hG] at hn20 HC1 ⊢
  have HN20 := Lib.hid hn20
  have HGE := Lib.hid (show w.heap.size ≤ G by omega)
  clear hc hm HW1 hn20 hG HR
  go_wp2_with fail
  refine HN20.out.mono ?_
  rintro e w2 ⟨rfl, hcd, hg⟩
  obtain ⟨t, ht⟩ : ∃ t, nextV lk 0 16 = t := ⟨_, rfl⟩
  rw [ht] at hv20 ⊢
  have HC2 := Lib.hid (And.intro hcd (show Below w.heap.size w w2 from HB1.out.grown hg HB1.out.size (fun b hb => by injection hb with hb; have := HGE.out; omega)))
  generalize nextP lk 0 16 = q0 at HC2
  clear hcd hg HN20 HC1 HB1 ht
  go_wp2_with fail
  go_loopw [5, 4] (fun i vo wr => ∃ (j : Nat) (ls : List TimerM) (q : Nat) (A9 : Option Addr) (c9 : Nat), ls.length + j ≤ 15 ∧ i = .int .i64 (j : Int) ∧ vo = .slice A9 ls.length c9 ∧ WhGood ls ∧ (ls.length ≤ c9 ∧ c9 ≤ maxLen) ∧ CodesAt wr G A k0 c lk G q ∧ TmRd wr wr.heap.size A9 ls.length ls ∧ (∀ ad, A9 = some ad → G < ad.block) ∧ Below w.heap.size w wr) (fun i _ _ => (intOf i).toNat)
  case atStart => exact ⟨t, [], q0, none, 0, by simp only [List.length_nil]; omega, rfl, rfl, WhGood.nil, ⟨Nat.le_refl _, by unfold maxLen; omega⟩, HC2.out.1, TmRd.nil, (fun _ h => by cases h), HC2.out.2⟩
  case round =>
    clear HC2 hv20
    obtain ⟨j, ls, q, A9, c9, hj, rfl, rfl, hgd, hcp, hcd, hsl⟩ := hrel
    have HCP := Lib.hid hcp
    have HGD := Lib.hid hgd
    obtain ⟨m, hm⟩ : ∃ z, ls.length = z := ⟨_, rfl⟩
    rw [hm] at hsl hj HCP ⊢
    have HLS := Lib.hid hm
    have HC := Lib.hid (And.intro hcd hsl)
    clear hcp hgd hcd hsl hm
    by_cases hj0 : 0 < j
    · have d1 : decide ((j : Int) > 0) = true := by simp; omega
      obtain ⟨p, hp⟩ : ∃ p, j = p + 1 := ⟨j - 1, by omega⟩
      have y5 : IntKind.i64.wrap ((j : Int) - 1) = (p : Int) := by rw [IntWalk.i64_in _ (by omega)]; omega
      have y6 : (j : Int) - 1 = (p : Int) := by omega
      have hj2 : m + 1 + p ≤ 15 := by omega
      have hjp : p < j := by omega
      clear hp
      have hn6 := HC.out.1.callNext 6 (by omega)
      rw [show ((6 : Nat) : Int) = 6 from rfl] at hn6
      have HN6 := Lib.hid hn6
      have hv6 := nextV_lt lk q 6 (by omega)
      obtain ⟨u, hu⟩ : ∃ z, nextV lk q 6 = z := ⟨_, rfl⟩
      rw [hu] at hv6 HN6
      clear hn6 hu
      go_wp2_with fail
      refine HN6.out.mono ?_
      rintro e w6 ⟨rfl, hcd, hg⟩
      have HC6 := Lib.hid (And.intro hcd (tm_keep HC.out.2 HGE.out hg))
      generalize nextP lk q 6 = q1 at HC6
      clear hcd hg HC HN6
      have hn3 := HC6.out.1.callNext 3 (by omega)
      rw [show ((3 : Nat) : Int) = 3 from rfl] at hn3
      have HN3 := Lib.hid hn3
      have hv3 := nextV_lt lk q1 3 (by omega)
      obtain ⟨x3, hx3⟩ : ∃ z, nextV lk q1 3 = z := ⟨_, rfl⟩
      rw [hx3] at hv3 HN3
      clear hn3 hx3
      obtain ⟨Y, hY⟩ : ∃ y, UInt8.ofNat x3 = y := ⟨_, rfl⟩
      have hYn : Y.toNat = x3 := by rw [← hY, UInt8.toNat_ofNat', Nat.mod_eq_of_lt (by omega)]
      have y7 : IntKind.u8.wrap (x3 : Int) = (Y.toNat : Int) := by rw [IntKind.wrap_u8, hYn]; omega
      have y8 : (x3 : Int) % 256 = (Y.toNat : Int) := by rw [hYn]; omega
      obtain ⟨ky, hky⟩ : ∃ z, ((keyB Y).map u8v).toArray = z := ⟨_, rfl⟩
      have hby := key_byte Y
      rw [hky] at hby
      have HBY := Lib.hid hby
      have HKY := Lib.hid hky
      clear hby hky hY hYn
      go_wp2_with fail
      refine HN3.out.mono ?_
      rintro e w7 ⟨rfl, hcd, hg⟩
      have HC7 := Lib.hid (And.intro hcd (tm_keep HC6.out.2 HGE.out hg))
      generalize nextP lk q1 3 = q2 at HC7
      clear hcd hg HC6 HN3
      have hn5 := HC7.out.1.callNext 5 (by omega)
      rw [show ((5 : Nat) : Int) = 5 from rfl] at hn5
      have HN5 := Lib.hid hn5
      have hv5 := nextV_lt lk q2 5 (by omega)
      obtain ⟨x5, hx5⟩ : ∃ z, nextV lk q2 5 = z := ⟨_, rfl⟩
      rw [hx5] at hv5 HN5
      clear hn5 hx5
      go_wp2_with (refine wpList_build_as rfl 25 [(0, .tmp 19)] rfl ky ?_ ?_; exact HBY.out)
      refine HN5.out.mono ?_
      rintro e w8 ⟨rfl, hcd, hg⟩
      have HC8 := Lib.hid (And.intro hcd (tm_keep HC7.out.2 HGE.out hg))
      generalize nextP lk q2 5 = q3 at HC8
      clear hcd hg HC7 HN5
      obtain ⟨kd, hkd⟩ : ∃ z : Int, 1 + (x5 : Int) = z := ⟨_, rfl⟩
      have y9 : IntKind.i64.wrap (1 + (x5 : Int)) = kd := by rw [IntWalk.i64_in _ (by omega)]; omega
      have hok : (TimerM.mk (u : Int) (keyB Y) kd).ok := ⟨⟨by show -9223372036854775808 ≤ (u : Int); omega, by show (u : Int) ≤ 9223372036854775807; omega⟩, keyB_length Y, ⟨by show -9223372036854775808 ≤ kd; omega, by show kd ≤ 9223372036854775807; omega⟩⟩
      have hpm : permT (TimerM.mk (u : Int) (keyB Y) kd) = true := by
        simp only [permT, Bool.and_eq_true, decide_eq_true_eq]
        omega
      have hbt := timer_made (u : Int) (keyB Y) kd (keyB_length Y)
      obtain ⟨tc, htc⟩ : ∃ z, (TimerM.mk (u : Int) (keyB Y) kd).cells.toArray = z := ⟨_, rfl⟩
      rw [HKY.out, htc] at hbt
      have hst := refSetT_any A9 m c9 ls ⟨u, keyB Y, kd⟩ w8 hok ⟨by omega, HCP.out.1, HCP.out.2, HC8.out.2.1⟩
      have hle := setT_le ls ⟨u, keyB Y, kd⟩
      rw [HLS.out] at hle
      rw [htc] at hst
      obtain ⟨l2, hl2⟩ : ∃ z, setT ls ⟨u, keyB Y, kd⟩ = z := ⟨_, rfl⟩
      have HG2 := Lib.hid (show WhGood l2 from hl2 ▸ good_set HGD.out hok hpm)
      rw [hl2] at hst hle
      have HST := Lib.hid hst
      have HBT := Lib.hid hbt
      have HLE := Lib.hid hle
      clear hok hpm hbt htc hst hle hl2 hkd
      go_wp2_with (refine wpList_build_as rfl 27 [(0, .tmp 16), (1, .tmp 20), (2, .tmp 23)] rfl tc ?_ ?_; exact HBT.out)
      refine HST.out.mono ?_
      rintro e w10 ⟨v, rfl, A8, c8, rfl, h1, h2, hr, hnew, hb⟩
      have hG9 := HC8.out.1.lt
      have HF := Lib.hid (show (l2.length ≤ c8 ∧ c8 ≤ maxLen) ∧ CodesAt w10 G A k0 c lk G q3 ∧ TmRd w10 w10.heap.size A8 l2.length l2 ∧ (∀ ad, A8 = some ad → G < ad.block) ∧ Below w.heap.size w w10 from ⟨⟨h1, h2⟩, HC8.out.1.below hb, hr, fun ad h => by have h0 := hnew ad h; omega, HC8.out.2.2.2.trans (hb.mono HC8.out.2.2.2.size)⟩)
      clear h1 h2 hr hb hnew hG9 HC8 HST
      go_wp2_with fail
      go_roundw
      case rel => exact ⟨p, l2, q3, A8, c8, by have := HLE.out; omega, rfl, rfl, HG2.out, HF.out.1, HF.out.2.1, HF.out.2.2.1, HF.out.2.2.2⟩
      case measure => simp [intOf]; omega
    · obtain rfl : j = 0 := by omega
      have d1 : decide (((0 : Nat) : Int) > 0) = false := by simp
      have HF := Lib.hid HC.out.2
      clear HC
      go_wp2_with fail
      go_ret
      exact ⟨ls, A9, c9, HGD.out, by rw [HLS.out]; omega, by rw [HLS.out]; rfl, by rw [HLS.out]; exact HF.out.1, by rw [HLS.out]; exact HCP.out, HF.out.2.2⟩
end Go.Proofs.Ytffeecaidkeepaa
namespace Go.Proofs.Ytffeecaidkeepaa
open Go.RowKit

def CapWh (n c : Nat) : Prop := n ≤ c ∧ c ≤ maxLen
theorem set_use {F : Nat} (H : WhSetC F) {l l' : List TimerM} {n m : Nat} {t : TimerM} (h : setT l t = l') (hm : l'.length = m) (hn : n ≤ 100) (ht : t.ok) (A : Option Addr) (c : Nat) (W : World) (hc : CapWh n c) (hr : TmRd W W.heap.size A n l) :
    Calls Try.prog F #[.slice A n c, .agg t.cells.toArray] W fun e w' => ∃ A c, e = .returned (.slice A m c) ∧ CapWh m c ∧ TmRd w' w'.heap.size A m l' ∧ (∀ ad, A = some ad → W.heap.size ≤ ad.block) ∧ Below W.heap.size W w' := by
  have h2 := H A n c l t W ht ⟨hn, hc.1, hc.2, hr⟩
  rw [h] at h2
  refine h2.mono ?_
  rintro e w' ⟨v, he, A, c, hv, h1, h2, hr, hf, hb⟩
  subst hv hm
  exact ⟨A, c, he, ⟨h1, h2⟩, hr, hf, hb⟩
theorem cancel_use {F : Nat} (H : WhCancelC F) {l l' : List TimerM} {n m : Nat} {k : List UInt8} {d : Int} (h : cancelT l k d = l') (hm : l'.length = m) (hn : n ≤ 100) (hk : k.length = 32) (hd : inI64 d) (A : Option Addr) (c : Nat) (W : World) (hc : CapWh n c) (hr : TmRd W W.heap.size A n l) :
    Calls Try.prog F #[.slice A n c, .agg (k.map u8v).toArray, .int .i64 d] W fun e w' => ∃ A c, e = .returned (.slice A m c) ∧ CapWh m c ∧ TmRd w' w'.heap.size A m l' ∧ (∀ ad, A = some ad → W.heap.size ≤ ad.block) ∧ Below W.heap.size W w' := by
  have h2 := H A n c l k d W hk hd ⟨hn, hc.1, hc.2, hr⟩
  rw [h] at h2
  refine h2.mono ?_
  rintro e w' ⟨v, he, A, c, hv, h1, h2, hr, hf, hb⟩
  subst hv hm
  exact ⟨A, c, he, ⟨h1, h2⟩, hr, hf, hb⟩
theorem cancelP_use {F : Nat} (H : WhCancelPC F) {l l' : List TimerM} {n m : Nat} {k : List UInt8} (h : cancelP l k = l') (hm : l'.length = m) (hn : n ≤ 100) (hk : k.length = 32) (A : Option Addr) (c : Nat) (W : World) (hc : CapWh n c) (hr : TmRd W W.heap.size A n l) :
    Calls Try.prog F #[.slice A n c, .agg (k.map u8v).toArray] W fun e w' => ∃ A c, e = .returned (.slice A m c) ∧ CapWh m c ∧ TmRd w' w'.heap.size A m l' ∧ (∀ ad, A = some ad → W.heap.size ≤ ad.block) ∧ Below W.heap.size W w' := by
  have h2 := H A n c l k W hk ⟨hn, hc.1, hc.2, hr⟩
  rw [h] at h2
  refine h2.mono ?_
  rintro e w' ⟨v, he, A, c, hv, h1, h2, hr, hf, hb⟩
  subst hv hm
  exact ⟨A, c, he, ⟨h1, h2⟩, hr, hf, hb⟩
end Go.Proofs.Ytffeecaidkeepaa
namespace Go.Proofs.Ytffeecaidkeepaa
open Go.RowKit

def wb9 : TimerM := ⟨9, List.replicate 32 0, 1⟩
def wb5 : TimerM := ⟨5, List.replicate 32 0, 1⟩
theorem wb9_ok : wb9.ok := ⟨by unfold inI64 wb9; simp, rfl, by unfold inI64 wb9; simp⟩
theorem wb5_ok : wb5.ok := ⟨by unfold inI64 wb5; simp, rfl, by unfold inI64 wb5; simp⟩
theorem wb_a : setT [] wb9 = [wb9] := by rfl
theorem wb_b : setT [wb9] wb5 = [wb5] := by decide +kernel
set_option maxRecDepth 100000 in
set_option maxHeartbeats 8000000 in
theorem wh_begun_any (HT : WhSetC 9) (w : World) : Calls Try.prog 23 #[] w fun e w' => e = .returned (.bool true) ∧ Below w.heap.size w w' := by
  have t1 := set_use HT wb_a (m := 1) rfl (n := 0) (by omega) wb9_ok none 0
  have t2 := set_use HT wb_b (m := 1) rfl (n := 1) (by omega) wb5_ok
  have b9 : Try.prog.built 27 [(0, .int .i64 9), (2, .int .i64 1)] = some wb9.cells.toArray := by kernel_rfl
  have b5 : Try.prog.built 27 [(0, .int .i64 5), (2, .int .i64 1)] = some wb5.cells.toArray := by kernel_rfl
  obtain ⟨s9, hs9⟩ : ∃ z, wb9.cells.toArray = z := ⟨_, rfl⟩
  obtain ⟨s5, hs5⟩ : ∃ z, wb5.cells.toArray = z := ⟨_, rfl⟩
  rw [hs9] at b9 t1
  rw [hs5] at b5 t2
  have HT1 := Lib.hid t1
  have HT2 := Lib.hid t2
  have HB9 := Lib.hid b9
  have HB5 := Lib.hid b5
  have HC0 := Lib.hid (show CapWh 0 0 from ⟨Nat.le_refl _, by unfold maxLen; omega⟩)
  clear HT t1 t2 b9 b5 hs9 hs5
  go_enter Try.func23, Try.ntmps23
  go_wp2_with (refine wpList_build_as rfl 27 [(0, .const (.int .i64 9)), (2, .const (.int .i64 1))] rfl s9 ?_ ?_; exact HB9.out)
  refine (HT1.out w HC0.out TmRd.nil).mono ?_
  rintro e w2 ⟨A1, c1, rfl, hc, hr, -, hb⟩
  have HM := Lib.hid (((Lows.nil w).below hb).cons (tmL A1 1 [wb9]) hr)
  have HC1 := Lib.hid hc
  clear hc hr hb HT1
  go_wp2_with (refine wpList_build_as rfl 27 [(0, .const (.int .i64 5)), (2, .const (.int .i64 1))] rfl s5 ?_ ?_; exact HB5.out)
  refine (HT2.out A1 c1 w2 HC1.out (HM.out.get (f := tmL A1 1 [wb9]) 0 rfl)).mono ?_
  rintro e w3 ⟨A2, c2, rfl, hc, hr, -, hb⟩
  obtain ⟨ab, ao, rfl⟩ := hr.1.addr (by omega)
  have fx := tm_at (hr.at 0 wb5 rfl).2
  rw [show wb5.tm = 5 from rfl] at fx
  have fy : w3.cell? ⟨ab, ao, none⟩ = some (.int .i64 5) := by simpa using fx
  have HF := Lib.hid (HM.out.below hb).bel
  clear hc hr hb HT2 HM
  go_wp2
  go_ret
  exact ⟨rfl, HF.out⟩
end Go.Proofs.Ytffeecaidkeepaa
namespace Go.Proofs.Ytffeecaidkeepaa
open Go.RowKit

set_option maxRecDepth 100000 in
set_option maxHeartbeats 8000000 in
theorem same_any (A A' : Option Addr) (n c c' : Nat) (l : List TimerM) (hn : n ≤ 1000) (w : World) (ha : TmRd w w.heap.size A n l) (hb : TmRd w w.heap.size A' n l) :
    Calls Try.prog 8 #[.slice A n c, .slice A' n c'] w fun e w' => e = .returned (.bool true) ∧ Below w.heap.size w w' := by
  have HA := Lib.hid ha
  have HB := Lib.hid hb
  clear ha hb
  have sn : ((n : Int) != (n : Int)) = false := by simp
  go_enter Try.func8, Try.ntmps8
  go_wp2_with fail
  clear sn
  go_loopw [13] (fun i wr => ∃ j : Nat, j ≤ n ∧ i = .int .i64 (j : Int) ∧ Below w.heap.size w wr) (fun i _ => n - (intOf i).toNat)
  case atStart => exact ⟨0, Nat.zero_le _, rfl, Below.refl _ _⟩
  case round =>
    obtain ⟨j, hj, rfl, hW⟩ := hrel
    have HW := Lib.hid hW
    clear hW
    by_cases hjn : j < n
    · have d1 : decide ((j : Int) < (n : Int)) = true := by simp; omega
      obtain ⟨b, off, rfl⟩ := HA.out.1.addr (by omega)
      obtain ⟨b', off', rfl⟩ := HB.out.1.addr (by omega)
      obtain ⟨r, hr⟩ : ∃ r, l[j]? = some r := ⟨l[j]'(by rw [HA.out.len]; exact hjn), List.getElem?_eq_getElem _⟩
      have HOK := Lib.hid (HA.out.ok hr)
      have HLA := Lib.hid (show ∀ W, Below w.heap.size w W → At W b (off + j * 34) r.cells from fun W hW => (HA.out.at j r hr).2.mono hW (HA.out.at j r hr).1)
      have HLB := Lib.hid (show ∀ W, Below w.heap.size w W → At W b' (off' + j * 34) r.cells from fun W hW => (HB.out.at j r hr).2.mono hW (HB.out.at j r hr).1)
      have heq := fun w' : World => (timer_eqd r r HOK.out HOK.out w' true (by simp))
      obtain ⟨ck, hck⟩ : ∃ c, (r.cells).toArray = c := ⟨_, rfl⟩
      rw [hck] at heq
      have HEQ := Lib.hid heq
      have HCK := Lib.hid hck
      clear hck hr heq
      go_upto_region 6 with fail
      clear d1
      refine wp_region_held_drew (S := fun W' => Below w.heap.size w W') (by kernel_rfl) (HW.out.drew) (fun hHeld => ?_)
      refine take_first (v := ?_) 0 rfl (by kernel_rfl) (by kernel_rfl) (by kernel_rfl) (fun _ _ _ h => h) (Or.inl ⟨by rfl, ?_⟩) (by assumption) ?_
      rotate_left
      · (intro w hSw; (try dsimp only at hSw); go_simp; try with_reducible rfl)
      (try simp only [Act.put, List.setIfInBounds_toArray, List.set_cons_zero, List.set_cons_succ])
      refine take_first (v := ?_) 1 rfl (by kernel_rfl) (by kernel_rfl) (by kernel_rfl) (fun _ _ _ h => h) (Or.inl ⟨by rfl, ?_⟩) (by assumption) ?_
      rotate_left
      · (intro w hSw; (try dsimp only at hSw); go_simp; try with_reducible rfl)
      (try simp only [Act.put, List.setIfInBounds_toArray, List.set_cons_zero, List.set_cons_succ])
      refine take_first (v := ?_) 2 rfl (by kernel_rfl) (by kernel_rfl) (by kernel_rfl) (fun _ _ _ h => h) (Or.inl ⟨by rfl, ?_⟩) (by assumption) ?_
      rotate_left
      · (intro w hSw; (try dsimp only at hSw); go_simp; try with_reducible rfl)
      (try simp only [Act.put, List.setIfInBounds_toArray, List.set_cons_zero, List.set_cons_succ])
      refine take_first (v := .agg ck) 3 rfl (by kernel_rfl) (by kernel_rfl) (by kernel_rfl) (fun _ _ _ h => h) (by rw [← HCK.out]; exact yields_load_obj (by rfl) 27 (.tmp 18) rfl b _ rfl _ (fun W hW => HLA.out W hW) _ Try.underlying27 rfl (timer_cellsOf r HOK.out)) (by assumption) ?_
      (try simp only [Act.put, List.setIfInBounds_toArray, List.set_cons_zero, List.set_cons_succ])
      refine take_first (v := ?_) 4 rfl (by kernel_rfl) (by kernel_rfl) (by kernel_rfl) (fun _ _ _ h => h) (Or.inl ⟨by rfl, ?_⟩) (by assumption) ?_
      rotate_left
      · (intro w hSw; (try dsimp only at hSw); go_simp; try with_reducible rfl)
      (try simp only [Act.put, List.setIfInBounds_toArray, List.set_cons_zero, List.set_cons_succ])
      refine take_first (v := ?_) 5 rfl (by kernel_rfl) (by kernel_rfl) (by kernel_rfl) (fun _ _ _ h => h) (Or.inl ⟨by rfl, ?_⟩) (by assumption) ?_
      rotate_left
      · (intro w hSw; (try dsimp only at hSw); go_simp; try with_reducible rfl)
      (try simp only [Act.put, List.setIfInBounds_toArray, List.set_cons_zero, List.set_cons_succ])
      refine take_first (v := ?_) 6 rfl (by kernel_rfl) (by kernel_rfl) (by kernel_rfl) (fun _ _ _ h => h) (Or.inl ⟨by rfl, ?_⟩) (by assumption) ?_
      rotate_left
      · (intro w hSw; (try dsimp only at hSw); go_simp; try with_reducible rfl)
      (try simp only [Act.put, List.setIfInBounds_toArray, List.set_cons_zero, List.set_cons_succ])
      refine take_first (v := .agg ck) 7 rfl (by kernel_rfl) (by kernel_rfl) (by kernel_rfl) (fun _ _ _ h => h) (by rw [← HCK.out]; exact yields_load_obj (by rfl) 27 (.tmp 22) rfl b' _ rfl _ (fun W hW => HLB.out W hW) _ Try.underlying27 rfl (timer_cellsOf r HOK.out)) (by assumption) ?_
      (try simp only [Act.put, List.setIfInBounds_toArray, List.set_cons_zero, List.set_cons_succ])
      refine take_first (v := .bool false) 8 rfl (by kernel_rfl) (by kernel_rfl) (by kernel_rfl) (fun _ _ _ h => h) (yields_cmp_agg true (by rfl) 27 27 19 23 rfl ck ck true rfl rfl timer_noguard (fun w' => HEQ.out w')) (by assumption) ?_
      (try simp only [Act.put, List.setIfInBounds_toArray, List.set_cons_zero, List.set_cons_succ])
      refine wpAnyH_done (by kernel_rfl) ?_ _
      go_wp2
      go_roundw
      case rel => exact ⟨j + 1, by omega, by go_num, by assumption⟩
      case measure => simp [intOf]; omega
    · obtain rfl : j = n := by omega
      have d1 : decide ((j : Int) < (j : Int)) = false := by simp
      have HF := Lib.hid HW.out
      go_wp2
      go_ret
      exact ⟨rfl, HF.out⟩
end Go.Proofs.Ytffeecaidkeepaa
namespace Go.Proofs.Ytffeecaidkeepaa
open Go.RowKit

set_option maxRecDepth 100000 in
set_option maxHeartbeats 8000000 in
theorem refHasT_any : WhHasC 16 := by
  intro A n c l k d w hk hd harg
  have hn := harg.1
  have HA := Lib.hid harg.2.2.2
  have HK := Lib.hid hk
  obtain ⟨kk, hkk⟩ : ∃ z, (k.map u8v).toArray = z := ⟨_, rfl⟩
  rw [hkk]
  have HKK := Lib.hid hkk
  have HB1 := Lib.hid (show Blk (w.alloc (.cells kk 25)) w.heap.size 25 (k.map u8v) ∧ Below w.heap.size w (w.alloc (.cells kk 25)) from ⟨by rw [← hkk]; exact Blk.new w 25 _, (Below.refl _ _).alloc (Nat.le_refl _) _⟩)
  clear harg hk hkk
  go_enter Try.func16, Try.ntmps16
  go_upto_region 1 with fail
  generalize w.alloc (.cells kk 25) = w1 at HB1 ⊢
  go_wp2_with fail
  go_loopw [11] (fun v wr => ∃ j : Nat, j ≤ n ∧ v = .int .i64 (j : Int) ∧ (∀ (q : Nat) x, q < j → l[q]? = some x → forT k d x = false) ∧ Below w1.heap.size w1 wr) (fun v _ => n - (intOf v).toNat)
  case atStart => exact ⟨0, by omega, rfl, fun q _ h => absurd h (Nat.not_lt_zero _), Below.refl _ _⟩
  case round =>
    obtain ⟨j, hj, rfl, hno, hbl⟩ := hrel
    have HO := Lib.hid hbl
    have HNO := Lib.hid hno
    have HBL := Lib.hid (show Below w.heap.size w wr from HB1.out.2.trans (hbl.mono HB1.out.2.size))
    clear hbl hno
    by_cases hjn : j < n
    · have d1 : decide ((j : Int) < (n : Int)) = true := by simp; omega
      obtain ⟨b, off, rfl⟩ := HA.out.1.addr (by omega)
      obtain ⟨s, hs⟩ : ∃ s, l[j]? = some s := ⟨l[j]'(by rw [HA.out.len]; exact hjn), List.getElem?_eq_getElem _⟩
      have HOK := Lib.hid (HA.out.ok hs)
      have hat := HA.out.at j s hs
      have HLA := Lib.hid (hat.2.mono HBL.out hat.1)
      have HJS := Lib.hid hs
      obtain ⟨sc, hsc⟩ : ∃ z, s.cells.toArray = z := ⟨_, rfl⟩
      have HSC := Lib.hid hsc
      obtain ⟨sk, hsk⟩ : ∃ z, (s.peer.map u8v).toArray = z := ⟨_, rfl⟩
      have HSK := Lib.hid hsk
      clear hat hs hsc hsk
      have HZ := Lib.hid (Blk.new wr 27 timerZ)
      go_upto_region 4 with (first | (refine wpList_load_obj rfl 27 (.tmp 13) rfl b _ rfl s.cells HLA.out _ Try.underlying27 rfl (timer_cellsOf s HOK.out) ?_; rw [HSC.out]) | (refine wpList_store_obj rfl 27 (.tmp 8) (.tmp 14) rfl wr.heap.size 0 s.cells rfl (by show Value.agg sc = _; rw [HSC.out]) 27 timerZ HZ.out (timer_cellsOf s HOK.out) (by rw [TimerM.cells_length HOK.out, timerZ_length]; omega) (timer_one s) ?_; intro w4 hb4 hg4))
      rw [setL_all timerZ s.cells (by rw [TimerM.cells_length HOK.out, timerZ_length])] at hb4
      have HP := Lib.hid hb4
      have HO4 := Lib.hid (HO.out.trans ((below_fresh hg4).mono HO.out.size))
      have heq := key_eq s.peer k HOK.out.2.1 HK.out
      rw [HSK.out, HKK.out] at heq
      have HEQ := Lib.hid heq
      clear hb4 hg4 HO HZ d1 HLA HBL heq
      generalize wr.heap.size = P1 at HP ⊢
      have fk := kind_at HP.out.all HOK.out
      obtain ⟨y1, hy1⟩ : ∃ y, decide (s.peer = k) = y := ⟨_, rfl⟩
      obtain ⟨y2, hy2⟩ : ∃ y, decide (s.kind = d) = y := ⟨_, rfl⟩
      rw [hy1] at HEQ
      have HFT := Lib.hid (show forT k d s = (y1 && y2) from by rw [forT, hy1, hy2])
      have hkn : (s.kind == d) = y2 := by rw [← hy2]; by_cases h : s.kind = d <;> simp [h]
      obtain ⟨kd, hkd⟩ : ∃ z, s.kind = z := ⟨_, rfl⟩
      rw [hkd] at fk hkn
      clear hy1 hy2 hkd
      cases y1 with
      | false =>
        have HNX := Lib.hid (show forT k d s = false from HFT.out)
        go_wp2_with (first | (refine wpList_load_obj rfl 25 (.tmp 15) rfl P1 1 rfl (s.peer.map u8v) (peer_at HP.out.all) _ Try.underlying25 rfl (key_cellsOf _ HOK.out.2.1) ?_; rw [HSK.out]) | (refine wpList_load_obj rfl 25 (.tmp 4) rfl w.heap.size 0 rfl (k.map u8v) ((HB1.out.1.below HO4.out HB1.out.1.lt).all) _ Try.underlying25 rfl (key_cellsOf _ HK.out) ?_; rw [HKK.out]) | (refine wpList_eql_agg (by rfl) 25 25 16 17 rfl sk kk false rfl rfl key_noguard (HEQ.out _) ?_))
        go_roundw
        case rel => exact ⟨j + 1, by omega, by go_num, fun q x hq hx => by
          rcases Nat.lt_or_ge q j with h | h
          · exact HNO.out q x h hx
          · obtain rfl : q = j := by omega
            have e := HJS.out.symm.trans hx
            injection e with e
            rw [← e]
            exact HNX.out, HO4.out⟩
        case measure => simp [intOf]; omega
      | true =>
        cases y2 with
        | false =>
          have HNX := Lib.hid (show forT k d s = false from HFT.out)
          go_wp2_with (first | (refine wpList_load_obj rfl 25 (.tmp 15) rfl P1 1 rfl (s.peer.map u8v) (peer_at HP.out.all) _ Try.underlying25 rfl (key_cellsOf _ HOK.out.2.1) ?_; rw [HSK.out]) | (refine wpList_load_obj rfl 25 (.tmp 4) rfl w.heap.size 0 rfl (k.map u8v) ((HB1.out.1.below HO4.out HB1.out.1.lt).all) _ Try.underlying25 rfl (key_cellsOf _ HK.out) ?_; rw [HKK.out]) | (refine wpList_eql_agg (by rfl) 25 25 16 17 rfl sk kk true rfl rfl key_noguard (HEQ.out _) ?_))
          go_roundw
          case rel => exact ⟨j + 1, by omega, by go_num, fun q x hq hx => by
            rcases Nat.lt_or_ge q j with h | h
            · exact HNO.out q x h hx
            · obtain rfl : q = j := by omega
              have e := HJS.out.symm.trans hx
              injection e with e
              rw [← e]
              exact HNX.out, HO4.out⟩
          case measure => simp [intOf]; omega
        | true =>
          have HR := Lib.hid (hasT_some HJS.out HFT.out)
          have HF := Lib.hid (HB1.out.2.trans (HO4.out.mono HB1.out.2.size))
          go_wp2_with (first | (refine wpList_load_obj rfl 25 (.tmp 15) rfl P1 1 rfl (s.peer.map u8v) (peer_at HP.out.all) _ Try.underlying25 rfl (key_cellsOf _ HOK.out.2.1) ?_; rw [HSK.out]) | (refine wpList_load_obj rfl 25 (.tmp 4) rfl w.heap.size 0 rfl (k.map u8v) ((HB1.out.1.below HO4.out HB1.out.1.lt).all) _ Try.underlying25 rfl (key_cellsOf _ HK.out) ?_; rw [HKK.out]) | (refine wpList_eql_agg (by rfl) 25 25 16 17 rfl sk kk true rfl rfl key_noguard (HEQ.out _) ?_))
          go_ret
          exact ⟨by rw [HR.out]; rfl, HF.out⟩
    · obtain rfl : n = j := by omega
      have d1 : decide ((n : Int) < (n : Int)) = false := by simp
      have HR := Lib.hid (show hasT l k d = false from hasT_none fun q x hq hx => HNO.out q x (by rw [← HA.out.len]; exact hq) hx)
      have HF := Lib.hid HBL.out
      clear HBL HO HNO
      go_wp2
      go_ret
      exact ⟨by rw [HR.out]; rfl, HF.out⟩
end Go.Proofs.Ytffeecaidkeepaa
namespace Go.Proofs.Ytffeecaidkeepaa
open Go.RowKit

theorem dueT_none {l : List TimerM} {tz : Int} (h : leastT l = none) : dueT l tz = (timer0, false) := by
  unfold dueT
  rw [dueO_least, h, dueIf]
theorem dueT_some {l : List TimerM} {tz : Int} {q : TimerM} (h : leastT l = some q) (ht : q.tm ≤ tz) : dueT l tz = (q, true) := by
  unfold dueT
  rw [dueO_least, h, dueIf, if_pos ht]
theorem dueT_late {l : List TimerM} {tz : Int} {q : TimerM} (h : leastT l = some q) (ht : ¬ q.tm ≤ tz) : dueT l tz = (timer0, false) := by
  unfold dueT
  rw [dueO_least, h, dueIf, if_neg ht]
set_option maxRecDepth 100000 in
set_option maxHeartbeats 8000000 in
theorem refDueT_any : WhDueC 18 := by
  intro A n c l tz w hto harg
  have hn := harg.1
  have HA := Lib.hid harg.2.2.2
  have HM := Lib.hid (show Lows w [blkL w.heap.size 27 timerZ] (w.alloc (.cells #[.int .i64 0, .int .u8 0, .int .u8 0, .int .u8 0, .int .u8 0, .int .u8 0, .int .u8 0, .int .u8 0, .int .u8 0, .int .u8 0, .int .u8 0, .int .u8 0, .int .u8 0, .int .u8 0, .int .u8 0, .int .u8 0, .int .u8 0, .int .u8 0, .int .u8 0, .int .u8 0, .int .u8 0, .int .u8 0, .int .u8 0, .int .u8 0, .int .u8 0, .int .u8 0, .int .u8 0, .int .u8 0, .int .u8 0, .int .u8 0, .int .u8 0, .int .u8 0, .int .u8 0, .int .i64 0] 27)) from (Lows.nil w).alloc 27 #[.int .i64 0, .int .u8 0, .int .u8 0, .int .u8 0, .int .u8 0, .int .u8 0, .int .u8 0, .int .u8 0, .int .u8 0, .int .u8 0, .int .u8 0, .int .u8 0, .int .u8 0, .int .u8 0, .int .u8 0, .int .u8 0, .int .u8 0, .int .u8 0, .int .u8 0, .int .u8 0, .int .u8 0, .int .u8 0, .int .u8 0, .int .u8 0, .int .u8 0, .int .u8 0, .int .u8 0, .int .u8 0, .int .u8 0, .int .u8 0, .int .u8 0, .int .u8 0, .int .u8 0, .int .i64 0] timerZ rfl)
  have HS0 := Lib.hid (show (Try.prog.info? 27).map (·.size) = some timerZ.length from by rw [timerZ_length]; kernel_rfl)
  clear harg
  go_enter Try.func18, Try.ntmps18
  go_upto_region 1 with fail
  generalize w.alloc (.cells #[.int .i64 0, .int .u8 0, .int .u8 0, .int .u8 0, .int .u8 0, .int .u8 0, .int .u8 0, .int .u8 0, .int .u8 0, .int .u8 0, .int .u8 0, .int .u8 0, .int .u8 0, .int .u8 0, .int .u8 0, .int .u8 0, .int .u8 0, .int .u8 0, .int .u8 0, .int .u8 0, .int .u8 0, .int .u8 0, .int .u8 0, .int .u8 0, .int .u8 0, .int .u8 0, .int .u8 0, .int .u8 0, .int .u8 0, .int .u8 0, .int .u8 0, .int .u8 0, .int .u8 0, .int .i64 0] 27) = w1 at HM ⊢
  go_wp2_with fail
  go_loopw [11, 6] (fun v vb wr => ∃ j : Nat, j ≤ n ∧ v = .int .i64 (j : Int) ∧ ((vb = .int .i64 (-1) ∧ leastT (l.take j) = none) ∨ ∃ (k : Nat) (q : TimerM), k < j ∧ vb = .int .i64 (k : Int) ∧ l[k]? = some q ∧ leastT (l.take j) = some q) ∧ Lows w [blkL w.heap.size 27 timerZ] wr) (fun v _ _ => n - (intOf v).toNat)
  case atStart => exact ⟨0, by omega, rfl, .inl ⟨rfl, rfl⟩, HM.out⟩
  case round =>
    clear HM
    obtain ⟨j, hj, rfl, hb, hM⟩ := hrel
    have HM := Lib.hid hM
    clear hM
    by_cases hjn : j < n
    · have d1 : decide ((j : Int) < (n : Int)) = true := by simp; omega
      obtain ⟨b, off, rfl⟩ := HA.out.1.addr (by omega)
      obtain ⟨s, hs⟩ : ∃ s, l[j]? = some s := ⟨l[j]'(by rw [HA.out.len]; exact hjn), List.getElem?_eq_getElem _⟩
      have HOK := Lib.hid (HA.out.ok hs)
      have hat := HA.out.at j s hs
      have HLA := Lib.hid (hat.2.mono HM.out.bel hat.1)
      have HJS := Lib.hid hs
      obtain ⟨sc, hsc⟩ : ∃ z, s.cells.toArray = z := ⟨_, rfl⟩
      have HSC := Lib.hid hsc
      obtain ⟨sk, hsk⟩ : ∃ z, (s.peer.map u8v).toArray = z := ⟨_, rfl⟩
      have HSK := Lib.hid hsk
      clear hat hs hsc hsk
      have HZ := Lib.hid (Blk.new wr 27 timerZ)
      have HTS := Lib.hid (show leastT (l.take (j + 1)) = leastS (leastT (l.take j)) s from by rw [take_snoc HJS.out, leastT_snoc])
      obtain ⟨vb, hvb⟩ : ∃ z, u6 = z := ⟨_, rfl⟩
      rw [hvb] at hb
      have HB := Lib.hid hb
      have HVB := Lib.hid hvb
      clear hb hvb
      go_upto_region 5 with (first | (refine wpList_load_obj rfl 27 (.tmp 14) rfl b _ rfl s.cells HLA.out _ Try.underlying27 rfl (timer_cellsOf s HOK.out) ?_; rw [HSC.out]) | (refine wpList_store_obj rfl 27 (.tmp 8) (.tmp 15) rfl wr.heap.size 0 s.cells rfl (by show Value.agg sc = _; rw [HSC.out]) 27 timerZ HZ.out (timer_cellsOf s HOK.out) (by rw [TimerM.cells_length HOK.out, timerZ_length]; omega) (timer_one s) ?_; intro w5 hb4 hg4))
      rw [setL_all timerZ s.cells (by rw [TimerM.cells_length HOK.out, timerZ_length])] at hb4
      replace HM := Lib.hid (show Lows w [blkL wr.heap.size 27 s.cells, blkL w.heap.size 27 timerZ] w5 from (HM.out.below (below_fresh hg4)).cons (blkL wr.heap.size 27 s.cells) hb4)
      clear hb4 hg4 HZ d1 HLA
      generalize wr.heap.size = P1 at HM ⊢
      have hbb := HB.out
      have hvv := HVB.out
      subst hvv
      clear HVB
      rcases hbb with ⟨rfl, hl⟩ | ⟨k, q, hkj, rfl, hq, hl⟩
      · clear HB
        have HL := Lib.hid (show leastT (l.take (j + 1)) = some s from by rw [HTS.out, hl]; rfl)
        clear hl
        refine wp_region_held_drew (S := fun W' => Lows w [blkL P1 27 s.cells, blkL w.heap.size 27 timerZ] W') (by kernel_rfl) (HM.out.drew) (fun hHeld => ?_)
        replace HM := Lib.hid HM.out.drew
        generalize w5.drew = wd1 at HM hHeld ⊢
        refine take_first (v := ?_) 0 rfl (by kernel_rfl) (by kernel_rfl) (by kernel_rfl) (fun _ _ _ h => h) (Or.inl ⟨by rfl, ?_⟩) (by assumption) ?_
        rotate_left
        · (intro w hSw; (try dsimp only at hSw); go_simp; try with_reducible rfl)
        (try simp only [Act.put, List.setIfInBounds_toArray, List.set_cons_zero, List.set_cons_succ])
        refine take_first (v := ?_) 1 rfl (by kernel_rfl) (by kernel_rfl) (by kernel_rfl) (fun _ _ _ h => h) (Or.inl ⟨by rfl, ?_⟩) (by assumption) ?_
        rotate_left
        · (intro w hSw; (try dsimp only at hSw); go_simp; try with_reducible rfl)
        (try simp only [Act.put, List.setIfInBounds_toArray, List.set_cons_zero, List.set_cons_succ])
        refine take_first (v := ?_) 2 rfl (by kernel_rfl) (by kernel_rfl) (by kernel_rfl) (fun _ _ _ h => h) (Or.inl ⟨by rfl, ?_⟩) (by assumption) ?_
        rotate_left
        · (intro w hSw; (try dsimp only at hSw); go_simp; try with_reducible rfl)
        (try simp only [Act.put, List.setIfInBounds_toArray, List.set_cons_zero, List.set_cons_succ])
        refine take_first (v := undef) 3 rfl (by kernel_rfl) (by kernel_rfl) (by kernel_rfl) (fun _ _ _ h => h) (Or.inr ⟨by rfl, rfl⟩) (by assumption) ?_
        (try simp only [Act.put, List.setIfInBounds_toArray, List.set_cons_zero, List.set_cons_succ])
        refine take_first (v := undef) 4 rfl (by kernel_rfl) (by kernel_rfl) (by kernel_rfl) (fun _ _ _ h => h) (Or.inr ⟨by rfl, rfl⟩) (by assumption) ?_
        (try simp only [Act.put, List.setIfInBounds_toArray, List.set_cons_zero, List.set_cons_succ])
        refine take_first (v := undef) 5 rfl (by kernel_rfl) (by kernel_rfl) (by kernel_rfl) (fun _ _ _ h => h) (Or.inr ⟨by rfl, rfl⟩) (by assumption) ?_
        (try simp only [Act.put, List.setIfInBounds_toArray, List.set_cons_zero, List.set_cons_succ])
        refine take_first (v := undef) 6 rfl (by kernel_rfl) (by kernel_rfl) (by kernel_rfl) (fun _ _ _ h => h) (Or.inr ⟨by rfl, rfl⟩) (by assumption) ?_
        (try simp only [Act.put, List.setIfInBounds_toArray, List.set_cons_zero, List.set_cons_succ])
        refine take_first (v := undef) 7 rfl (by kernel_rfl) (by kernel_rfl) (by kernel_rfl) (fun _ _ _ h => h) (Or.inr ⟨by rfl, rfl⟩) (by assumption) ?_
        (try simp only [Act.put, List.setIfInBounds_toArray, List.set_cons_zero, List.set_cons_succ])
        refine take_first (v := undef) 8 rfl (by kernel_rfl) (by kernel_rfl) (by kernel_rfl) (fun _ _ _ h => h) (Or.inr ⟨by rfl, rfl⟩) (by assumption) ?_
        (try simp only [Act.put, List.setIfInBounds_toArray, List.set_cons_zero, List.set_cons_succ])
        refine take_first (v := ?_) 9 rfl (by kernel_rfl) (by kernel_rfl) (by kernel_rfl) (fun _ _ _ h => h) (Or.inl ⟨by rfl, ?_⟩) (by assumption) ?_
        rotate_left
        · (intro w hSw; (try dsimp only at hSw); go_simp; try with_reducible rfl)
        (try simp only [Act.put, List.setIfInBounds_toArray, List.set_cons_zero, List.set_cons_succ])
        refine wpAnyH_done (by kernel_rfl) ?_ _
        clear hHeld
        replace HM := Lib.hid (show Lows w [blkL w.heap.size 27 timerZ] wd1 from HM.out.tail 0)
        go_wp2_with fail
        go_roundw
        case rel => exact ⟨j + 1, by omega, by go_num, .inr ⟨j, s, by omega, rfl, HJS.out, HL.out⟩, HM.out⟩
        case measure => simp [intOf]; omega
      · clear HB
        have HOQ := Lib.hid (HA.out.ok hq)
        have hat := HA.out.at k q hq
        have HLQ := Lib.hid (show ∀ W, Below w.heap.size w W → At W b (off + k * 34) q.cells from fun W hW => hat.2.mono hW hat.1)
        have hlc := refLessT_any s q
        obtain ⟨qc, hqc⟩ : ∃ z, q.cells.toArray = z := ⟨_, rfl⟩
        rw [HSC.out, hqc] at hlc
        have HQC := Lib.hid hqc
        obtain ⟨y, hy⟩ : ∃ y, lessT s q = y := ⟨_, rfl⟩
        rw [hy] at hlc
        have HLC := Lib.hid hlc
        have HL := Lib.hid (show leastT (l.take (j + 1)) = if y = true then some s else some q from by rw [HTS.out, hl, ← hy]; rfl)
        have HQ := Lib.hid hq
        have dz : decide ((k : Int) < 0) = false := by simp
        have ek : (k : Int) < (n : Int) := by omega
        have HKJ := Lib.hid hkj
        clear hat hqc hlc hy hl hq hkj
        cases y with
        | true =>
          refine wp_region_held_drew (S := fun W' => Lows w [blkL P1 27 s.cells, blkL w.heap.size 27 timerZ] W') (by kernel_rfl) (HM.out.drew) (fun hHeld => ?_)
          replace HM := Lib.hid HM.out.drew
          generalize w5.drew = wd1 at HM hHeld ⊢
          refine take_first (v := ?_) 0 rfl (by kernel_rfl) (by kernel_rfl) (by kernel_rfl) (fun _ _ _ h => h) (Or.inl ⟨by rfl, ?_⟩) (by assumption) ?_
          rotate_left
          · (intro w hSw; (try dsimp only at hSw); go_simp; try with_reducible rfl)
          (try simp only [Act.put, List.setIfInBounds_toArray, List.set_cons_zero, List.set_cons_succ])
          refine take_first (v := ?_) 1 rfl (by kernel_rfl) (by kernel_rfl) (by kernel_rfl) (fun _ _ _ h => h) (Or.inl ⟨by rfl, ?_⟩) (by assumption) ?_
          rotate_left
          · (intro w hSw; (try dsimp only at hSw); go_simp; try with_reducible rfl)
          (try simp only [Act.put, List.setIfInBounds_toArray, List.set_cons_zero, List.set_cons_succ])
          refine take_first (v := ?_) 2 rfl (by kernel_rfl) (by kernel_rfl) (by kernel_rfl) (fun _ _ _ h => h) (Or.inl ⟨by rfl, ?_⟩) (by assumption) ?_
          rotate_left
          · (intro w hSw; (try dsimp only at hSw); go_simp; try with_reducible rfl)
          (try simp only [Act.put, List.setIfInBounds_toArray, List.set_cons_zero, List.set_cons_succ])
          refine take_first (v := .agg sc) 3 rfl (by kernel_rfl) (by kernel_rfl) (by kernel_rfl) (fun _ _ _ h => h) (by rw [← HSC.out]; exact yields_load_obj (by rfl) 27 (.tmp 8) rfl P1 0 rfl s.cells (fun w' hb => (Lows.blk hb 0 rfl).all) _ Try.underlying27 rfl (timer_cellsOf s HOK.out)) (by assumption) ?_
          (try simp only [Act.put, List.setIfInBounds_toArray, List.set_cons_zero, List.set_cons_succ])
          refine take_first (v := ?_) 4 rfl (by kernel_rfl) (by kernel_rfl) (by kernel_rfl) (fun _ _ _ h => h) (Or.inl ⟨by rfl, ?_⟩) (by assumption) ?_
          rotate_left
          · (intro w hSw; (try dsimp only at hSw); go_simp; try with_reducible rfl)
          (try simp only [Act.put, List.setIfInBounds_toArray, List.set_cons_zero, List.set_cons_succ])
          refine take_first (v := ?_) 5 rfl (by kernel_rfl) (by kernel_rfl) (by kernel_rfl) (fun _ _ _ h => h) (Or.inl ⟨by rfl, ?_⟩) (by assumption) ?_
          rotate_left
          · (intro w hSw; (try dsimp only at hSw); go_simp; try with_reducible rfl)
          (try simp only [Act.put, List.setIfInBounds_toArray, List.set_cons_zero, List.set_cons_succ])
          refine take_first (v := ?_) 6 rfl (by kernel_rfl) (by kernel_rfl) (by kernel_rfl) (fun _ _ _ h => h) (Or.inl ⟨by rfl, ?_⟩) (by assumption) ?_
          rotate_left
          · (intro w hSw; (try dsimp only at hSw); go_simp; try with_reducible rfl)
          (try simp only [Act.put, List.setIfInBounds_toArray, List.set_cons_zero, List.set_cons_succ])
          refine take_first (v := .agg qc) 7 rfl (by kernel_rfl) (by kernel_rfl) (by kernel_rfl) (fun _ _ _ h => h) (by rw [← HQC.out]; exact yields_load_obj (by rfl) 27 (.tmp 22) rfl b _ rfl q.cells (fun w' hb => HLQ.out w' hb.bel) _ Try.underlying27 rfl (timer_cellsOf q HOQ.out)) (by assumption) ?_
          (try simp only [Act.put, List.setIfInBounds_toArray, List.set_cons_zero, List.set_cons_succ])
          refine step_one 8 rfl (by kernel_rfl) (fun K hK => ?_)
          clear hHeld
          go_simp
          refine (HLC.out _ HOK.out HOQ.out).mono ?_
          rintro e wy2 ⟨rfl, hb⟩
          replace HM := Lib.hid (show Lows w [blkL P1 27 s.cells, blkL w.heap.size 27 timerZ] wy2 from HM.out.below hb)
          clear hb
          go_wp2_with fail
          refine hK.out _ _ (HM.out) (fun hHeld => ?_)
          clear hK K
          (try simp only [Act.put, List.setIfInBounds_toArray, List.set_cons_zero, List.set_cons_succ])
          refine take_first (v := ?_) 9 rfl (by kernel_rfl) (by kernel_rfl) (by kernel_rfl) (fun _ _ _ h => h) (Or.inl ⟨by rfl, ?_⟩) (by assumption) ?_
          rotate_left
          · (intro w hSw; (try dsimp only at hSw); go_simp; try with_reducible rfl)
          (try simp only [Act.put, List.setIfInBounds_toArray, List.set_cons_zero, List.set_cons_succ])
          refine wpAnyH_done (by kernel_rfl) ?_ _
          clear hHeld
          replace HM := Lib.hid (show Lows w [blkL w.heap.size 27 timerZ] wy2 from HM.out.tail 0)
          go_wp2_with fail
          go_roundw
          case rel => exact ⟨j + 1, by omega, by go_num, .inr ⟨j, s, by omega, rfl, HJS.out, HL.out⟩, HM.out⟩
          case measure => simp [intOf]; omega
        | false =>
          refine wp_region_held_drew (S := fun W' => Lows w [blkL P1 27 s.cells, blkL w.heap.size 27 timerZ] W') (by kernel_rfl) (HM.out.drew) (fun hHeld => ?_)
          replace HM := Lib.hid HM.out.drew
          generalize w5.drew = wd1 at HM hHeld ⊢
          refine take_first (v := ?_) 0 rfl (by kernel_rfl) (by kernel_rfl) (by kernel_rfl) (fun _ _ _ h => h) (Or.inl ⟨by rfl, ?_⟩) (by assumption) ?_
          rotate_left
          · (intro w hSw; (try dsimp only at hSw); go_simp; try with_reducible rfl)
          (try simp only [Act.put, List.setIfInBounds_toArray, List.set_cons_zero, List.set_cons_succ])
          refine take_first (v := ?_) 1 rfl (by kernel_rfl) (by kernel_rfl) (by kernel_rfl) (fun _ _ _ h => h) (Or.inl ⟨by rfl, ?_⟩) (by assumption) ?_
          rotate_left
          · (intro w hSw; (try dsimp only at hSw); go_simp; try with_reducible rfl)
          (try simp only [Act.put, List.setIfInBounds_toArray, List.set_cons_zero, List.set_cons_succ])
          refine take_first (v := ?_) 2 rfl (by kernel_rfl) (by kernel_rfl) (by kernel_rfl) (fun _ _ _ h => h) (Or.inl ⟨by rfl, ?_⟩) (by assumption) ?_
          rotate_left
          · (intro w hSw; (try dsimp only at hSw); go_simp; try with_reducible rfl)
          (try simp only [Act.put, List.setIfInBounds_toArray, List.set_cons_zero, List.set_cons_succ])
          refine take_first (v := .agg sc) 3 rfl (by kernel_rfl) (by kernel_rfl) (by kernel_rfl) (fun _ _ _ h => h) (by rw [← HSC.out]; exact yields_load_obj (by rfl) 27 (.tmp 8) rfl P1 0 rfl s.cells (fun w' hb => (Lows.blk hb 0 rfl).all) _ Try.underlying27 rfl (timer_cellsOf s HOK.out)) (by assumption) ?_
          (try simp only [Act.put, List.setIfInBounds_toArray, List.set_cons_zero, List.set_cons_succ])
          refine take_first (v := ?_) 4 rfl (by kernel_rfl) (by kernel_rfl) (by kernel_rfl) (fun _ _ _ h => h) (Or.inl ⟨by rfl, ?_⟩) (by assumption) ?_
          rotate_left
          · (intro w hSw; (try dsimp only at hSw); go_simp; try with_reducible rfl)
          (try simp only [Act.put, List.setIfInBounds_toArray, List.set_cons_zero, List.set_cons_succ])
          refine take_first (v := ?_) 5 rfl (by kernel_rfl) (by kernel_rfl) (by kernel_rfl) (fun _ _ _ h => h) (Or.inl ⟨by rfl, ?_⟩) (by assumption) ?_
          rotate_left
          · (intro w hSw; (try dsimp only at hSw); go_simp; try with_reducible rfl)
          (try simp only [Act.put, List.setIfInBounds_toArray, List.set_cons_zero, List.set_cons_succ])
          refine take_first (v := ?_) 6 rfl (by kernel_rfl) (by kernel_rfl) (by kernel_rfl) (fun _ _ _ h => h) (Or.inl ⟨by rfl, ?_⟩) (by assumption) ?_
          rotate_left
          · (intro w hSw; (try dsimp only at hSw); go_simp; try with_reducible rfl)
          (try simp only [Act.put, List.setIfInBounds_toArray, List.set_cons_zero, List.set_cons_succ])
          refine take_first (v := .agg qc) 7 rfl (by kernel_rfl) (by kernel_rfl) (by kernel_rfl) (fun _ _ _ h => h) (by rw [← HQC.out]; exact yields_load_obj (by rfl) 27 (.tmp 22) rfl b _ rfl q.cells (fun w' hb => HLQ.out w' hb.bel) _ Try.underlying27 rfl (timer_cellsOf q HOQ.out)) (by assumption) ?_
          (try simp only [Act.put, List.setIfInBounds_toArray, List.set_cons_zero, List.set_cons_succ])
          refine step_one 8 rfl (by kernel_rfl) (fun K hK => ?_)
          clear hHeld
          go_simp
          refine (HLC.out _ HOK.out HOQ.out).mono ?_
          rintro e wy2 ⟨rfl, hb⟩
          replace HM := Lib.hid (show Lows w [blkL P1 27 s.cells, blkL w.heap.size 27 timerZ] wy2 from HM.out.below hb)
          clear hb
          go_wp2_with fail
          refine hK.out _ _ (HM.out) (fun hHeld => ?_)
          clear hK K
          (try simp only [Act.put, List.setIfInBounds_toArray, List.set_cons_zero, List.set_cons_succ])
          refine take_first (v := ?_) 9 rfl (by kernel_rfl) (by kernel_rfl) (by kernel_rfl) (fun _ _ _ h => h) (Or.inl ⟨by rfl, ?_⟩) (by assumption) ?_
          rotate_left
          · (intro w hSw; (try dsimp only at hSw); go_simp; try with_reducible rfl)
          (try simp only [Act.put, List.setIfInBounds_toArray, List.set_cons_zero, List.set_cons_succ])
          refine wpAnyH_done (by kernel_rfl) ?_ _
          clear hHeld
          replace HM := Lib.hid (show Lows w [blkL w.heap.size 27 timerZ] wy2 from HM.out.tail 0)
          go_wp2_with fail
          go_roundw
          case rel => exact ⟨j + 1, by omega, by go_num, .inr ⟨k, q, by have := HKJ.out; omega, rfl, HQ.out, HL.out⟩, HM.out⟩
          case measure => simp [intOf]; omega
    · obtain rfl : n = j := by omega
      have d1 : decide ((n : Int) < (n : Int)) = false := by simp
      have htk : l.take n = l := List.take_of_length_le (by rw [HA.out.len]; exact Nat.le_refl _)
      rw [htk] at hb
      rcases hb with ⟨rfl, hl⟩ | ⟨k, q, hkj, rfl, hq, hl⟩
      · have HR := Lib.hid (dueT_none (tz := tz) hl)
        clear hl htk
        go_wp2_with (first | (refine wpList_build_as rfl 27 [] rfl #[.int .i64 0, .int .u8 0, .int .u8 0, .int .u8 0, .int .u8 0, .int .u8 0, .int .u8 0, .int .u8 0, .int .u8 0, .int .u8 0, .int .u8 0, .int .u8 0, .int .u8 0, .int .u8 0, .int .u8 0, .int .u8 0, .int .u8 0, .int .u8 0, .int .u8 0, .int .u8 0, .int .u8 0, .int .u8 0, .int .u8 0, .int .u8 0, .int .u8 0, .int .u8 0, .int .u8 0, .int .u8 0, .int .u8 0, .int .u8 0, .int .u8 0, .int .u8 0, .int .u8 0, .int .i64 0] ?_ ?_; kernel_rfl) | (refine wpList_store_obj rfl 27 (.tmp 4) (.tmp 39) rfl w.heap.size 0 timerZ rfl (by rfl) 27 timerZ (HM.out.blk 0 rfl) HS0.out (by rw [timerZ_length]; omega) (timer_one timer0) ?_; intro w9 hb9 hg9))
        rw [setL_all timerZ timerZ rfl] at hb9
        exact bodyPost_ret (results_obj_tmp rfl _ _ w.heap.size 27 timerZ _ rfl hb9 Try.underlying27 rfl HS0.out) rfl ⟨by rw [HR.out]; rfl, HM.out.bel.grown hg9 HM.out.bel.size (fun k hk => by injection hk with hk; omega)⟩
      · obtain ⟨b, off, rfl⟩ := HA.out.1.addr (by omega)
        have HOQ := Lib.hid (HA.out.ok hq)
        have hat := HA.out.at k q hq
        have HLQ := Lib.hid (hat.2.mono HM.out.bel hat.1)
        have fq := tm_at HLQ.out
        have dz : decide ((k : Int) < 0) = false := by simp
        have ek : (k : Int) < (n : Int) := by omega
        by_cases htq : q.tm ≤ tz
        · have HR := Lib.hid (dueT_some hl htq)
          have d2 : decide (q.tm > tz) = false := by simp; omega
          obtain ⟨tq, htq2⟩ : ∃ z, q.tm = z := ⟨_, rfl⟩
          rw [htq2] at fq d2
          obtain ⟨qc, hqc⟩ : ∃ z, q.cells.toArray = z := ⟨_, rfl⟩
          have HQC := Lib.hid hqc
          clear hl htk hat hq htq htq2 hqc hkj
          go_wp2_with (first | (refine wpList_load_obj rfl 27 (.tmp 42) rfl b _ rfl q.cells HLQ.out _ Try.underlying27 rfl (timer_cellsOf q HOQ.out) ?_; rw [HQC.out]) | (refine wpList_store_obj rfl 27 (.tmp 4) (.tmp 43) rfl w.heap.size 0 q.cells rfl (by show Value.agg qc = _; rw [HQC.out]) 27 timerZ (HM.out.blk 0 rfl) (timer_cellsOf q HOQ.out) (by rw [TimerM.cells_length HOQ.out, timerZ_length]; omega) (timer_one q) ?_; intro w9 hb9 hg9))
          rw [setL_all timerZ q.cells (by rw [TimerM.cells_length HOQ.out, timerZ_length])] at hb9
          exact bodyPost_ret (results_obj_tmp rfl _ _ w.heap.size 27 q.cells _ rfl hb9 Try.underlying27 rfl (timer_cellsOf q HOQ.out)) rfl ⟨by rw [HR.out]; rfl, HM.out.bel.grown hg9 HM.out.bel.size (fun k hk => by injection hk with hk; omega)⟩
        · have HR := Lib.hid (dueT_late hl htq)
          have d2 : decide (q.tm > tz) = true := by simp; omega
          obtain ⟨tq, htq2⟩ : ∃ z, q.tm = z := ⟨_, rfl⟩
          rw [htq2] at fq d2
          clear hl htk hat hq htq htq2 hkj
          go_wp2_with (first | (refine wpList_build_as rfl 27 [] rfl #[.int .i64 0, .int .u8 0, .int .u8 0, .int .u8 0, .int .u8 0, .int .u8 0, .int .u8 0, .int .u8 0, .int .u8 0, .int .u8 0, .int .u8 0, .int .u8 0, .int .u8 0, .int .u8 0, .int .u8 0, .int .u8 0, .int .u8 0, .int .u8 0, .int .u8 0, .int .u8 0, .int .u8 0, .int .u8 0, .int .u8 0, .int .u8 0, .int .u8 0, .int .u8 0, .int .u8 0, .int .u8 0, .int .u8 0, .int .u8 0, .int .u8 0, .int .u8 0, .int .u8 0, .int .i64 0] ?_ ?_; kernel_rfl) | (refine wpList_store_obj rfl 27 (.tmp 4) (.tmp 39) rfl w.heap.size 0 timerZ rfl (by rfl) 27 timerZ (HM.out.blk 0 rfl) HS0.out (by rw [timerZ_length]; omega) (timer_one timer0) ?_; intro w9 hb9 hg9))
          rw [setL_all timerZ timerZ rfl] at hb9
          exact bodyPost_ret (results_obj_tmp rfl _ _ w.heap.size 27 timerZ _ rfl hb9 Try.underlying27 rfl HS0.out) rfl ⟨by rw [HR.out]; rfl, HM.out.bel.grown hg9 HM.out.bel.size (fun k hk => by injection hk with hk; omega)⟩
end Go.Proofs.Ytffeecaidkeepaa
