/-
  The predicates that the program's timers hand on. The contract of slices.Clone at a slice of structs. The contract of slices.DeleteFunc at a slice of structs of the call's own. The contract of slices.DeleteFunc at a slice of structs of the call's own, for a predicate that looks at what was made behind the slice. The builtin copy of objects of any size into a block, the append of made objects where there is no room, and what slices.overlaps gives of two blocks. No function of the program is named here. The contract of slices.DeleteFunc at a slice of structs of the call's own, for a predicate that looks at what was made behind the slice; the result is a row of the call's own. What is asked of Cancel, CancelPeer and Has holds of the landed ones. The contract of slices.Insert of one element at a slice of structs of the call's own. What is asked of Set holds of the landed one. No statement is proved here.
-/
import Derived.Shelf.Abstract
import Derived.RegionTactic
import Derived.Deep.DeepCutAuto
import Derived.Laws.Cover3
import Derived.Lib.AppendZerosOnto
import Derived.Lib.Overlaps
import Derived.Test.YtffeecaidkeepaaWheelDrainsB3
namespace Go.Proofs.Ytffeecaidkeepaa
open Go.RowKit

set_option maxRecDepth 100000 in
set_option maxHeartbeats 8000000 in
theorem serves_any (k : List UInt8) (d : Int) (w : World) :
    Calls Try.prog 30 #[.agg (k.map u8v).toArray, .int .i64 d] w fun e w' => e = .returned (.func (.func 40) #[] #[.pointer (some ⟨w.heap.size, 0, none⟩), .pointer (some ⟨w.heap.size + 1, 0, none⟩)]) ∧ Blk w' w.heap.size 25 (k.map u8v) ∧ Blk w' (w.heap.size + 1) 3 [.int .i64 d] ∧ Below w.heap.size w w' := by
  obtain ⟨kk, hkk⟩ : ∃ z, (k.map u8v).toArray = z := ⟨_, rfl⟩
  rw [hkk]
  have hm := ((Lows.nil w).alloc 25 kk (k.map u8v) hkk.symm).alloc 3 #[.int .i64 d] [.int .i64 d] rfl
  have HM := Lib.hid (show Lows w [blkL (w.heap.size + 1) 3 [.int .i64 d], blkL w.heap.size 25 (k.map u8v)] ((w.alloc (.cells kk 25)).alloc (.cells #[.int .i64 d] 3)) from by simpa using hm)
  clear hm hkk
  go_enter Try.func30, Try.ntmps30
  go_upto_region 1 with fail
  generalize (w.alloc (.cells kk 25)).alloc (.cells #[.int .i64 d] 3) = w1 at HM ⊢
  go_wp2
  go_ret
  exact ⟨rfl, HM.out.blk 1 rfl, HM.out.blk 0 rfl, HM.out.bel⟩
set_option maxRecDepth 100000 in
set_option maxHeartbeats 8000000 in
theorem servesPred_any (k : List UInt8) (d : Int) (hk : k.length = 32) (hd : inI64 d) (s : TimerM) (hs : s.ok) (G G2 : Nat) (w : World) (hb : Blk w G 25 (k.map u8v)) (hb2 : Blk w G2 3 [.int .i64 d]) :
    Calls Try.prog 40 #[.agg s.cells.toArray, .pointer (some ⟨G, 0, none⟩), .pointer (some ⟨G2, 0, none⟩)] w fun e w' => e = .returned (.bool (forT k d s)) ∧ Below w.heap.size w w' := by
  have hbt := timer_built s hs
  have hpu := whPurpose_any s hs
  have heq := pur_eqd s.peer k s.kind d hs.2.1 hk hs.2.2 hd
  have hpk := pur_built hk d
  obtain ⟨sc, hsc⟩ : ∃ z, s.cells.toArray = z := ⟨_, rfl⟩
  obtain ⟨kk, hkk⟩ : ∃ z, (k.map u8v).toArray = z := ⟨_, rfl⟩
  obtain ⟨ps, hps⟩ : ∃ z, (purC s.peer s.kind).toArray = z := ⟨_, rfl⟩
  obtain ⟨pk, hpk2⟩ : ∃ z, (purC k d).toArray = z := ⟨_, rfl⟩
  obtain ⟨y, hy⟩ : ∃ y, forT k d s = y := ⟨_, rfl⟩
  rw [show (decide (s.peer = k) && decide (s.kind = d)) = y from hy] at heq
  rw [hsc] at hbt hpu
  rw [hps] at hpu heq
  rw [hpk2] at heq hpk
  rw [hkk] at hpk
  rw [hsc, hy]
  have hm := ((((Lows.nil w).cons (blkL G 25 (k.map u8v)) hb).cons (blkL G2 3 [.int .i64 d]) hb2).alloc 27 sc s.cells hsc.symm)
  have HM := Lib.hid hm
  have HBT := Lib.hid hbt
  have HPU := Lib.hid hpu
  have HEQ := Lib.hid heq
  have HPK := Lib.hid hpk
  have HSC := Lib.hid hsc
  have HKK := Lib.hid hkk
  have HOK := Lib.hid hs
  have HK := Lib.hid hk
  clear hm hbt hpu heq hpk hsc hkk hps hpk2 hy hs hb hb2 hk
  go_enter Try.func40, Try.ntmps40
  go_upto_region 1 with fail
  generalize w.alloc (.cells sc 27) = w1 at HM ⊢
  obtain ⟨GT, hGT⟩ : ∃ z, w.heap.size = z := ⟨_, rfl⟩
  rw [hGT] at HM ⊢
  clear hGT
  refine wp_region_held_drew (S := fun W' => Lows w [blkL GT 27 s.cells, blkL G2 3 [.int .i64 d], blkL G 25 (k.map u8v)] W') (by kernel_rfl) (HM.out.drew) (fun hHeld => ?_)
  replace HM := Lib.hid HM.out.drew
  generalize w1.drew = wd1 at HM hHeld ⊢
  refine take_first (v := .agg sc) 0 rfl (by kernel_rfl) (by kernel_rfl) (by kernel_rfl) (fun _ _ _ h => h) (by rw [← HSC.out]; exact yields_load_obj (by rfl) 27 (.tmp 3) rfl GT 0 rfl s.cells (fun w' hb => (Lows.blk hb 0 rfl).all) _ Try.underlying27 rfl (timer_cellsOf s HOK.out)) (by assumption) ?_
  (try simp only [Act.put, List.setIfInBounds_toArray, List.set_cons_zero, List.set_cons_succ])
  refine take_first (v := .agg sc) 1 rfl (by kernel_rfl) (by kernel_rfl) (by kernel_rfl) (fun _ _ _ h => h) (yields_build_obj (by rfl) 58 [(0, .tmp 5)] rfl sc HBT.out) (by assumption) ?_
  (try simp only [Act.put, List.setIfInBounds_toArray, List.set_cons_zero, List.set_cons_succ])
  refine take_first (v := .agg kk) 3 rfl (by kernel_rfl) (by kernel_rfl) (by kernel_rfl) (fun _ _ _ h => h) (by rw [← HKK.out]; exact yields_load_obj (by rfl) 25 (.tmp 1) rfl G 0 rfl (k.map u8v) (fun w' hb => (Lows.blk hb 2 rfl).all) _ Try.underlying25 rfl (key_cellsOf k HK.out)) (by assumption) ?_
  (try simp only [Act.put, List.setIfInBounds_toArray, List.set_cons_zero, List.set_cons_succ])
  refine take_first (v := ?_) 4 rfl (by kernel_rfl) (by kernel_rfl) (by kernel_rfl) (fun _ _ _ h => h) (Or.inl ⟨by rfl, ?_⟩) (by assumption) ?_
  rotate_left
  · (intro w hSw; (try dsimp only at hSw); have fb := (Lows.blk hSw 1 rfl).all 0 _ rfl; go_simp; try with_reducible rfl)
  (try simp only [Act.put, List.setIfInBounds_toArray, List.set_cons_zero, List.set_cons_succ])
  refine take_first (v := .agg pk) 5 rfl (by kernel_rfl) (by kernel_rfl) (by kernel_rfl) (fun _ _ _ h => h) (yields_build_obj (by rfl) 60 [(0, .tmp 8), (1, .tmp 9)] rfl pk HPK.out) (by assumption) ?_
  (try simp only [Act.put, List.setIfInBounds_toArray, List.set_cons_zero, List.set_cons_succ])
  refine step_one 2 rfl (by kernel_rfl) (fun K hK => ?_)
  clear hHeld
  go_simp
  refine (HPU.out _).mono ?_
  rintro e wy2 ⟨rfl, hb⟩
  replace HM := Lib.hid (show Lows w [blkL GT 27 s.cells, blkL G2 3 [.int .i64 d], blkL G 25 (k.map u8v)] wy2 from HM.out.below hb)
  clear hb
  go_wp2_with fail
  refine hK.out _ _ (HM.out) (fun hHeld => ?_)
  clear hK K
  (try simp only [Act.put, List.setIfInBounds_toArray, List.set_cons_zero, List.set_cons_succ])
  refine take_first (v := .bool y) 6 rfl (by kernel_rfl) (by kernel_rfl) (by kernel_rfl) (fun _ _ _ h => h) (yields_cmp_agg false (by rfl) 60 60 7 10 rfl ps pk y rfl rfl pur_noguard (fun w' => HEQ.out w')) (by assumption) ?_
  (try simp only [Act.put, List.setIfInBounds_toArray, List.set_cons_zero, List.set_cons_succ])
  refine take_first (v := ?_) 7 rfl (by kernel_rfl) (by kernel_rfl) (by kernel_rfl) (fun _ _ _ h => h) (Or.inl ⟨by rfl, ?_⟩) (by assumption) ?_
  rotate_left
  · (intro w hSw; (try dsimp only at hSw); go_simp; try with_reducible rfl)
  (try simp only [Act.put, List.setIfInBounds_toArray, List.set_cons_zero, List.set_cons_succ])
  refine wpAnyH_done (by kernel_rfl) ?_ _
  clear hHeld
  have HF := Lib.hid HM.out.bel
  clear HM
  go_wp2
  go_ret
  exact ⟨rfl, HF.out⟩
/-- the predicates on cells -/
noncomputable def cellsP (q : TimerM → Bool) (o : List Value) : Bool := @decide (∃ t : TimerM, t.ok ∧ t.cells = o ∧ q t = true) (Classical.propDecidable _)
theorem cellsP_is (q : TimerM → Bool) {t : TimerM} (h : t.ok) : cellsP q t.cells = q t := by
  unfold cellsP
  rw [Bool.eq_iff_iff, @decide_eq_true_iff _ (Classical.propDecidable _)]
  constructor
  · rintro ⟨s, hs, he, hq⟩
    rw [← (timer_inj hs h).1 he]
    exact hq
  · intro hq; exact ⟨t, h, rfl, hq⟩
theorem tms_filter (q : TimerM → Bool) {l : List TimerM} (h : ∀ s ∈ l, s.ok) : (tmsV l).filter (fun o => !cellsP q o) = tmsV (l.filter fun t => !q t) := by
  rw [tmsV, tmsV, List.filter_map]
  congr 1
  exact List.filter_congr fun s hs => by rw [Function.comp_apply, cellsP_is q (h s hs)]
end Go.Proofs.Ytffeecaidkeepaa
namespace Go.Proofs.Ytffeecaidkeepaa
open Go.RowKit

theorem tm_eql_nil (A : Option Addr) (n c : Nat) (w : World) : (binOp .eql 23 (.slice A n c) (.slice none 0 0)).run Try.prog w = .ok (.bool A.isNone) w := by
  have h := run_equal_slice_nil (P := Try.prog) w 23 27 A n c Try.underlying23
  simp [binOp, h, Result.andThen]
set_option maxRecDepth 100000 in
set_option maxHeartbeats 16000000 in
theorem tmClone_any (A : Option Addr) (n c : Nat) (os : List (List Value)) (hn : n ≤ 1000) (h1 : ∀ o ∈ os, ∀ v ∈ o, v.oneCell' = true) (w : World) (hr : RdRow w w.heap.size A 34 n os) :
    Calls Try.prog 29 #[.slice A n c] w fun e w' => ∃ A' c', e = .returned (.slice A' n c') ∧ w'.ownsRow w.heap.size 27 34 (.slice A' n c') n os.flatten ∧ Below w.heap.size w w' := by
  have HR := Lib.hid hr
  have H1 := Lib.hid (one_flat h1)
  obtain ⟨ik, hik, hiz, his, hib⟩ := timerInfo
  have HKI := Lib.hid (And.intro hik (And.intro hiz (And.intro his hib)))
  clear hik hiz his hib
  clear h1
  cases A with
  | none =>
    have hn0 : n = 0 := by
      rcases Nat.eq_zero_or_pos n with h | h
      · exact h
      · obtain ⟨b, off, e⟩ := hr.addr h
        cases e
    subst hn0
    clear hr
    have hen := tm_eql_nil none 0 c
    simp only [Option.isNone_none] at hen
    go_enter Try.func29, Try.ntmps29
    go_wp2
    go_ret
    have hl0 : os = [] := List.eq_nil_of_length_eq_zero HR.out.1
    subst hl0
    exact ⟨none, 0, rfl, World.ownsRow_nil _ _ _ _, Below.refl _ _⟩
  | some ad =>
    have HB := Lib.hid (show Mem w [blkE w.heap.size 27 []] (w.alloc (.cells #[] 27)) from (Mem.nil w).alloc rfl 27 #[] [] rfl)
    have hown0 := World.ownsRow_lit (base := w.heap.size) (e := 27) (size := 34) w #[] 0 (Nat.le_refl _) (by simp) rfl
    have HO := Lib.hid hown0
    clear hr hown0
    have hen := tm_eql_nil (some ad) n c
    simp only [Option.isNone_some] at hen
    go_enter Try.func29, Try.ntmps29
    go_wp2_with (refine wpList_append_rows _ rfl (.tmp 5) (.tmp 6) 23 rfl w.heap.size 27 ik _ 34 48 Try.underlying23 HKI.out.1 HKI.out.2.1 HKI.out.2.2.1 HKI.out.2.2.2 (by rfl) (by omega) (.slice (some ⟨w.heap.size, 0, none⟩) 0 0) 0 [] rfl HO.out _ (some ad) n c os rfl ((HR.out.below HB.out.bel).mono HB.out.size) H1.out (by unfold maxLen; omega) (by omega) HB.out.size ?_; intro v1 w3 hown1 hg1 _)
    rw [Nat.zero_add, List.nil_append] at hown1
    obtain ⟨A5, c5, rfl, _⟩ := own_sliceK hown1
    have HF := Lib.hid (HB.out.bel.grown hg1 HB.out.bel.size (fun k hk => own_from HO.out k hk))
    go_ret
    exact ⟨A5, c5, rfl, hown1, HF.out⟩
end Go.Proofs.Ytffeecaidkeepaa
namespace Go.Proofs.Ytffeecaidkeepaa
open Go.RowKit

theorem tm_kept_snoc (p : List Value → Bool) (l : List (List Value)) (o : List Value) : (l ++ [o]).filter (fun x => !p x) = l.filter (fun x => !p x) ++ (if p o = true then [] else [o]) := by
  rw [List.filter_append]
  cases h : p o <;> simp [h]
theorem tm_kept_all {p : List Value → Bool} {l : List (List Value)} (h : ∀ o ∈ l, p o = false) : l.filter (fun x => !p x) = l := by
  rw [List.filter_eq_self]
  intro o ho
  rw [h o ho]
  rfl
end Go.Proofs.Ytffeecaidkeepaa
namespace Go.Proofs.Ytffeecaidkeepaa
open Go.RowKit

/-- what is asked of a predicate that is handed on, in every world for which R holds -/
def PredR (P : Program) (F : Nat) (lb : Array Value) (p : List Value → Bool) (R : World → Prop) (os : List (List Value)) : Prop :=
  ∀ o ∈ os, ∀ W, R W → Calls P F (#[.agg o.toArray] ++ lb) W fun e W' => e = .returned (.bool (p o)) ∧ Below W.heap.size W W'
end Go.Proofs.Ytffeecaidkeepaa
namespace Go.Proofs.Ytffeecaidkeepaa
open Go.RowKit

theorem run_copy_objs {P : Program} (w : World) (dT sT ty elem : TypeId) (k g off dLen dCap : Nat) (a : Addr) (sLen sCap : Nat) (cur : List Value) (t : TypeId) (cs : List Value)
    (hu : P.underlying dT = some (.slice elem)) (hs : (P.info? elem).map (·.size) = some k) (hg : Blk w g t cur) (hn : cs.length = Nat.min sLen dLen * k)
    (hsrc : ∀ j v, cs[j]? = some v → w.cell? (a.add j) = some v) (hfit : off + cs.length ≤ cur.length) (h1 : ∀ v ∈ cs, v.oneCell' = true) :
    ∃ w', (Builtin.copy_ #[dT, sT] ty #[.slice (some ⟨g, off, none⟩) dLen dCap, .slice (some a) sLen sCap]).run P w = .ok (goInt (Nat.min sLen dLen)) w' ∧ Blk w' g t (setL cur off cs) ∧ w.grownBy w' (some g) := by
  have hl := run_loadCells_list (P := P) w a cs hsrc
  have hst := run_storeCells_at P g off t cs 0 cur.toArray w hg (by simpa using hfit) h1
  rw [Nat.add_zero] at hst
  refine ⟨w.setRow g (cur.toArray.toList.take off ++ cs ++ cur.toArray.toList.drop (off + cs.length)).toArray, ?_, ?_, ⟨rfl, rfl, rfl, by simp, fun q _ hq => setRow_other w g q _ (fun e => hq (by simp [e]))⟩⟩
  · cases hq : P.info? elem with
    | none => simp [hq] at hs
    | some i =>
      have hi : i.size = k := by simpa [hq] using hs
      simp [Builtin.copy_, run_underlying hu, Builtin.lenOf, Builtin.firstCells, sizeOf, typeInfo, hq, hi, ← hn, hl, hst]
  · exact setRow_heap w g cur.toArray _ t _ hg
theorem wpList_copy_objs {P : Program} (w : World) {ops : Array Oper} {rest : List Oper} {o : Oper} {a : Act} {Q : Exit → Act → World → Prop} (hgd : o.guard = none) (d s : Operand) (dT sT : TypeId)
    (ho : o.op = .call { callee := .builtin .copy, args := #[d, s], argTypes := #[dT, sT] }) (elem : TypeId) (hu : P.underlying dT = some (.slice elem)) (k : Nat) (hsz : (P.info? elem).map (·.size) = some k)
    (g off dLen dCap : Nat) (ad : Addr) (sLen sCap : Nat) (hd : a.eval d = .slice (some ⟨g, off, none⟩) dLen dCap) (hs : a.eval s = .slice (some ad) sLen sCap)
    (cur : List Value) (t : TypeId) (hg : Blk w g t cur) (cs : List Value) (hn : cs.length = Nat.min sLen dLen * k)
    (hsrc : ∀ j v, cs[j]? = some v → w.cell? (ad.add j) = some v) (hfit : off + cs.length ≤ cur.length) (h1 : ∀ v ∈ cs, v.oneCell' = true)
    (h : ∀ w', Blk w' g t (setL cur off cs) → w.grownBy w' (some g) → wpList P ops Q rest (a.put o.dst (goInt (Nat.min sLen dLen))) w') : wpList P ops Q (o :: rest) a w := by
  refine wpList_plain hgd fun K hK => ?_
  obtain ⟨w', hrun, h2, h3⟩ := run_copy_objs (P := P) w dT sT o.type elem k g off dLen dCap ad sLen sCap cur t cs hu hsz hg hn hsrc hfit h1
  unfold Oper.wp execOp
  simp only [ho, resolve, invoke, builtin, Sem.run_bind, Sem.run_pure, Result.andThen_ok, List.map_toArray, List.map_cons, List.map_nil, hs, hd, hrun]
  exact hK _ _ (h w' h2 h3)
theorem step_copy_objs {P : Program} (w : World) {ops : Array Oper} {o : Oper} {a : Act} {K : Act → World → Prop} {Q : Exit → Act → World → Prop} {E : Prop} (hgd : o.guard = none) (d s : Operand) (dT sT : TypeId)
    (ho : o.op = .call { callee := .builtin .copy, args := #[d, s], argTypes := #[dT, sT] }) (elem : TypeId) (hu : P.underlying dT = some (.slice elem)) (k : Nat) (hsz : (P.info? elem).map (·.size) = some k)
    (g off dLen dCap : Nat) (ad : Addr) (sLen sCap : Nat) (hd : a.eval d = .slice (some ⟨g, off, none⟩) dLen dCap) (hs : a.eval s = .slice (some ad) sLen sCap)
    (cur : List Value) (t : TypeId) (hg : Blk w g t cur) (cs : List Value) (hn : cs.length = Nat.min sLen dLen * k)
    (hsrc : ∀ j v, cs[j]? = some v → w.cell? (ad.add j) = some v) (hfit : off + cs.length ≤ cur.length) (h1 : ∀ v ∈ cs, v.oneCell' = true)
    (h : ∀ w', Blk w' g t (setL cur off cs) → w.grownBy w' (some g) → K (a.put o.dst (goInt (Nat.min sLen dLen))) w') :
    if Region.wanted o (yielded ops a.tmps) = true then Oper.wp P o a w K Q else E := by
  have hw : Region.wanted o (yielded ops a.tmps) = true := by simp [Region.wanted, hgd]
  rw [if_pos hw]
  obtain ⟨w', hrun, h2, h3⟩ := run_copy_objs (P := P) w dT sT o.type elem k g off dLen dCap ad sLen sCap cur t cs hu hsz hg hn hsrc hfit h1
  unfold Oper.wp execOp
  simp only [ho, resolve, invoke, builtin, Sem.run_bind, Sem.run_pure, Result.andThen_ok, List.map_toArray, List.map_cons, List.map_nil, hs, hd, hrun]
  exact h w' h2 h3
/-- the beginning of a row of objects and made ones behind it, where there is no room: a new row -/
theorem run_append_made {P : Program} (w : World) (t tn ty e : TypeId) (i : TypeInfo) (z : Value) (kq kn : IntKind) (size bytes : Nat) (ht : P.underlying t = some (.slice e)) (htn : P.underlying tn = some (.int kn)) (hi : P.info? e = some i) (hz : i.zero = some z) (hsize : i.size = size) (hby : i.bytes = bytes) (hzs : z.cells.size = size) (hsz : 0 < size)
    (B : Nat) (ad : Addr) (n c : Nat) (os : List (List Value)) (hr : RdRow w B (some ad) size n os) (k : Nat) (h0 : 0 < k) (hg : c < n + k) (h63 : n + k ≤ maxLen) (hbytes : (n + k) * bytes ≤ 140737488355328) :
    ∃ w' cap cur, (Builtin.append_ #[t, tn] ty #[.slice (some ad) n c, .int kq (k : Int)]).run P w = .ok (.slice (some ⟨w.heap.size, 0, none⟩) (n + k) cap) w' ∧ Blk w' w.heap.size e cur ∧ cur.length = cap * size ∧ cur.take (n * size) = os.flatten ∧ n + k ≤ cap ∧ cap ≤ maxLen ∧ Below w.heap.size w w' := by
  have holds : ∀ j u, os.flatten[j]? = some u → w.drew.cell? (ad.add j) = some u := hr.src
  have hold := run_firstCells_some (P := P) w.drew i.size n ad n c os.flatten (by rw [hsize]; exact hr.len) holds
  have h1 : k * bytes ≤ (n + k) * bytes := Nat.mul_le_mul_right bytes (by omega)
  have hr2 := Lib.run_append_grow_zeros (P := P) w t tn ty e i z kq kn ht htn hi hz (some ad) n c os.flatten hold k h0 (by omega) hg (by unfold maxLen at h63; omega) (by rw [hby]; omega) (growslice_fits (by omega) (by rw [hby]; exact hbytes))
  have hge := grownCap_ge w (n + k) c e
  have hcm := grownCap_le_maxLen w (n + k) c e h63
  obtain ⟨cap, hcap⟩ : ∃ z, grownCap w (n + k) c e = z := ⟨_, rfl⟩
  rw [hcap] at hr2 hge hcm
  refine ⟨_, cap, (os.flatten.toArray ++ Builtin.zeroCells z.cells k ++ Builtin.zeroCells z.cells (cap - (n + k))).toList, hr2, ?_, ?_, ?_, hge, hcm, (Below.refl _ _).drew.alloc (Nat.le_refl _) _⟩
  · unfold Blk
    rw [Array.toArray_toList]
    exact heap_alloc_new w.drew _
  · rw [Array.length_toList, Array.size_append, Array.size_append, List.size_toArray, size_zeroCells, size_zeroCells, hzs, hr.len, ← Nat.add_mul, ← Nat.add_mul]
    congr 1
    omega
  · rw [Array.toList_append, Array.toList_append, List.append_assoc, List.take_left' (by rw [hr.len])]
theorem Blk.shape {w : World} {g : Nat} {t : TypeId} {cs : List Value} (h : Blk w g t cs) : w.shape? g = some (t, cs.length) := by
  unfold Blk at h
  simp [World.shape?, h]
theorem run_overlaps_blks {P : Program} {w : World} {g h : Nat} {t u : TypeId} {cs ds : List Value} (hg : Blk w g t cs) (hh : Blk w h u ds) (hne : g ≠ h) (hd : ds.length ≠ 0) (tS tR e : TypeId) (ht : P.underlying tS = some (.slice e)) (size : Nat) (hz : ∀ w, (Go.sizeOf e).run P w = .ok size w) (o p la ca lb cb : Nat) :
    (Extern.SlicesOverlaps.overlaps #[tS, tS] #[tR] #[.slice (some ⟨g, o, none⟩) la ca, .slice (some ⟨h, p, none⟩) lb cb]).run P w = .ok (.bool false) w :=
  Lib.run_overlaps_apart w tS tR e ht size hz ⟨g, o, none⟩ ⟨h, p, none⟩ la ca lb cb hne t u cs.length ds.length hg.shape hh.shape hd (hg.frozen o) (hg.frozen cs.length)
/-- what an insertion leaves: first the later ones are moved, then the new one is written -/
theorem ins_shift {cur T D o : List Value} {i k : Nat} (hT : T.length = i * k) (hc : cur.take (i * k) = T) (ho : o.length = k) (hl : i * k + k + D.length ≤ cur.length) : (setL (setL cur ((i + 1) * k) D) (i * k) o).take (i * k + k + D.length) = T ++ o ++ D ∧ (setL (setL cur ((i + 1) * k) D) (i * k) o).length = cur.length := by
  have h1 : (i + 1) * k = i * k + k := Nat.succ_mul i k
  have h2 : (setL cur ((i + 1) * k) D).take (i * k) = T := by
    rw [setL, List.append_assoc, List.take_append_of_le_length (by rw [List.length_take]; omega), List.take_take, Nat.min_eq_left (by omega), hc]
  have h3 : (setL cur ((i + 1) * k) D).drop (i * k + k) = D ++ cur.drop ((i + 1) * k + D.length) := by
    rw [setL, List.append_assoc, List.drop_left' (by rw [List.length_take]; omega)]
  constructor
  · rw [setL, ho, h2, h3, List.append_assoc, ← List.append_assoc o, ← List.append_assoc T, ← List.append_assoc T, List.take_left' (by simp [hT, ho]; omega)]
  · rw [setL, ho, h2, h3]
    simp only [List.length_append, List.length_drop, hT, ho]
    omega
/-- the same in a new row: first the new one is written, then the later ones behind it -/
theorem ins_new {cur T D o : List Value} {i k : Nat} (hT : T.length = i * k) (hc : cur.take (i * k) = T) (ho : o.length = k) (hl : i * k + k + D.length ≤ cur.length) : (setL (setL cur (i * k) o) ((i + 1) * k) D).take (i * k + k + D.length) = T ++ o ++ D ∧ (setL (setL cur (i * k) o) ((i + 1) * k) D).length = cur.length := by
  have h1 : (i + 1) * k = i * k + k := Nat.succ_mul i k
  have h2 : (setL cur (i * k) o).take ((i + 1) * k) = T ++ o := by
    rw [setL, hc, List.take_left' (by simp [hT, ho, h1])]
  have h3 : (setL cur (i * k) o).length = cur.length := by
    simp only [setL, hc, List.length_append, List.length_drop, hT, ho]
    omega
  constructor
  · rw [setL, h2, List.take_left' (by simp [hT, ho]; omega)]
  · rw [setL, h2]
    simp only [List.length_append, List.length_drop, h3, hT, ho]
    omega
theorem own_of_blk {w : World} {base k m c g : Nat} {e : TypeId} {cs xs : List Value} (hb : Blk w g e cs) (hbase : base ≤ g) (hm : m ≤ c) (hc : c ≤ maxLen) (hl : cs.length = c * k) (ht : cs.take (m * k) = xs) : w.ownsRow base e k (.slice (some ⟨g, 0, none⟩) m c) m xs := by
  have h1 := Nat.mul_le_mul_right k hm
  refine ⟨by rw [← ht, List.length_take]; omega, .inr ⟨g, c, cs.toArray, rfl, hbase, hb, hm, hc, by simpa using hl, by simpa using ht⟩⟩
end Go.Proofs.Ytffeecaidkeepaa
namespace Go.Proofs.Ytffeecaidkeepaa
open Go.RowKit

set_option maxRecDepth 100000 in
set_option maxHeartbeats 16000000 in
theorem tmDelO_any (A : Option Addr) (n c : Nat) (os : List (List Value)) (hn : n ≤ 1000) (hl : os.length = n) (hk : ∀ o ∈ os, o.length = 34) (h1 : ∀ o ∈ os, ∀ v ∈ o, v.oneCell' = true) (F : Nat) (lb : Array Value) (hE : ∀ (args : Array Value) (W : World), (callFunc F args).run Try.prog W = .ok (.enter F args) W) (p : List Value → Bool) (R : World → Prop) (base : Nat) (w : World) (hw : R w) (hkp : ∀ W W', R W → Below W.heap.size W W' → R W') (hrw : ∀ (g : Nat) (W W' : World), A = some ⟨g, 0, none⟩ → R W → g < W.heap.size → W.grownBy W' (some g) → R W') (hbs : base ≤ w.heap.size) (hown : w.ownsRow base 27 34 (.slice A n c) n os.flatten) (hf : PredR Try.prog F lb p R os) :
    Calls Try.prog 28 #[.slice A n c, .func (.func F) #[] lb] w fun e w' => ∃ A' c' m, m = (os.filter fun o => !p o).length ∧ e = .returned (.slice A' m c') ∧ w'.ownsRow base 27 34 (.slice A' m c') m (os.filter fun o => !p o).flatten ∧ Below base w w' := by
  have hr := RdRow.of_own hl hk hown
  have hidx := tmIdx_any A n c os (by omega) F lb hE p w.heap.size w (Nat.le_refl _) hr (fun o ho W hW => hf o ho W (hkp _ _ hw hW))
  obtain ⟨A5, c5, hv5, hc1, hc2, hlo⟩ := own_sliceK hown
  injection hv5 with hA5 _ hc5
  subst hA5 hc5
  rcases idxM_cases p os with hno | ⟨i0, o0, ho0, hp0, hn0⟩
  · rw [idxM_none hno] at hidx
    have HI := Lib.hid hidx
    have HF := Lib.hid (And.intro hr (And.intro (And.intro hc1 hc2) hlo))
    have HX := Lib.hid (tm_kept_all hno)
    have HOWN := Lib.hid hown
    have HL := Lib.hid hl
    have HBS := Lib.hid hbs
    clear hidx hr hc1 hc2 hlo hown hf hno hbs hw hkp hrw
    go_enter Try.func28, Try.ntmps28
    go_wp2_with fail
    refine HI.out.mono ?_
    rintro e w2 ⟨rfl, hb⟩
    have HW := Lib.hid hb
    clear hb
    go_wp2
    go_ret
    exact ⟨A, c, n, by rw [HX.out]; exact HL.out.symm, rfl, by rw [HX.out]; exact own_below HOWN.out HW.out, HW.out.mono HBS.out⟩
  · rw [idxM_some ho0 hp0 hn0] at hidx
    have hi0 : i0 < n := by rw [← hl]; exact (List.getElem?_eq_some_iff.1 ho0).1
    rcases hown.2 with ⟨_, h0⟩ | ⟨g, cap, cur, hv, hbg, hg, hnc, hcm, hs, hcr⟩
    · omega
    injection hv with hA _ hcc
    subst hA hcc
    have hblk : Blk w g 27 (os.flatten ++ cur.toList.drop (n * 34)) := by
      unfold Blk
      rw [← hcr, List.take_append_drop, Array.toArray_toList]
      exact hg
    obtain ⟨rest, hrest⟩ : ∃ z, cur.toList.drop (n * 34) = z := ⟨_, rfl⟩
    have HREST := Lib.hid (show n * 34 + rest.length = c * 34 from by rw [← hrest, List.length_drop, Array.length_toList, hs]; have := Nat.mul_le_mul_right 34 hnc; omega)
    rw [hrest] at hblk
    have hkeep : (os.take (i0 + 1)).filter (fun x => !p x) = os.take i0 := by
      rw [List.take_add_one, ho0, Option.toList_some, tm_kept_snoc, if_pos hp0, List.append_nil]
      exact tm_kept_all (fun o ho => by
        obtain ⟨q, hq, rfl⟩ := List.getElem_of_mem ho
        rw [List.length_take] at hq
        exact hn0 q _ (by omega) (by rw [List.getElem_take]; exact List.getElem?_eq_getElem (by omega)))
    have HI := Lib.hid hidx
    have HKEEP := Lib.hid hkeep
    have HBLK := Lib.hid hblk
    have HBG := Lib.hid (show base ≤ g from hbg)
    have HC := Lib.hid (And.intro hnc hcm)
    have HK := Lib.hid hk
    have H1 := Lib.hid h1
    have HL := Lib.hid hl
    have HF := Lib.hid hf
    have HKP := Lib.hid hkp
    have HRW := Lib.hid (fun W W' => hrw g W W' rfl)
    have HR0 := Lib.hid hw
    have d0 : ((i0 : Int) == -1) = false := by rw [beq_eq_false_iff_ne]; omega
    clear hidx hr hc1 hc2 hlo hown hf hkeep hblk hbg hg hs hcr hrest hk h1 hl hnc hcm hn0 hp0 ho0 hbs hw hkp hrw
    go_enter Try.func28, Try.ntmps28
    go_wp2_with fail
    refine HI.out.mono ?_
    rintro e w2 ⟨rfl, hb⟩
    have HW := Lib.hid (And.intro (hb.mono (Nat.le_of_lt HBLK.out.lt)) (show Blk w2 g 27 (os.flatten ++ rest) from HBLK.out.below hb HBLK.out.lt))
    have HR2 := Lib.hid (HKP.out _ _ HR0.out hb)
    clear hb HI HR0
    go_wp2_with fail
    go_loopw [6, 5] (fun vj vi wr => ∃ (j m : Nat) (cs : List (List Value)), i0 < j ∧ j ≤ n ∧ vj = .int .i64 (j : Int) ∧ vi = .int .i64 (m : Int) ∧ m < j ∧ cs.length = n ∧ (∀ o ∈ cs, o.length = 34) ∧ cs.take m = (os.take j).filter (fun x => !p x) ∧ cs.drop j = os.drop j ∧ Blk wr g 27 (cs.flatten ++ rest) ∧ Below g w wr ∧ R wr) (fun vj _ _ => n - (intOf vj).toNat)
    case atStart => exact ⟨i0 + 1, i0, os, by omega, by omega, by go_num, rfl, by omega, HL.out, HK.out, HKEEP.out.symm, rfl, HW.out.2, HW.out.1, HR2.out⟩
    case round =>
      clear HW d0 HBLK HR2
      obtain ⟨j, m, cs, hij, hj, rfl, rfl, hmj, hcl, hck, htk, hdr, hbk, hbl, hRr⟩ := hrel
      have HRR := Lib.hid hRr
      have HO := Lib.hid (And.intro hcl (And.intro hck (And.intro htk (And.intro hdr (And.intro hbk hbl)))))
      clear hcl hck htk hdr hbk hbl hRr
      by_cases hjn : j < n
      · have d1 : decide ((j : Int) < (n : Int)) = true := by simp; omega
        obtain ⟨o, ho⟩ : ∃ o, os[j]? = some o := ⟨os[j]'(by rw [HL.out]; exact hjn), List.getElem?_eq_getElem _⟩
        have hoc : cs[j]? = some o := by
          have h := congrArg (fun l => l[0]?) HO.out.2.2.2.1
          simp only [List.getElem?_drop, Nat.add_zero] at h
          rw [h]
          exact ho
        have HKO := Lib.hid (HK.out o (List.mem_of_getElem? ho))
        have H1O := Lib.hid (H1.out o (List.mem_of_getElem? ho))
        have HLA := Lib.hid (blk_at HO.out.2.2.2.2.1 HO.out.2.1 hoc)
        have HU := Lib.hid (tm_size o HKO.out)
        have HSN := Lib.hid (show (os.take (j + 1)).filter (fun x => !p x) = (os.take j).filter (fun x => !p x) ++ (if p o = true then [] else [o]) from by rw [List.take_add_one, ho, Option.toList_some, tm_kept_snoc])
        have HML := Lib.hid (show m ≤ cs.length from by rw [HO.out.1]; omega)
        have hcall := HF.out o (List.mem_of_getElem? ho)
        obtain ⟨oc, hocc⟩ : ∃ z, o.toArray = z := ⟨_, rfl⟩
        rw [hocc] at hcall
        obtain ⟨y, hy⟩ : ∃ y, p o = y := ⟨_, rfl⟩
        rw [hy] at hcall HSN
        have HOC := Lib.hid hocc
        have HCL := Lib.hid hcall
        clear hocc hcall hy ho hoc
        have HZ := Lib.hid (Blk.new wr 27 timerZ)
        go_upto_region 8 with (first | (refine wpList_load_obj rfl 27 (.tmp 24) rfl g _ rfl o HLA.out _ Try.underlying27 rfl HU.out ?_; rw [HOC.out]) | (refine wpList_store_obj rfl 27 (.tmp 7) (.tmp 25) rfl wr.heap.size 0 o rfl (by show Value.agg oc = _; rw [HOC.out]) 27 timerZ HZ.out HU.out (by rw [HKO.out]; decide) H1O.out ?_; intro w4 hb4 hg4))
        rw [setL_all _ o (by rw [HKO.out]; decide)] at hb4
        have HBF := Lib.hid (below_fresh hg4)
        have HP := Lib.hid hb4
        have HR4 := Lib.hid (HKP.out _ _ HRR.out HBF.out)
        have HO4 := Lib.hid (show Blk w4 g 27 (cs.flatten ++ rest) ∧ Below g w w4 from ⟨HO.out.2.2.2.2.1.below HBF.out HO.out.2.2.2.2.1.lt, HO.out.2.2.2.2.2.trans (HBF.out.mono (Nat.le_of_lt HO.out.2.2.2.2.1.lt))⟩)
        have HCC := Lib.hid (And.intro HO.out.1 (And.intro HO.out.2.1 (And.intro HO.out.2.2.1 HO.out.2.2.2.1)))
        clear hb4 hg4 HO HBF HZ d1 HLA HRR
        generalize wr.heap.size = P1 at HP ⊢
        go_wp2_with (refine wpList_load_obj rfl 27 (.tmp 7) rfl P1 0 rfl o HP.out.all _ Try.underlying27 rfl HU.out ?_; rw [HOC.out])
        refine (HCL.out _ HR4.out).mono ?_
        rintro e w5 ⟨rfl, hb⟩
        have HR5 := Lib.hid (HKP.out _ _ HR4.out hb)
        have HP5 := Lib.hid (show Blk w5 P1 27 o from HP.out.below hb HP.out.lt)
        have HO5 := Lib.hid (show Blk w5 g 27 (cs.flatten ++ rest) ∧ Below g w w5 from ⟨HO4.out.1.below hb HO4.out.1.lt, HO4.out.2.trans (hb.mono (Nat.le_of_lt HO4.out.1.lt))⟩)
        clear hb HP HO4 HR4
        cases y with
        | true =>
          go_wp2_with fail
          go_roundw
          case rel => exact ⟨j + 1, m, cs, by omega, by omega, by go_num, rfl, by omega, HCC.out.1, HCC.out.2.1, by rw [HSN.out]; simpa using HCC.out.2.2.1, by rw [← List.drop_drop, HCC.out.2.2.2, List.drop_drop], HO5.out.1, HO5.out.2, HR5.out⟩
          case measure => simp [intOf]; omega
        | false =>
          have hmn : m < n := by omega
          have e1 : decide ((m : Int) < (n : Int)) = true := by simp; omega
          go_wp2_with (first | (refine wpList_load_obj rfl 27 (.tmp 7) rfl P1 0 rfl o HP5.out.all _ Try.underlying27 rfl HU.out ?_; rw [HOC.out]) | (refine wpList_store_obj rfl 27 (.tmp 33) (.tmp 32) rfl g (m * 34) o rfl (by show Value.agg oc = _; rw [HOC.out]) 27 (cs.flatten ++ rest) HO5.out.1 HU.out (by rw [HKO.out, List.length_append, flat_length HCC.out.2.1, HCC.out.1]; have := Nat.mul_le_mul_right 34 (show m + 1 ≤ n from hmn); rw [Nat.succ_mul] at this; omega) H1O.out ?_; intro w6 hb6 hg6))
          rw [flat_set HCC.out.2.1 HKO.out (by rw [HCC.out.1]; exact hmn)] at hb6
          go_roundw
          case rel => exact ⟨j + 1, m + 1, cs.set m o, by omega, by omega, by go_num, by go_num, by omega, by rw [List.length_set]; exact HCC.out.1, set_mem HCC.out.2.1 HKO.out, by rw [HSN.out, ← HCC.out.2.2.1, List.take_add_one, List.take_set_of_le (Nat.le_refl _), List.getElem?_set_self (by rw [HCC.out.1]; exact hmn)]; rfl, by rw [List.drop_set_of_lt (by omega), ← List.drop_drop, HCC.out.2.2.2, List.drop_drop], hb6, HO5.out.2.grown hg6 (Nat.le_of_lt HO5.out.1.lt) (fun k hk => by injection hk with hk; omega), HRW.out _ _ HR5.out HO5.out.1.lt hg6⟩
          case measure => simp [intOf]; omega
      · obtain rfl : n = j := by omega
        have d1 : decide ((n : Int) < (n : Int)) = false := by simp
        have htk : cs.take m = os.filter (fun x => !p x) := by rw [HO.out.2.2.1, List.take_of_length_le (by rw [HL.out]; exact Nat.le_refl _)]
        have hml : (os.filter fun x => !p x).length = m := by rw [← htk, List.length_take, HO.out.1]; omega
        have hmk := Nat.mul_le_mul_right 34 (Nat.le_of_lt hmj)
        have hlen : (cs.flatten ++ rest).length = n * 34 + rest.length := by rw [List.length_append, flat_length HO.out.2.1, HO.out.1]
        have hzl : (Value.agg timerZ.toArray).cells.size = 34 := rfl
        obtain ⟨z, hz⟩ : ∃ z, n - m = z := ⟨_, rfl⟩
        have hzk : z * 34 = n * 34 - m * 34 := by rw [← hz, Nat.sub_mul]
        have HFIT := Lib.hid (show m * 34 + z * (Value.agg timerZ.toArray).cells.size ≤ (cs.flatten ++ rest).length from by rw [hzl, hlen, hzk]; omega)
        have HZP := Lib.hid (show 0 < z from by omega)
        have HTK := Lib.hid (And.intro htk hml)
        have HSL := Lib.hid (show ∀ Z, setL (cs.flatten ++ rest) (m * 34) Z = (cs.take m).flatten ++ (Z ++ (cs.flatten ++ rest).drop (m * 34 + Z.length)) from fun Z => by
          rw [setL, List.take_append_of_le_length (by rw [flat_length HO.out.2.1, HO.out.1]; omega), ← flat_take m HO.out.2.1, List.append_assoc])
        have hsl := tm_l (some ⟨g, 0, none⟩) n c m (by omega)
        rw [addrK_some (show m < c by have := HC.out; omega), Nat.zero_add, hz] at hsl
        have hsh := tm_h (some ⟨g, 0, none⟩) (n := n) c m (by omega) HC.out.1
        rw [addrK_zero_some] at hsh
        have HGB := Lib.hid HO.out.2.2.2.2
        have HCK := Lib.hid (fun o (h : o ∈ cs.take m) => HO.out.2.1 o (List.mem_of_mem_take h))
        obtain ⟨blkc, hbc⟩ : ∃ z, cs.flatten ++ rest = z := ⟨_, rfl⟩
        have HTL := Lib.hid (show (cs.take m).flatten.length = m * 34 from by rw [flat_length (fun o ho => HO.out.2.1 o (List.mem_of_mem_take ho)), List.length_take, HO.out.1, Nat.min_eq_left (by omega)])
        have HBL := Lib.hid (show blkc.length = c * 34 from by rw [← hbc, hlen]; exact HREST.out)
        rw [hbc] at HGB HFIT HSL
        have hmc := HC.out
        clear HO htk hml hmk hlen hzk hzl hbc hz
        obtain ⟨cm, hcm⟩ : ∃ x, c - m = x := ⟨_, rfl⟩
        rw [hcm] at hsl
        clear hcm
        go_wp2_with (refine wpList_clear_objs _ rfl (.tmp 38) 23 27 rfl Try.underlying23 (.agg timerZ.toArray) tm_zero (by decide) g (m * 34) z cm rfl 27 blkc HGB.out.1 HFIT.out HZP.out ?_; intro w7 hb7 hg7)
        go_ret
        rw [HSL.out] at hb7
        refine ⟨some ⟨g, 0, none⟩, c, m, HTK.out.2.symm, rfl, ?_, (HGB.out.2.grown hg7 (Nat.le_of_lt HGB.out.1.lt) (fun k hk => by injection hk with hk; omega)).mono HBG.out⟩
        rw [← HTK.out.1]
        refine own_of_blk hb7 HBG.out (by omega) hmc.2 ?_ (List.take_left' (HTL.out))
        have h1 := HBL.out
        have h2 := HFIT.out
        have h3 := HTL.out
        rw [show (Builtin.zeroCells (Value.agg timerZ.toArray).cells z).toList.length = z * (Value.agg timerZ.toArray).cells.size by simp [Builtin.zeroCells]]
        simp only [List.length_append, List.length_drop]
        rw [show (Builtin.zeroCells (Value.agg timerZ.toArray).cells z).toList.length = z * (Value.agg timerZ.toArray).cells.size by simp [Builtin.zeroCells]]
        omega
end Go.Proofs.Ytffeecaidkeepaa
namespace Go.Proofs.Ytffeecaidkeepaa
open Go.RowKit

theorem own_weaken {w : World} {base base' k n : Nat} {e : TypeId} {v : Value} {xs : List Value} (h : w.ownsRow base' e k v n xs) (hb : base ≤ base') : w.ownsRow base e k v n xs :=
  ⟨h.1, by
    rcases h.2 with h1 | ⟨g, cap, cur, hv, hbg, hr⟩
    · exact .inl h1
    · exact .inr ⟨g, cap, cur, hv, Nat.le_trans hb hbg, hr⟩⟩
theorem whOut_own {w w' : World} {base m : Nat} {v : Value} {l : List TimerM} (hbs : w.heap.size ≤ base) (hm : m = l.length) (hok : ∀ s ∈ l, s.ok) (h : w'.ownsRow base 27 34 v m (tmsV l).flatten) (hb : Below w.heap.size w w') : WhOut w w' v l := by
  subst hm
  obtain ⟨A, c, rfl, h1, h2, h3⟩ := own_sliceK h
  exact ⟨A, c, rfl, h1, h2, TmRd.of_own rfl hok h, fun ad ha => Nat.le_trans hbs (h3 ad ha), hb⟩
theorem lows_below {w W W' : World} {g0 : Nat} {k : List Value} (h : Lows w [blkL w.heap.size 25 k] W) (hb : Below g0 W W') (hg : w.heap.size < g0) : Lows w [blkL w.heap.size 25 k] W' :=
  ⟨fun f hf => by
    cases List.mem_singleton.1 hf
    have h1 : Blk W w.heap.size 25 k := h.blk 0 rfl
    exact (hb.block _ hg).trans h1, h.bel.trans (hb.mono (Nat.le_of_lt hg))⟩
theorem tmAt {w W : World} {A : Option Addr} {n : Nat} {l : List TimerM} (h : TmRd w w.heap.size A n l) (hb : Below w.heap.size w W) : TmRd W W.heap.size A n l := (h.below hb).mono hb.size
set_option maxRecDepth 100000 in
set_option maxHeartbeats 8000000 in
theorem whCancelO (A : Option Addr) (n c : Nat) (l : List TimerM) (k : List UInt8) (d : Int) (w : World) (hk : k.length = 32) (hd : inI64 d) (harg : WhArg w A n c l) :
    Calls Try.prog 11 #[.slice A n c, .agg (k.map u8v).toArray, .int .i64 d] w fun e w' => ∃ v, e = .returned v ∧ w'.ownsRow w.heap.size 27 34 v (cancelT l k d).length (tmsV (cancelT l k d)).flatten ∧ Below w.heap.size w w' := by
  have hn := harg.1
  have HOK := Lib.hid harg.2.2.2.2
  have HLN := Lib.hid harg.2.2.2.len
  have HK := Lib.hid hk
  have HD := Lib.hid hd
  have hsv := fun W => serves_any k d W
  obtain ⟨kk, hkk⟩ : ∃ z, (k.map u8v).toArray = z := ⟨_, rfl⟩
  rw [hkk]
  simp only [hkk] at hsv
  have HSV := Lib.hid hsv
  have HKK := Lib.hid hkk
  have hm := (Lows.nil w).alloc 25 kk (k.map u8v) hkk.symm
  have HM := Lib.hid (show Lows w [blkL w.heap.size 25 (k.map u8v)] (w.alloc (.cells kk 25)) from hm)
  have HA0 := Lib.hid harg.2.2.2
  clear harg hk hd hkk hsv hm
  go_enter Try.func11, Try.ntmps11
  go_upto_region 1 with fail
  generalize w.alloc (.cells kk 25) = w1 at HM ⊢
  refine wp_region_held_drew (S := fun W' => Lows w [blkL w.heap.size 25 (k.map u8v)] W') (by kernel_rfl) (HM.out.drew) (fun hHeld => ?_)
  replace HM := Lib.hid HM.out.drew
  generalize w1.drew = wd at HM hHeld ⊢
  refine take_first (v := ?_) 0 rfl (by kernel_rfl) (by kernel_rfl) (by kernel_rfl) (fun _ _ _ h => h) (Or.inl ⟨by rfl, ?_⟩) (by assumption) ?_
  rotate_left
  · (intro w hSw; (try dsimp only at hSw); go_simp; try with_reducible rfl)
  (try simp only [Act.put, List.setIfInBounds_toArray, List.set_cons_zero, List.set_cons_succ])
  refine take_first (v := ?_) 3 rfl (by kernel_rfl) (by kernel_rfl) (by kernel_rfl) (fun _ _ _ h => h) (Or.inl ⟨by rfl, ?_⟩) (by assumption) ?_
  rotate_left
  · (intro w hSw; (try dsimp only at hSw); go_simp; try with_reducible rfl)
  (try simp only [Act.put, List.setIfInBounds_toArray, List.set_cons_zero, List.set_cons_succ])
  refine take_first (v := .agg kk) 2 rfl (by kernel_rfl) (by kernel_rfl) (by kernel_rfl) (fun _ _ _ h => h) (by rw [← HKK.out]; exact yields_load_obj (by rfl) 25 (.tmp 4) rfl w.heap.size 0 rfl (k.map u8v) (fun w' hb => (Lows.blk hb 0 rfl).all) _ Try.underlying25 rfl (key_cellsOf k HK.out)) (by assumption) ?_
  (try simp only [Act.put, List.setIfInBounds_toArray, List.set_cons_zero, List.set_cons_succ])
  refine step_one 1 rfl (by kernel_rfl) (fun K hK => ?_)
  clear hHeld
  go_simp
  refine (tmClone_any A n c (tmsV l) (by omega) (tms_one l) wd (tmAt HA0.out HM.out.bel).1).mono ?_
  rintro e w2 ⟨A2, c2, rfl, hown, hb⟩
  have HO := Lib.hid hown
  have HG := Lib.hid (show w.heap.size < wd.heap.size from (HM.out.blk 0 rfl).lt)
  replace HM := Lib.hid (HM.out.below hb)
  have HG2 := Lib.hid (fun (g : Nat) (hA : A2 = some ⟨g, 0, none⟩) => (hown.lt g (by rw [hA]; rfl)).2)
  have HG0 := Lib.hid hb.size
  generalize wd.heap.size = g0 at HO HG HG0
  clear hb hown
  go_wp2_with fail
  refine hK.out _ _ (HM.out) (fun hHeld => ?_)
  clear hK K
  (try simp only [Act.put, List.setIfInBounds_toArray, List.set_cons_zero, List.set_cons_succ])
  refine step_one 4 rfl (by kernel_rfl) (fun K hK => ?_)
  clear hHeld
  go_simp
  refine (HSV.out w2).mono ?_
  rintro e w3 ⟨rfl, hb1, hb2, hb⟩
  have HO3 := Lib.hid (own_below HO.out hb)
  have HB1 := Lib.hid (And.intro hb1 hb2)
  have HG3 := Lib.hid (Nat.le_trans HG0.out hb.size)
  replace HM := Lib.hid (HM.out.below hb)
  generalize w2.heap.size = gs at HB1 HG2 HG0 ⊢
  clear hb hb1 hb2 HO
  go_wp2_with fail
  refine hK.out _ _ (HM.out) (fun hHeld => ?_)
  clear hK K
  (try simp only [Act.put, List.setIfInBounds_toArray, List.set_cons_zero, List.set_cons_succ])
  refine step_one 5 rfl (by kernel_rfl) (fun K hK => ?_)
  clear hHeld
  go_simp
  refine (tmDelO_any A2 n c2 (tmsV l) (by omega) (by rw [tmsV_len, HLN.out]) (tms_34 HOK.out) (tms_one l) 40 #[.pointer (some ⟨gs, 0, none⟩), .pointer (some ⟨gs + 1, 0, none⟩)] (enters_of Try.func40 (by kernel_rfl) rfl) (cellsP (forT k d)) (fun W => Blk W gs 25 (k.map u8v) ∧ Blk W (gs + 1) 3 [.int .i64 d]) g0 w3 HB1.out (fun W W' h hW => ⟨h.1.below hW h.1.lt, h.2.below hW h.2.lt⟩) (fun g W W' hA h hg hgr => ⟨(hgr.block _ h.1.lt (fun e => by injection e with e; have := HG2.out g hA; omega)).trans h.1, (hgr.block _ h.2.lt (fun e => by injection e with e; have := HG2.out g hA; omega)).trans h.2⟩) HG3.out HO3.out (by
    intro o ho W hW
    obtain ⟨s, hs, _, rfl⟩ := tms_mem HOK.out ho
    rw [cellsP_is _ hs]
    exact servesPred_any k d HK.out HD.out s hs _ _ W hW.1 hW.2)).mono ?_
  rintro e w4 ⟨A3, c3, m, hm, rfl, hown, hb⟩
  rw [tms_filter _ HOK.out] at hm hown
  have HF := Lib.hid (And.intro hm (And.intro hown (HM.out.bel.trans (hb.mono (Nat.le_of_lt HG.out)))))
  have hx := lows_below HM.out hb HG.out
  clear hm hown hb HM
  go_wp2_with fail
  refine hK.out _ _ (hx) (fun hHeld => ?_)
  clear hK K
  (try simp only [Act.put, List.setIfInBounds_toArray, List.set_cons_zero, List.set_cons_succ])
  refine take_first (v := ?_) 6 rfl (by kernel_rfl) (by kernel_rfl) (by kernel_rfl) (fun _ _ _ h => h) (Or.inl ⟨by rfl, ?_⟩) (by assumption) ?_
  rotate_left
  · (intro w hSw; (try dsimp only at hSw); go_simp; try with_reducible rfl)
  (try simp only [Act.put, List.setIfInBounds_toArray, List.set_cons_zero, List.set_cons_succ])
  refine wpAnyH_done (by kernel_rfl) ?_ _
  clear hHeld hx
  go_wp2
  go_ret
  have hm : m = (cancelT l k d).length := by rw [HF.out.1, tmsV_len]; rfl
  subst hm
  exact ⟨_, rfl, own_weaken HF.out.2.1 (Nat.le_of_lt HG.out), HF.out.2.2⟩
theorem whCancelC : WhCancelC 11 := fun A n c l k d w hk hd harg => (whCancelO A n c l k d w hk hd harg).mono fun _ _ ⟨v, he, ho, hb⟩ => ⟨v, he, whOut_own (Nat.le_refl _) rfl (cancelT_ok harg.2.2.2.2 k d) ho hb⟩
end Go.Proofs.Ytffeecaidkeepaa
namespace Go.Proofs.Ytffeecaidkeepaa
open Go.RowKit

theorem blk_seg {w : World} {g off : Nat} {t : TypeId} {cur xs : List Value} (h : Blk w g t cur) (hx : ∀ (j : Nat) v, xs[j]? = some v → cur[off + j]? = some v) : ∀ j v, xs[j]? = some v → w.cell? ((⟨g, off, none⟩ : Addr).add j) = some v := fun j v hj => by
  rw [Go.WideShapes.add_plain, h.cell]
  exact hx j v hj
set_option maxRecDepth 100000 in
theorem tm_hc (A : Option Addr) (n c j : Nat) (h3 : j ≤ c) (w : World) : (Instr.sliceAt 23 (.slice A n c) none (some (.int .i64 (j : Int))) none).run Try.prog w = .ok (.slice (addrK A 0 c 34) j c) w := by
  rw [run_sliceAt_slice (P := Try.prog) (w := w) 23 _ _ _ _ tm_under, run_slice_h (P := Try.prog) (w := w) 23 A n c tm_under .i64 j (by omega) (by omega), tm_sizeOf]
  simp only [Result.andThen, sliced, Int.toNat_natCast, Nat.sub_zero]
  rfl
set_option maxRecDepth 100000 in
set_option maxHeartbeats 16000000 in
theorem tmIns_any (base : Nat) (A : Option Addr) (n c i : Nat) (os : List (List Value)) (o : List Value) (hn : n ≤ 1000) (hi : i ≤ n) (hl : os.length = n) (hk : ∀ x ∈ os, x.length = 34) (h1 : ∀ x ∈ os, ∀ v ∈ x, v.oneCell' = true) (ho : o.length = 34) (h1o : ∀ v ∈ o, v.oneCell' = true) (gv : Nat) (w : World) (hbase : base ≤ w.heap.size) (hown : w.ownsRow base 27 34 (.slice A n c) n os.flatten) (hv : Blk w gv 27 o) (hne : ∀ ad, A = some ad → ad.block ≠ gv) :
    Calls Try.prog 26 #[.slice A n c, .int .i64 (i : Int), .slice (some ⟨gv, 0, none⟩) 1 1] w fun e w' => ∃ v, e = .returned v ∧ w'.ownsRow base 27 34 v (n + 1) (os.take i ++ o :: os.drop i).flatten ∧ Below base w w' := by
  obtain ⟨ik, hik, hiz, his, hib⟩ := timerInfo
  have HKI := Lib.hid (And.intro hik (And.intro hiz (And.intro his hib)))
  have HSZ := Lib.hid (show (Try.prog.info? 27).map (·.size) = some 34 from by rw [hik, Option.map_some, his])
  clear hik hiz his hib
  obtain ⟨A5, c5, hv5, hnc, hcm, hlo⟩ := own_sliceK hown
  injection hv5 with hA5 _ hc5
  subst hA5 hc5
  have HOL := Lib.hid ho
  have H1O := Lib.hid h1o
  have HV := Lib.hid hv
  have HBS := Lib.hid hbase
  have hsl0 := tm_l A n c i hi
  rcases Nat.lt_or_ge i n with hin | hin
  · have hr := RdRow.of_own hl hk hown
    rcases hown.2 with ⟨_, h0⟩ | ⟨g, cap, cur0, hvv, hbg, hg, hnc2, hcm2, hcs, hcr⟩
    · omega
    injection hvv with hA _ hcc
    subst hA hcc
    obtain ⟨cur, hcur⟩ : ∃ z, cur0.toList = z := ⟨_, rfl⟩
    have hblk : Blk w g 27 cur := by
      unfold Blk
      rw [← hcur, Array.toArray_toList]
      exact hg
    have hlen : cur.length = c * 34 := by rw [← hcur]; simpa using hcs
    rw [hcur] at hcr
    have hte : (os.take i).flatten = cur.take (i * 34) := by
      rw [flat_take i hk, ← hcr, List.take_take, Nat.min_eq_left (Nat.mul_le_mul_right 34 hi)]
    have htl : (os.take i).flatten.length = i * 34 := by
      rw [flat_length (fun x hx => hk x (List.mem_of_mem_take hx)), List.length_take, hl, Nat.min_eq_left hi]
    have hdl : (os.drop i).flatten.length = (n - i) * 34 := by
      rw [flat_length (fun x hx => hk x (List.mem_of_mem_drop hx)), List.length_drop, hl]
    have hds : ∀ (j : Nat) v, (os.drop i).flatten[j]? = some v → cur[i * 34 + j]? = some v := fun j v hj => by
      rw [flat_drop i hk, List.getElem?_drop, ← hcr, List.getElem?_take] at hj
      split at hj
      · exact hj
      · cases hj
    have hd1 : ∀ v ∈ (os.drop i).flatten, v.oneCell' = true := one_flat fun x hx => h1 x (List.mem_of_mem_drop hx)
    obtain ⟨i1, hi1⟩ : ∃ z, i + 1 = z := ⟨_, rfl⟩
    obtain ⟨n1, hn1⟩ : ∃ z, n + 1 = z := ⟨_, rfl⟩
    have hfe : (os.take i).flatten ++ o ++ (os.drop i).flatten = (os.take i ++ o :: os.drop i).flatten := by simp
    have hnk : i * 34 + 34 + (n - i) * 34 = n1 * 34 := by omega
    have HW := Lib.hid (show (os.take i).flatten = cur.take (i * 34) ∧ (os.take i).flatten.length = i * 34 ∧ (os.drop i).flatten.length = (n - i) * 34 ∧ cur.length = c * 34 ∧ n + 1 = n1 ∧ i + 1 = i1 ∧ base ≤ g ∧ c ≤ maxLen ∧ n ≤ c ∧ (os.take i).flatten ++ o ++ (os.drop i).flatten = (os.take i ++ o :: os.drop i).flatten ∧ i * 34 + 34 + (n - i) * 34 = n1 * 34 from ⟨hte, htl, hdl, hlen, hn1, hi1, hbg, hcm, hnc, hfe, hnk⟩)
    have HDS := Lib.hid hds
    have HD1 := Lib.hid hd1
    have HBK := Lib.hid hblk
    have hgv : g ≠ gv := hne _ rfl
    have HGV := Lib.hid hgv
    have HGL := Lib.hid hblk.lt
    have ew1 : IntKind.i64.wrap ((n : Int) + 1) = (n1 : Int) := by rw [IntWalk.i64_in _ (by omega)]; omega
    have ew2 : IntKind.i64.wrap ((i : Int) + 1) = (i1 : Int) := by rw [IntWalk.i64_in _ (by omega)]; omega
    have ew3 : (n : Int) + 1 = (n1 : Int) := by omega
    have ew4 : (i : Int) + 1 = (i1 : Int) := by omega
    have ew7 : IntKind.i64.wrap (i1 : Int) = (i1 : Int) := IntWalk.i64_in _ (by omega)
    have ew8 : IntKind.i64.wrap (n1 : Int) = (n1 : Int) := IntWalk.i64_in _ (by omega)
    have e0 : ((i : Int) == (n : Int)) = false := by rw [beq_eq_false_iff_ne]; omega
    rcases Nat.lt_or_ge c n1 with hroom | hroom
    · have e1 : decide ((n1 : Int) > (c : Int)) = true := by simp; omega
      have e2 : decide ((c : Int) < (n1 : Int)) = true := by simp; omega
      have hra := hr.ahead i c hi
      rw [addrK_zero_some] at hra
      obtain ⟨d, hd⟩ : ∃ z, n1 - i = z := ⟨_, rfl⟩
      have hid : i + d = n1 := by omega
      have ew5 : IntKind.i64.wrap ((n1 : Int) - (i : Int)) = (d : Int) := by rw [IntWalk.i64_in _ (by omega)]; omega
      have ew6 : (n1 : Int) - (i : Int) = (d : Int) := by omega
      obtain ⟨w2, cap2, cur2, hap, hb2, hl2, ht2, hge2, hcm3, hbl2⟩ := run_append_made (P := Try.prog) w 23 3 23 27 ik (.agg timerZ.toArray) .i64 .i64 34 48 Try.underlying23 Try.underlying3 HKI.out.1 HKI.out.2.1 HKI.out.2.2.1 HKI.out.2.2.2 (by rfl) (by omega) w.heap.size ⟨g, 0, none⟩ i c (os.take i) hra d (by omega) (by omega) (by unfold maxLen; omega) (by omega)
      rw [hid] at hap hge2
      have hsh := tm_h (some ⟨g, 0, none⟩) (n := n) c i hi hnc
      rw [addrK_zero_some] at hsh
      obtain ⟨G2, hG2⟩ : ∃ z, w.heap.size = z := ⟨_, rfl⟩
      have HGG := Lib.hid (show g < G2 ∧ gv < G2 ∧ base ≤ G2 from ⟨by rw [← hG2]; exact HGL.out, by rw [← hG2]; exact HV.out.lt, by rw [← hG2]; exact HBS.out⟩)
      have HX2 := Lib.hid (show Blk w2 G2 27 cur2 ∧ Blk w2 g 27 cur ∧ Blk w2 gv 27 o ∧ Below base w w2 from ⟨hG2 ▸ hb2, HBK.out.below hbl2 HGL.out, HV.out.below hbl2 HV.out.lt, hbl2.mono HBS.out⟩)
      have HC2 := Lib.hid (And.intro hge2 (And.intro hcm3 (And.intro hl2 ht2)))
      rw [hG2] at hap
      have HAP := Lib.hid hap
      have hs1 := tm_l (some ⟨G2, 0, none⟩) n1 cap2 i (by omega)
      rw [addrK_some (show i < cap2 by omega), Nat.zero_add] at hs1
      have hs2 := tm_l (some ⟨G2, 0, none⟩) n1 cap2 i1 (by omega)
      rw [addrK_some (show i1 < cap2 by omega), Nat.zero_add] at hs2
      have hs3 := tm_l (some ⟨g, 0, none⟩) n c i hi
      rw [addrK_some (show i < c by omega), Nat.zero_add] at hs3
      have HS0 := Lib.hid hs1
      have HS1 := Lib.hid hs2
      have HS2 := Lib.hid hs3
      have HF0 := Lib.hid (show i * 34 + o.length ≤ cur2.length from by rw [HOL.out, hl2]; have := Nat.mul_le_mul_right 34 (show i + 1 ≤ cap2 by omega); rw [Nat.succ_mul] at this; exact this)
      have hsl : (setL cur2 (i * 34) o).length = cap2 * 34 := by
        have h := HF0.out
        simp only [setL, List.length_append, List.length_take, List.length_drop]
        omega
      have HN2 := Lib.hid (show (os.drop i).flatten.length = Nat.min (n - i) (n1 - i1) * 34 from by rw [HW.out.2.2.1, show n1 - i1 = n - i by omega]; simp)
      have HF2 := Lib.hid (show i1 * 34 + (os.drop i).flatten.length ≤ (setL cur2 (i * 34) o).length from by rw [hsl, HW.out.2.2.1]; omega)
      have HRES := Lib.hid (ins_new (cur := cur2) (D := (os.drop i).flatten) HW.out.2.1 ht2 HOL.out (by rw [HW.out.2.2.1, hl2]; omega))
      have HN1 := Lib.hid (show o.length = Nat.min 1 (n1 - i) * 34 from by rw [HOL.out, show Nat.min 1 (n1 - i) = 1 by simp [Nat.min_def]; omega])
      clear hb2 hl2 ht2 hge2 hcm3 hbl2 hs1 hs2 hs3 hra hd hid hsl hG2 hr hown hg hcr hcs hte htl hdl hlen hds hd1 hfe hnk hblk hbg hnc2 hcm2 hv hne hlo hgv hbase hap
      go_enter Try.func26, Try.ntmps26
      go_upto_region 10 with (at_builtin; refine Lib.wpList_append_run _ rfl _ _ _ _ rfl _ _ rfl rfl _ _ HAP.out ?_)
      clear hsh hsl0 e0 e1 e2 ew5 ew6
      have hs1 := HS0.out
      go_upto_region 11 with (refine wpList_copy_objs _ rfl (.tmp 43) (.tmp 44) 23 23 rfl 27 Try.underlying23 34 HSZ.out G2 (i * 34) (n1 - i) (cap2 - i) ⟨gv, 0, none⟩ 1 1 rfl rfl cur2 27 HX2.out.1 o HN1.out (blk_seg HX2.out.2.2.1 (fun j v hj => by rw [Nat.zero_add]; exact hj)) HF0.out H1O.out ?_; intro w3 hb3 hg3)
      have HX3 := Lib.hid (show Blk w3 G2 27 (setL cur2 (i * 34) o) ∧ Blk w3 g 27 cur ∧ Below base w w3 from ⟨hb3, (hg3.block g HX2.out.2.1.lt (fun e => by injection e with e; have := HGG.out; omega)).trans HX2.out.2.1, HX2.out.2.2.2.grown hg3 (Nat.le_trans HBS.out HX2.out.2.2.2.size) (fun q hq => by injection hq with hq; have := HGG.out; omega)⟩)
      clear hs1 hb3 hg3
      refine wp_region_held_drew (S := fun _ => True) (by kernel_rfl) (trivial) (fun hHeld => ?_)
      have hF : Blk w3.drew G2 27 (setL cur2 (i * 34) o) ∧ Blk w3.drew g 27 cur ∧ Below base w w3.drew := ⟨HX3.out.1, HX3.out.2.1, HX3.out.2.2.drew⟩
      generalize w3.drew = wd1 at hF ⊢
      refine take_first (v := ?_) 0 rfl (by kernel_rfl) (by kernel_rfl) (by kernel_rfl) (fun _ _ _ h => h) (Or.inl ⟨by rfl, ?_⟩) (by assumption) ?_
      rotate_left
      · (intro w hSw; (try dsimp only at hSw); go_simp; try with_reducible rfl)
      (try simp only [Act.put, List.setIfInBounds_toArray, List.set_cons_zero, List.set_cons_succ])
      refine take_first (v := ?_) 1 rfl (by kernel_rfl) (by kernel_rfl) (by kernel_rfl) (fun _ _ _ h => h) (Or.inl ⟨by rfl, ?_⟩) (by assumption) ?_
      rotate_left
      · (intro w hSw; (try dsimp only at hSw); go_simp; try with_reducible rfl)
      (try simp only [Act.put, List.setIfInBounds_toArray, List.set_cons_zero, List.set_cons_succ])
      refine take_first (v := ?_) 2 rfl (by kernel_rfl) (by kernel_rfl) (by kernel_rfl) (fun _ _ _ h => h) (Or.inl ⟨by rfl, ?_⟩) (by assumption) ?_
      rotate_left
      · (intro w hSw; (try dsimp only at hSw); go_simp; try with_reducible rfl)
      (try simp only [Act.put, List.setIfInBounds_toArray, List.set_cons_zero, List.set_cons_succ])
      refine take_first (v := ?_) 3 rfl (by kernel_rfl) (by kernel_rfl) (by kernel_rfl) (fun _ _ _ h => h) (Or.inl ⟨by rfl, ?_⟩) (by assumption) ?_
      rotate_left
      · (intro w hSw; (try dsimp only at hSw); go_simp; try with_reducible rfl)
      (try simp only [Act.put, List.setIfInBounds_toArray, List.set_cons_zero, List.set_cons_succ])
      refine take_first (v := ?_) 4 rfl (by kernel_rfl) (by kernel_rfl) (by kernel_rfl) (fun _ _ _ h => h) (Or.inl ⟨by rfl, ?_⟩) (by assumption) ?_
      rotate_left
      · (intro w hSw; (try dsimp only at hSw); have s := HS1.out w; go_simp; try with_reducible rfl)
      (try simp only [Act.put, List.setIfInBounds_toArray, List.set_cons_zero, List.set_cons_succ])
      refine take_first (v := ?_) 5 rfl (by kernel_rfl) (by kernel_rfl) (by kernel_rfl) (fun _ _ _ h => h) (Or.inl ⟨by rfl, ?_⟩) (by assumption) ?_
      rotate_left
      · (intro w hSw; (try dsimp only at hSw); go_simp; try with_reducible rfl)
      (try simp only [Act.put, List.setIfInBounds_toArray, List.set_cons_zero, List.set_cons_succ])
      refine take_first (v := ?_) 6 rfl (by kernel_rfl) (by kernel_rfl) (by kernel_rfl) (fun _ _ _ h => h) (Or.inl ⟨by rfl, ?_⟩) (by assumption) ?_
      rotate_left
      · (intro w hSw; (try dsimp only at hSw); go_simp; try with_reducible rfl)
      (try simp only [Act.put, List.setIfInBounds_toArray, List.set_cons_zero, List.set_cons_succ])
      refine take_first (v := ?_) 7 rfl (by kernel_rfl) (by kernel_rfl) (by kernel_rfl) (fun _ _ _ h => h) (Or.inl ⟨by rfl, ?_⟩) (by assumption) ?_
      rotate_left
      · (intro w hSw; (try dsimp only at hSw); have s := HS2.out w; go_simp; try with_reducible rfl)
      (try simp only [Act.put, List.setIfInBounds_toArray, List.set_cons_zero, List.set_cons_succ])
      refine step_one 8 rfl (by kernel_rfl) (fun K hK => ?_)
      refine step_copy_objs _ rfl (.tmp 50) (.tmp 53) 23 23 rfl 27 Try.underlying23 34 HSZ.out G2 (i1 * 34) (n1 - i1) (cap2 - i1) ⟨g, i * 34, none⟩ (n - i) (c - i) rfl rfl (setL cur2 (i * 34) o) 27 hF.1 (os.drop i).flatten HN2.out (blk_seg hF.2.1 HDS.out) HF2.out HD1.out ?_
      intro w4 hb4 hg4
      refine hK.out _ _ trivial (fun _ => ?_)
      clear hK K
      (try simp only [Act.put])
      refine wpAnyH_done (by kernel_rfl) ?_ _
      have HFIN := Lib.hid (show w4.ownsRow base 27 34 (.slice (some ⟨G2, 0, none⟩) n1 cap2) n1 (os.take i ++ o :: os.drop i).flatten ∧ Below base w w4 from ⟨own_of_blk hb4 HGG.out.2.2 HC2.out.1 HC2.out.2.1 (by have h := HRES.out.2; rw [HW.out.2.2.2.2.2.1] at h; rw [h]; exact HC2.out.2.2.1) (by have h := HRES.out.1; rw [HW.out.2.2.1, HW.out.2.2.2.2.2.2.2.2.2.2, HW.out.2.2.2.2.2.1] at h; rw [h]; exact HW.out.2.2.2.2.2.2.2.2.2.1), hF.2.2.grown hg4 (Nat.le_trans HBS.out hF.2.2.size) (fun q hq => by injection hq with hq; have := HGG.out; omega)⟩)
      clear hb4 hg4 hF
      go_wp2
      go_ret
      exact ⟨.slice (some ⟨G2, 0, none⟩) n1 cap2, rfl, by have h := HFIN.out.1; simp at h ⊢; exact h, HFIN.out.2⟩
    · have e1 : decide ((n1 : Int) > (c : Int)) = false := by simp; omega
      have e2 : decide ((c : Int) < (n1 : Int)) = false := by simp; omega
      have hsh := tm_hc (some ⟨g, 0, none⟩) n c n1 hroom
      rw [addrK_zero_some] at hsh
      have hs1 := tm_l (some ⟨g, 0, none⟩) n1 c i1 (by omega)
      rw [addrK_some (show i1 < c by omega), Nat.zero_add] at hs1
      have hs2 := tm_l (some ⟨g, 0, none⟩) n1 c i (by omega)
      rw [addrK_some (show i < c by omega), Nat.zero_add] at hs2
      have hov : (callFunc 37 #[.slice (some ⟨gv, 0, none⟩) 1 1, .slice (some ⟨g, i1 * 34, none⟩) (n1 - i1) (c - i1)]).run Try.prog w = .ok (.value (.bool false)) w := by
        rw [run_callFunc_extern Try.func37 (by kernel_rfl) (by kernel_rfl) (by kernel_rfl) (e := Extern.SlicesOverlaps.overlaps #[23, 23] #[4]) (by kernel_rfl),
          run_overlaps_blks HV.out hblk (Ne.symm hgv) (by rw [hlen]; omega) 23 4 27 Try.underlying23 34 (fun w => by simp [sizeOf, typeInfo, HKI.out.1, HKI.out.2.2.1])]
        rfl
      have HX2 := Lib.hid (show Blk w g 27 cur ∧ Blk w gv 27 o ∧ Below base w w from ⟨hblk, HV.out, (Below.refl _ _).mono HBS.out⟩)
      have HS1 := Lib.hid hs1
      have HS2 := Lib.hid hs2
      have HRM := Lib.hid hroom
      have HN2 := Lib.hid (show (os.drop i).flatten.length = Nat.min (n1 - i) (n1 - i1) * 34 from by rw [hdl, show n1 - i1 = n - i by omega, show Nat.min (n1 - i) (n - i) = n - i by simp [Nat.min_def]; omega])
      have HF1 := Lib.hid (show i1 * 34 + (os.drop i).flatten.length ≤ cur.length from by rw [hlen, hdl]; omega)
      have HRES := Lib.hid (ins_shift (cur := cur) (D := (os.drop i).flatten) htl hte.symm HOL.out (by rw [hdl, hlen]; omega))
      have HF0 := Lib.hid (show i * 34 + o.length ≤ (setL cur (i1 * 34) (os.drop i).flatten).length from by
        have h := HF1.out
        simp only [setL, List.length_append, List.length_take, List.length_drop, HOL.out]
        omega)
      have HN1 := Lib.hid (show o.length = Nat.min 1 (n1 - i) * 34 from by rw [HOL.out, show Nat.min 1 (n1 - i) = 1 by simp [Nat.min_def]; omega])
      clear hr hown hg hcr hcs hte htl hdl hlen hds hd1 hfe hnk hblk hbg hnc2 hcm2 hv hne hlo hgv hbase hs2
      go_enter Try.func26, Try.ntmps26
      go_upto_region 15 with fail
      clear hov e0 e1 e2 hsl0 hs1 hsh
      refine wp_region_held_drew (S := fun _ => True) (by kernel_rfl) (trivial) (fun hHeld => ?_)
      have hF : Blk w.drew g 27 cur ∧ Blk w.drew gv 27 o ∧ Below base w w.drew := ⟨HX2.out.1, HX2.out.2.1, HX2.out.2.2.drew⟩
      generalize w.drew = wd1 at hF ⊢
      refine take_first (v := ?_) 0 rfl (by kernel_rfl) (by kernel_rfl) (by kernel_rfl) (fun _ _ _ h => h) (Or.inl ⟨by rfl, ?_⟩) (by assumption) ?_
      rotate_left
      · (intro w hSw; (try dsimp only at hSw); go_simp; try with_reducible rfl)
      (try simp only [Act.put, List.setIfInBounds_toArray, List.set_cons_zero, List.set_cons_succ])
      refine take_first (v := ?_) 1 rfl (by kernel_rfl) (by kernel_rfl) (by kernel_rfl) (fun _ _ _ h => h) (Or.inl ⟨by rfl, ?_⟩) (by assumption) ?_
      rotate_left
      · (intro w hSw; (try dsimp only at hSw); go_simp; try with_reducible rfl)
      (try simp only [Act.put, List.setIfInBounds_toArray, List.set_cons_zero, List.set_cons_succ])
      refine take_first (v := ?_) 2 rfl (by kernel_rfl) (by kernel_rfl) (by kernel_rfl) (fun _ _ _ h => h) (Or.inl ⟨by rfl, ?_⟩) (by assumption) ?_
      rotate_left
      · (intro w hSw; (try dsimp only at hSw); go_simp; try with_reducible rfl)
      (try simp only [Act.put, List.setIfInBounds_toArray, List.set_cons_zero, List.set_cons_succ])
      refine take_first (v := ?_) 3 rfl (by kernel_rfl) (by kernel_rfl) (by kernel_rfl) (fun _ _ _ h => h) (Or.inl ⟨by rfl, ?_⟩) (by assumption) ?_
      rotate_left
      · (intro w hSw; (try dsimp only at hSw); go_simp; try with_reducible rfl)
      (try simp only [Act.put, List.setIfInBounds_toArray, List.set_cons_zero, List.set_cons_succ])
      refine take_first (v := ?_) 4 rfl (by kernel_rfl) (by kernel_rfl) (by kernel_rfl) (fun _ _ _ h => h) (Or.inl ⟨by rfl, ?_⟩) (by assumption) ?_
      rotate_left
      · (intro w hSw; (try dsimp only at hSw); have s := HS1.out w; go_simp; try with_reducible rfl)
      (try simp only [Act.put, List.setIfInBounds_toArray, List.set_cons_zero, List.set_cons_succ])
      refine take_first (v := ?_) 5 rfl (by kernel_rfl) (by kernel_rfl) (by kernel_rfl) (fun _ _ _ h => h) (Or.inl ⟨by rfl, ?_⟩) (by assumption) ?_
      rotate_left
      · (intro w hSw; (try dsimp only at hSw); go_simp; try with_reducible rfl)
      (try simp only [Act.put, List.setIfInBounds_toArray, List.set_cons_zero, List.set_cons_succ])
      refine take_first (v := ?_) 6 rfl (by kernel_rfl) (by kernel_rfl) (by kernel_rfl) (fun _ _ _ h => h) (Or.inl ⟨by rfl, ?_⟩) (by assumption) ?_
      rotate_left
      · (intro w hSw; (try dsimp only at hSw); go_simp; try with_reducible rfl)
      (try simp only [Act.put, List.setIfInBounds_toArray, List.set_cons_zero, List.set_cons_succ])
      refine take_first (v := ?_) 7 rfl (by kernel_rfl) (by kernel_rfl) (by kernel_rfl) (fun _ _ _ h => h) (Or.inl ⟨by rfl, ?_⟩) (by assumption) ?_
      rotate_left
      · (intro w hSw; (try dsimp only at hSw); have s := HS2.out w; go_simp; try with_reducible rfl)
      (try simp only [Act.put, List.setIfInBounds_toArray, List.set_cons_zero, List.set_cons_succ])
      refine step_one 8 rfl (by kernel_rfl) (fun K hK => ?_)
      refine step_copy_objs _ rfl (.tmp 73) (.tmp 76) 23 23 rfl 27 Try.underlying23 34 HSZ.out g (i1 * 34) (n1 - i1) (c - i1) ⟨g, i * 34, none⟩ (n1 - i) (c - i) rfl rfl cur 27 hF.1 (os.drop i).flatten HN2.out (blk_seg hF.1 HDS.out) HF1.out HD1.out ?_
      intro w4 hb4 hg4
      refine hK.out _ _ trivial (fun _ => ?_)
      clear hK K
      (try simp only [Act.put])
      refine wpAnyH_done (by kernel_rfl) ?_ _
      have HX4 := Lib.hid (show Blk w4 g 27 (setL cur (i1 * 34) (os.drop i).flatten) ∧ Blk w4 gv 27 o ∧ Below base w w4 from ⟨hb4, (hg4.block gv hF.2.1.lt (fun e => by injection e with e; exact HGV.out e.symm)).trans hF.2.1, hF.2.2.grown hg4 (Nat.le_trans HBS.out hF.2.2.size) (fun q hq => by injection hq with hq; have := HW.out.2.2.2.2.2.2.1; omega)⟩)
      clear hb4 hg4 hF
      have hs1 := HS2.out
      go_wp2_with (refine wpList_copy_objs _ rfl (.tmp 80) (.tmp 81) 23 23 rfl 27 Try.underlying23 34 HSZ.out g (i * 34) (n1 - i) (c - i) ⟨gv, 0, none⟩ 1 1 rfl rfl (setL cur (i1 * 34) (os.drop i).flatten) 27 HX4.out.1 o HN1.out (blk_seg HX4.out.2.1 (fun j v hj => by rw [Nat.zero_add]; exact hj)) HF0.out H1O.out ?_; intro w5 hb5 hg5)
      have HFIN := Lib.hid (show w5.ownsRow base 27 34 (.slice (some ⟨g, 0, none⟩) n1 c) n1 (os.take i ++ o :: os.drop i).flatten ∧ Below base w w5 from ⟨own_of_blk hb5 HW.out.2.2.2.2.2.2.1 HRM.out HW.out.2.2.2.2.2.2.2.1 (by have h := HRES.out.2; rw [HW.out.2.2.2.2.2.1] at h; rw [h]; exact HW.out.2.2.2.1) (by have h := HRES.out.1; rw [HW.out.2.2.1, HW.out.2.2.2.2.2.2.2.2.2.2, HW.out.2.2.2.2.2.1] at h; rw [h]; exact HW.out.2.2.2.2.2.2.2.2.2.1), HX4.out.2.2.grown hg5 (Nat.le_trans HBS.out HX4.out.2.2.size) (fun q hq => by injection hq with hq; have := HW.out.2.2.2.2.2.2.1; omega)⟩)
      clear hb5 hg5
      go_ret
      exact ⟨.slice (some ⟨g, 0, none⟩) n1 c, rfl, by have h := HFIN.out.1; simp at h ⊢; exact h, HFIN.out.2⟩
  · obtain rfl : i = n := by omega
    have HO := Lib.hid hown
    have HFE := Lib.hid (show os.flatten ++ o = (os.take i ++ o :: os.drop i).flatten from by rw [List.take_of_length_le (by omega), List.drop_of_length_le (by omega)]; simp)
    have e0 : ((i : Int) == (i : Int)) = true := by simp
    clear hown hv hne hlo
    go_enter Try.func26, Try.ntmps26
    go_wp2_with (refine wpList_append_own_at _ rfl (.tmp 23) (.tmp 24) 23 rfl base 27 ik _ 34 48 Try.underlying23 HKI.out.1 HKI.out.2.1 HKI.out.2.2.1 HKI.out.2.2.2 (by rfl) (by omega) (.slice A i c) i _ rfl HO.out ⟨gv, 0, none⟩ 1 1 o rfl (by rw [HOL.out]) (fun q v hv => by rw [Go.WideShapes.add_plain, Nat.zero_add, HV.out.cell]; exact hv) H1O.out (by unfold maxLen; omega) (by omega) HBS.out ?_; intro v6 w6 ho6 hg6 _ _)
    go_ret
    exact ⟨v6, rfl, by have h := ho6; rw [HFE.out] at h; simp at h ⊢; exact h, ((Below.refl _ _).mono HBS.out).grown hg6 HBS.out (own_from HO.out)⟩
end Go.Proofs.Ytffeecaidkeepaa
namespace Go.Proofs.Ytffeecaidkeepaa
open Go.RowKit

set_option maxRecDepth 100000 in
set_option maxHeartbeats 8000000 in
theorem whPlace_any (A : Option Addr) (n c : Nat) (l : List TimerM) (t : TimerM) (w : World) (hn : n ≤ 100) (ht : t.ok) (_hok : ∀ s ∈ l, s.ok) (hr : TmRd w w.heap.size A n l) :
    Calls Try.prog 27 #[.slice A n c, .agg t.cells.toArray] w fun e w' => e = .returned (.int .i64 (placeT l t : Int)) ∧ Below w.heap.size w w' := by
  have HA := Lib.hid hr
  have HOT := Lib.hid ht
  obtain ⟨tc, htc⟩ : ∃ z, t.cells.toArray = z := ⟨_, rfl⟩
  rw [htc]
  have HTC := Lib.hid htc
  have HM := Lib.hid (show Mem w [blkE w.heap.size 27 t.cells] (w.alloc (.cells tc 27)) from (Mem.nil w).alloc rfl 27 tc t.cells htc.symm)
  clear hr ht htc _hok
  go_enter Try.func27, Try.ntmps27
  go_upto_region 1 with fail
  generalize w.alloc (.cells tc 27) = w1 at HM ⊢
  go_wp2_with fail
  go_loopw [9] (fun v wr => ∃ j : Nat, j ≤ n ∧ v = .int .i64 (j : Int) ∧ (∀ (q : Nat) x, q < j → l[q]? = some x → lessT t x = false) ∧ Mem w [blkE w.heap.size 27 t.cells] wr) (fun v _ => n - (intOf v).toNat)
  case atStart => exact ⟨0, Nat.zero_le _, rfl, fun q _ h => absurd h (Nat.not_lt_zero _), HM.out⟩
  case round =>
    clear HM
    obtain ⟨j, hj, rfl, hno, hM⟩ := hrel
    have HM := Lib.hid hM
    have HNO := Lib.hid hno
    clear hM hno
    by_cases hjn : j < n
    · have d1 : decide ((j : Int) < (n : Int)) = true := by simp; omega
      obtain ⟨b, off, rfl⟩ := HA.out.1.addr (by omega)
      obtain ⟨s, hs⟩ : ∃ s, l[j]? = some s := ⟨l[j]'(by rw [HA.out.len]; exact hjn), List.getElem?_eq_getElem _⟩
      have HOK := Lib.hid (HA.out.ok hs)
      have hat := HA.out.at j s hs
      have HLA := Lib.hid (hat.2.mono HM.out.bel hat.1)
      have HJS := Lib.hid hs
      obtain ⟨sc, hsc⟩ : ∃ z, s.cells.toArray = z := ⟨_, rfl⟩
      have HSC := Lib.hid hsc
      obtain ⟨sk, hsk⟩ : ∃ z, (s.peer.map u8v).toArray = z := ⟨_, rfl⟩
      have HSK := Lib.hid hsk
      clear hat hs hsc hsk
      have HZ := Lib.hid (Blk.new wr 27 timerZ)
      go_upto_region 4 with (first | (refine wpList_load_obj rfl 27 (.tmp 12) rfl b _ rfl s.cells HLA.out _ Try.underlying27 rfl (timer_cellsOf s HOK.out) ?_; rw [HSC.out]) | (refine wpList_store_obj rfl 27 (.tmp 6) (.tmp 13) rfl wr.heap.size 0 s.cells rfl (by show Value.agg sc = _; rw [HSC.out]) 27 timerZ HZ.out (timer_cellsOf s HOK.out) (by rw [TimerM.cells_length HOK.out, timerZ_length]; omega) (timer_one s) ?_; intro w4 hb4 hg4))
      rw [setL_all timerZ s.cells (by rw [TimerM.cells_length HOK.out, timerZ_length])] at hb4
      replace HM := Lib.hid (HM.out.below (below_fresh hg4))
      have HP := Lib.hid hb4
      have hlc := whLessC t s
      rw [HTC.out, HSC.out] at hlc
      obtain ⟨y, hy⟩ : ∃ y, lessT t s = y := ⟨_, rfl⟩
      rw [hy] at hlc
      have HLC := Lib.hid hlc
      have HY := Lib.hid hy
      clear hb4 hg4 HZ d1 HLA hlc hy
      generalize wr.heap.size = P1 at HP ⊢
      go_wp2_with (first | (refine wpList_load_obj rfl 27 (.tmp 3) rfl w.heap.size 0 rfl t.cells ((HM.out.blk 0 rfl).all) _ Try.underlying27 rfl (timer_cellsOf t HOT.out) ?_; rw [HTC.out]) | (refine wpList_load_obj rfl 27 (.tmp 6) rfl P1 0 rfl s.cells (HP.out.all) _ Try.underlying27 rfl (timer_cellsOf s HOK.out) ?_; rw [HSC.out]))
      refine (HLC.out w4 HOT.out HOK.out).mono ?_
      rintro e w5 ⟨rfl, hb⟩
      replace HM := Lib.hid (HM.out.below hb)
      clear hb HLC HP
      cases y with
      | true =>
        have HR := Lib.hid (placeT_some HJS.out HY.out HNO.out)
        go_wp2_with fail
        go_ret
        exact ⟨by rw [HR.out]; rfl, HM.out.bel⟩
      | false =>
        go_wp2_with fail
        go_roundw
        case rel => exact ⟨j + 1, by omega, by go_num, fun q x hq hx => by
          rcases Nat.lt_or_ge q j with h | h
          · exact HNO.out q x h hx
          · obtain rfl : q = j := by omega
            have e := HJS.out.symm.trans hx
            injection e with e
            rw [← e]
            exact HY.out, HM.out⟩
        case measure => simp [intOf]; omega
    · obtain rfl : n = j := by omega
      have d1 : decide ((n : Int) < (n : Int)) = false := by simp
      have HR := Lib.hid (show placeT l t = n from (placeT_none fun q x hq hx => HNO.out q x (by rw [← HA.out.len]; exact hq) hx).trans HA.out.len)
      have HF := Lib.hid HM.out.bel
      clear HM HNO
      go_wp2
      go_ret
      exact ⟨by rw [HR.out]; rfl, HF.out⟩
theorem lows_below_t {w W W' : World} {g0 : Nat} {k : List Value} (h : Lows w [blkL w.heap.size 27 k] W) (hb : Below g0 W W') (hg : w.heap.size < g0) : Lows w [blkL w.heap.size 27 k] W' :=
  ⟨fun f hf => by
    cases List.mem_singleton.1 hf
    have h1 : Blk W w.heap.size 27 k := h.blk 0 rfl
    exact (hb.block _ hg).trans h1, h.bel.trans (hb.mono (Nat.le_of_lt hg))⟩
set_option maxRecDepth 100000 in
set_option maxHeartbeats 8000000 in
theorem whSetC : WhSetC 9 := by
  intro A n c l t w ht harg
  have hn := harg.1
  have HOT := Lib.hid ht
  have HOKS := Lib.hid harg.2.2.2.2
  have HLN := Lib.hid harg.2.2.2.len
  obtain ⟨ik, hik, hiz, his, hib⟩ := timerInfo
  have HKI := Lib.hid (And.intro hik (And.intro hiz (And.intro his hib)))
  clear hik hiz his hib
  obtain ⟨tc, htc⟩ : ∃ z, t.cells.toArray = z := ⟨_, rfl⟩
  rw [htc]
  have HTC := Lib.hid htc
  have HM := Lib.hid (show Lows w [blkL w.heap.size 27 t.cells] (w.alloc (.cells tc 27)) from (Lows.nil w).alloc 27 tc t.cells htc.symm)
  obtain ⟨kk, hkk⟩ : ∃ z, (t.peer.map u8v).toArray = z := ⟨_, rfl⟩
  have HKK := Lib.hid hkk
  have HARG := Lib.hid harg
  clear harg ht htc hkk
  go_enter Try.func9, Try.ntmps9
  go_upto_region 1 with fail
  generalize w.alloc (.cells tc 27) = w1 at HM ⊢
  have fk := kind_at (HM.out.blk 0 rfl).all HOT.out
  have hca := whCancelO A n c l t.peer t.kind w1 HOT.out.2.1 HOT.out.2.2 ⟨hn, HARG.out.2.1, HARG.out.2.2.1, tmAt HARG.out.2.2.2 HM.out.bel⟩
  rw [HKK.out] at hca
  have HCA := Lib.hid hca
  have HWL := Lib.hid (show w.heap.size < w1.heap.size from (HM.out.blk 0 rfl).lt)
  have HW1 := Lib.hid (show w.heap.size ≤ w1.heap.size from HM.out.bel.size)
  clear hca
  go_wp2_with (refine wpList_load_obj rfl 25 (.tmp 7) rfl w.heap.size 1 rfl (t.peer.map u8v) (peer_at (HM.out.blk 0 rfl).all) _ Try.underlying25 rfl (key_cellsOf _ HOT.out.2.1) ?_; rw [HKK.out])
  refine HCA.out.mono ?_
  rintro e wz ⟨v5, rfl, hown, hb⟩
  obtain ⟨rest, hrest⟩ : ∃ z, cancelT l t.peer t.kind = z := ⟨_, rfl⟩
  have hokr : ∀ s ∈ rest, s.ok := by rw [← hrest]; exact cancelT_ok HOKS.out _ _
  have hml : rest.length ≤ 100 := by rw [← hrest]; exact Nat.le_trans (cancelT_le _ _ _) (by rw [HLN.out]; exact hn)
  rw [hrest] at hown
  obtain ⟨m, hm⟩ : ∃ z, rest.length = z := ⟨_, rfl⟩
  rw [hm] at hown hml
  obtain ⟨A5, c5, rfl, _, _, _⟩ := own_sliceK hown
  replace HM := Lib.hid (HM.out.below hb)
  obtain ⟨zs, hzs⟩ : ∃ z, wz.heap.size = z := ⟨_, rfl⟩
  have HNE := Lib.hid (show ∀ ad, A5 = some ad → ad.block < zs from fun ad h => hzs ▸ (hown.lt ad.block (by rw [h]; rfl)).2)
  have HO := Lib.hid (show wz.ownsRow w1.heap.size 27 34 (.slice A5 m c5) m (tmsV rest).flatten ∧ zs ≤ wz.heap.size from ⟨hown, Nat.le_of_eq hzs.symm⟩)
  have HZS := Lib.hid (show w1.heap.size ≤ zs from hzs ▸ hb.size)
  have HREST := Lib.hid hrest
  have HLR := Lib.hid hm
  have HOKR := Lib.hid hokr
  have HML := Lib.hid hml
  have HRES := Lib.hid (show ((tmsV rest).take (placeT rest t) ++ t.cells :: (tmsV rest).drop (placeT rest t)).flatten = (tmsV (setT l t)).flatten from by rw [setT, hrest, putT, tmsV_take, tmsV_drop]; simp [tmsV])
  have hpl := fun W (hr : TmRd W W.heap.size A5 m rest) => whPlace_any A5 m c5 rest t W hml HOT.out hokr hr
  rw [HTC.out] at hpl
  have HPL := Lib.hid hpl
  clear hpl
  generalize w1.heap.size = w1s at HO HZS HWL HW1
  clear hb hown hrest hokr hml hm fk HCA hzs
  go_upto_region 2 with fail
  refine wp_region_held_drew (S := fun W' => Lows w [blkL w.heap.size 27 t.cells] W') (by kernel_rfl) (HM.out.drew) (fun hHeld => ?_)
  replace HM := Lib.hid HM.out.drew
  replace HO := Lib.hid (show wz.drew.ownsRow w1s 27 34 (.slice A5 m c5) m (tmsV rest).flatten ∧ zs ≤ wz.drew.heap.size from HO.out)
  generalize wz.drew = wd at HM HO hHeld ⊢
  refine take_first (v := ?_) 0 rfl (by kernel_rfl) (by kernel_rfl) (by kernel_rfl) (fun _ _ _ h => h) (Or.inl ⟨by rfl, ?_⟩) (by assumption) ?_
  rotate_left
  · (intro w hSw; (try dsimp only at hSw); go_simp; try with_reducible rfl)
  (try simp only [Act.put, List.setIfInBounds_toArray, List.set_cons_zero, List.set_cons_succ])
  refine take_first (v := ?_) 1 rfl (by kernel_rfl) (by kernel_rfl) (by kernel_rfl) (fun _ _ _ h => h) (Or.inl ⟨by rfl, ?_⟩) (by assumption) ?_
  rotate_left
  · (intro w hSw; (try dsimp only at hSw); go_simp; try with_reducible rfl)
  (try simp only [Act.put, List.setIfInBounds_toArray, List.set_cons_zero, List.set_cons_succ])
  refine take_first (v := .agg tc) 2 rfl (by kernel_rfl) (by kernel_rfl) (by kernel_rfl) (fun _ _ _ h => h) (by rw [← HTC.out]; exact yields_load_obj (by rfl) 27 (.tmp 3) rfl w.heap.size 0 rfl t.cells (fun w' hb => (Lows.blk hb 0 rfl).all) _ Try.underlying27 rfl (timer_cellsOf t HOT.out)) (by assumption) ?_
  (try simp only [Act.put, List.setIfInBounds_toArray, List.set_cons_zero, List.set_cons_succ])
  refine take_first (v := .agg tc) 4 rfl (by kernel_rfl) (by kernel_rfl) (by kernel_rfl) (fun _ _ _ h => h) (by rw [← HTC.out]; exact yields_load_obj (by rfl) 27 (.tmp 3) rfl w.heap.size 0 rfl t.cells (fun w' hb => (Lows.blk hb 0 rfl).all) _ Try.underlying27 rfl (timer_cellsOf t HOT.out)) (by assumption) ?_
  (try simp only [Act.put, List.setIfInBounds_toArray, List.set_cons_zero, List.set_cons_succ])
  refine step_two 3 5 rfl rfl (by kernel_rfl) (fun K hK => ?_) (fun K hK => ?_)
  · clear hHeld
    go_simp
    refine (HPL.out wd (TmRd.of_own HLR.out HOKR.out HO.out.1)).mono ?_
    rintro e we ⟨rfl, hb⟩
    replace HO := Lib.hid (show we.ownsRow w1s 27 34 (.slice A5 m c5) m (tmsV rest).flatten ∧ zs ≤ we.heap.size from ⟨own_below HO.out.1 hb, Nat.le_trans HO.out.2 hb.size⟩)
    replace HM := Lib.hid (HM.out.below hb)
    skip
    clear hb
    go_wp2_with fail
    refine hK.out _ _ (HM.out) (fun hHeld => ?_)
    clear hK K
    (try simp only [Act.put, List.setIfInBounds_toArray, List.set_cons_zero, List.set_cons_succ])
    refine step_one 5 rfl (by kernel_rfl) (fun K hK => ?_)
    clear hHeld
    refine step_buildOne rfl 23 27 (.tmp 16) rfl tc rfl 34 Try.underlying23 ik HKI.out.1 HKI.out.2.2.1 _ HKI.out.2.1 (by omega) (by omega) (by rw [← HTC.out, List.size_toArray, TimerM.cells_length HOT.out]) ?_
    have HGV := Lib.hid (show Blk (we.alloc (.cells tc 27)) we.heap.size 27 t.cells ∧ zs ≤ we.heap.size from ⟨by rw [← HTC.out]; exact Blk.new we 27 _, HO.out.2⟩)
    replace HO := Lib.hid (show (we.alloc (.cells tc 27)).ownsRow w1s 27 34 (.slice A5 m c5) m (tmsV rest).flatten ∧ zs ≤ (we.alloc (.cells tc 27)).heap.size from ⟨HO.out.1.alloc _, Nat.le_trans HO.out.2 (by simp)⟩)
    replace HM := Lib.hid (HM.out.below ((Below.refl _ _).alloc (Nat.le_refl _) (.cells tc 27)))
    generalize we.alloc (.cells tc 27) = wf at HM HO HGV ⊢
    generalize we.heap.size = gv at HGV ⊢
    refine hK.out _ _ (HM.out) (fun hHeld => ?_)
    clear hK K
    (try simp only [Act.put, List.setIfInBounds_toArray, List.set_cons_zero, List.set_cons_succ])
    refine step_one 6 rfl (by kernel_rfl) (fun K hK => ?_)
    clear hHeld
    go_simp
    refine (tmIns_any w1s A5 m c5 (placeT rest t) (tmsV rest) t.cells (by have := HML.out; omega) (by rw [← HLR.out]; exact placeT_le _ _) (by rw [tmsV_len]; exact HLR.out) (tms_34 HOKR.out) (tms_one rest) (TimerM.cells_length HOT.out) (timer_one t) gv wf (Nat.le_trans HZS.out (Nat.le_trans HGV.out.2 (Nat.le_of_lt HGV.out.1.lt))) HO.out.1 HGV.out.1 (fun ad h => by have h1 := HNE.out ad h; have h2 := HGV.out.2; omega)).mono ?_
    rintro e w9 ⟨v9, rfl, ho9, hb⟩
    have HF := Lib.hid (And.intro ho9 (HM.out.bel.trans (hb.mono HW1.out)))
    have hx := lows_below_t HM.out hb HWL.out
    clear ho9 hb HM
    go_wp2_with fail
    refine hK.out _ _ hx (fun hHeld => ?_)
    clear hK K hx
    (try simp only [Act.put, List.setIfInBounds_toArray, List.set_cons_zero, List.set_cons_succ])
    refine take_first (v := ?_) 7 rfl (by kernel_rfl) (by kernel_rfl) (by kernel_rfl) (fun _ _ _ h => h) (Or.inl ⟨by rfl, ?_⟩) (by assumption) ?_
    rotate_left
    · (intro w hSw; (try dsimp only at hSw); go_simp; try with_reducible rfl)
    (try simp only [Act.put, List.setIfInBounds_toArray, List.set_cons_zero, List.set_cons_succ])
    refine wpAnyH_done (by kernel_rfl) ?_ _
    clear hHeld
    go_wp2
    go_ret
    exact ⟨v9, rfl, whOut_own HW1.out (by rw [setT, putT_len, HREST.out, HLR.out]) (setT_ok HOKS.out HOT.out) (by have h := HF.out.1; rw [← HRES.out]; exact h) HF.out.2⟩
  · clear hHeld
    refine step_buildOne rfl 23 27 (.tmp 16) rfl tc rfl 34 Try.underlying23 ik HKI.out.1 HKI.out.2.2.1 _ HKI.out.2.1 (by omega) (by omega) (by rw [← HTC.out, List.size_toArray, TimerM.cells_length HOT.out]) ?_
    have HGV := Lib.hid (show Blk (wd.alloc (.cells tc 27)) wd.heap.size 27 t.cells ∧ zs ≤ wd.heap.size from ⟨by rw [← HTC.out]; exact Blk.new wd 27 _, HO.out.2⟩)
    replace HO := Lib.hid (show (wd.alloc (.cells tc 27)).ownsRow w1s 27 34 (.slice A5 m c5) m (tmsV rest).flatten ∧ zs ≤ (wd.alloc (.cells tc 27)).heap.size from ⟨HO.out.1.alloc _, Nat.le_trans HO.out.2 (by simp)⟩)
    replace HM := Lib.hid (HM.out.below ((Below.refl _ _).alloc (Nat.le_refl _) (.cells tc 27)))
    generalize wd.alloc (.cells tc 27) = we at HM HO HGV ⊢
    generalize wd.heap.size = gv at HGV ⊢
    refine hK.out _ _ (HM.out) (fun hHeld => ?_)
    clear hK K
    (try simp only [Act.put, List.setIfInBounds_toArray, List.set_cons_zero, List.set_cons_succ])
    refine step_one 3 rfl (by kernel_rfl) (fun K hK => ?_)
    clear hHeld
    go_simp
    refine (HPL.out we (TmRd.of_own HLR.out HOKR.out HO.out.1)).mono ?_
    rintro e wf ⟨rfl, hb⟩
    replace HO := Lib.hid (show wf.ownsRow w1s 27 34 (.slice A5 m c5) m (tmsV rest).flatten ∧ zs ≤ wf.heap.size from ⟨own_below HO.out.1 hb, Nat.le_trans HO.out.2 hb.size⟩)
    replace HM := Lib.hid (HM.out.below hb)
    replace HGV := Lib.hid (show Blk wf gv 27 t.cells ∧ zs ≤ gv from ⟨HGV.out.1.below hb HGV.out.1.lt, HGV.out.2⟩)
    clear hb
    go_wp2_with fail
    refine hK.out _ _ (HM.out) (fun hHeld => ?_)
    clear hK K
    (try simp only [Act.put, List.setIfInBounds_toArray, List.set_cons_zero, List.set_cons_succ])
    refine step_one 6 rfl (by kernel_rfl) (fun K hK => ?_)
    clear hHeld
    go_simp
    refine (tmIns_any w1s A5 m c5 (placeT rest t) (tmsV rest) t.cells (by have := HML.out; omega) (by rw [← HLR.out]; exact placeT_le _ _) (by rw [tmsV_len]; exact HLR.out) (tms_34 HOKR.out) (tms_one rest) (TimerM.cells_length HOT.out) (timer_one t) gv wf (Nat.le_trans HZS.out (Nat.le_trans HGV.out.2 (Nat.le_of_lt HGV.out.1.lt))) HO.out.1 HGV.out.1 (fun ad h => by have h1 := HNE.out ad h; have h2 := HGV.out.2; omega)).mono ?_
    rintro e w9 ⟨v9, rfl, ho9, hb⟩
    have HF := Lib.hid (And.intro ho9 (HM.out.bel.trans (hb.mono HW1.out)))
    have hx := lows_below_t HM.out hb HWL.out
    clear ho9 hb HM
    go_wp2_with fail
    refine hK.out _ _ hx (fun hHeld => ?_)
    clear hK K hx
    (try simp only [Act.put, List.setIfInBounds_toArray, List.set_cons_zero, List.set_cons_succ])
    refine take_first (v := ?_) 7 rfl (by kernel_rfl) (by kernel_rfl) (by kernel_rfl) (fun _ _ _ h => h) (Or.inl ⟨by rfl, ?_⟩) (by assumption) ?_
    rotate_left
    · (intro w hSw; (try dsimp only at hSw); go_simp; try with_reducible rfl)
    (try simp only [Act.put, List.setIfInBounds_toArray, List.set_cons_zero, List.set_cons_succ])
    refine wpAnyH_done (by kernel_rfl) ?_ _
    clear hHeld
    go_wp2
    go_ret
    exact ⟨v9, rfl, whOut_own HW1.out (by rw [setT, putT_len, HREST.out, HLR.out]) (setT_ok HOKS.out HOT.out) (by have h := HF.out.1; rw [← HRES.out]; exact h) HF.out.2⟩
end Go.Proofs.Ytffeecaidkeepaa
