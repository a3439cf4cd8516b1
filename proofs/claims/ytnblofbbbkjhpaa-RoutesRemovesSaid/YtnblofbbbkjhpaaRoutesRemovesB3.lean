/-
  When an address lies in a prefix. The contracts of the reference's Sound, bit, width, Valid, Contains and Less. The contract of the reference's before. What a walk keeps of what lies under the world's size, whoever made it: a list of facts that whatever is made above leaves alone. The contract of the reference's InsertRoute. A row that was made is a block; bytes that were read stay. What a walk keeps of the memory that it has made, where the call changes one block of its caller's. The contracts of the choices that the statements are made of: Left, Next. No statement is proved here.
-/
import Derived.Laws.ShiftsVarLaws
import Derived.Deep.DeepCutAuto
import Derived.RegionTactic
import Derived.Test.YtnblofbbbkjhpaaRoutesRemovesB2
namespace Go.Proofs.Ytnblofbbbkjhpaa
open Go.RowKit

theorem containsM_iff (a x : AddrM) (bits : Int) (hv : validM a bits = true) (hs : soundM x = true) (h6 : (x.six == a.six) = true) : containsM a bits x = true ↔ ∀ i : Nat, (i : Int) < bits → i < 128 → bitM x.ip i = bitM a.ip i := by
  rw [containsM, hv, hs, h6, Bool.true_and, Bool.true_and, Bool.true_and, List.all_eq_true]
  constructor
  · intro h i hi hlt
    have := h i (List.mem_range.2 hlt)
    rw [Bool.or_eq_true, decide_eq_true_iff, beq_iff_eq] at this
    rcases this with h2 | h2
    · omega
    · exact h2
  · intro h i hi
    rw [Bool.or_eq_true, decide_eq_true_iff, beq_iff_eq]
    by_cases h2 : bits ≤ (i : Int)
    · exact .inl h2
    · exact .inr (h i (by omega) (List.mem_range.1 hi))
end Go.Proofs.Ytnblofbbbkjhpaa
namespace Go.Proofs.Ytnblofbbbkjhpaa
open Go.RowKit

theorem AddrM.rd {w : World} {g : Nat} {t : TypeId} {a : AddrM} (h : Blk w g t a.cells) (ho : a.ok) : Rd w (g + 1) (some ⟨g, 1, none⟩) 16 a.ip :=
  ⟨ho, fun _ => ⟨g, 1, rfl, Nat.lt_succ_self _, fun j hj => by
    rw [h.cell (1 + j), AddrM.ip_cell a ho j (by rw [ho] at hj; exact hj), List.getD_eq_getElem?_getD, List.getElem?_eq_getElem hj]
    rfl⟩⟩
set_option maxRecDepth 100000 in
set_option maxHeartbeats 2000000 in
theorem refLess_any (a b : AddrM) (ha : a.ok) (hb : b.ok) (w : World) :
    Calls Try.prog 54 #[.agg a.cells.toArray, .agg b.cells.toArray] w fun e w' => e = .returned (.bool (lessM a b)) ∧ Below w.heap.size w w' := by
  obtain ⟨ca, hca⟩ : ∃ x, a.cells.toArray = x := ⟨_, rfl⟩
  obtain ⟨cb, hcb⟩ : ∃ x, b.cells.toArray = x := ⟨_, rfl⟩
  rw [hca, hcb]
  have HM := Lib.hid (show Mem w [blkE (w.heap.size + 1) 26 b.cells, blkE w.heap.size 26 a.cells] ((w.alloc (.cells ca 26)).alloc (.cells cb 26)) from ((Mem.nil w).alloc rfl 26 ca a.cells hca.symm).alloc (by simp) 26 cb b.cells hcb.symm)
  have HOA := Lib.hid ha
  have HOB := Lib.hid hb
  clear hca hcb ha hb
  go_enter Try.func54, Try.ntmps54
  go_upto_region 1 with fail
  generalize ((w.alloc (.cells ca 26)).alloc (.cells cb 26)) = w1 at HM ⊢
  have f1 := ((HM.out.blk 1 rfl).cell 0).trans (AddrM.six_cell a)
  have f2 := ((HM.out.blk 0 rfl).cell 0).trans (AddrM.six_cell b)
  by_cases h6 : a.six = b.six
  · have HE := Lib.hid (show lessM a b = Op.bytesLess a.ip b.ip by rw [lessM, if_pos h6])
    rw [h6] at f1
    have hne : (b.six != b.six) = false := by simp
    clear h6
    generalize b.six = sx at f1 f2 hne
    go_upto_region 3 with fail
    clear f1 f2 hne
    generalize w.heap.size = GA at HM ⊢
    refine wp_region_held_drew (S := fun W' => Mem w [blkE (GA + 1) 26 b.cells, blkE GA 26 a.cells] W') (by kernel_rfl) ((HM.out).drew) (fun hHeld => ?_)
    replace HM := Lib.hid HM.out.drew
    generalize w1.drew = wd1 at HM hHeld ⊢
    refine take_first (v := ?_) 0 rfl (by kernel_rfl) (by kernel_rfl) (by kernel_rfl) (fun _ _ _ h => h) (Or.inl ⟨by rfl, ?_⟩) (by assumption) ?_
    rotate_left
    · (intro w hSw; (try dsimp only at hSw); go_simp; try with_reducible rfl)
    (try simp only [Act.put, List.setIfInBounds_toArray, List.set_cons_zero, List.set_cons_succ])
    refine take_first (v := ?_) 1 rfl (by kernel_rfl) (by kernel_rfl) (by kernel_rfl) (fun _ _ _ h => h) (Or.inl ⟨by rfl, ?_⟩) (by assumption) ?_
    rotate_left
    · (intro w hSw; (try dsimp only at hSw); go_simp; try with_reducible rfl)
    (try simp only [Act.put, List.setIfInBounds_toArray, List.set_cons_zero, List.set_cons_succ])
    refine take_first (v := ?_) 2 rfl (by kernel_rfl) (by kernel_rfl) (by kernel_rfl) (fun _ _ _ h => h) (Or.inl ⟨by rfl, ?_⟩) (by assumption) ?_
    rotate_left
    · (intro w hSw; (try dsimp only at hSw); have cv : (convert 22 9 (.slice (some ⟨GA, 1, none⟩) 16 16)).run Try.prog w = .ok (.string ⟨a.ip.toArray⟩) w := run_string_of_rd (P := Try.prog) 22 9 5 16 Try.underlying22 Try.underlying5 Try.underlying9 (AddrM.rd (Mem.blk hSw 1 rfl) HOA.out); go_simp; try with_reducible rfl)
    (try simp only [Act.put, List.setIfInBounds_toArray, List.set_cons_zero, List.set_cons_succ])
    refine take_first (v := ?_) 3 rfl (by kernel_rfl) (by kernel_rfl) (by kernel_rfl) (fun _ _ _ h => h) (Or.inl ⟨by rfl, ?_⟩) (by assumption) ?_
    rotate_left
    · (intro w hSw; (try dsimp only at hSw); go_simp; try with_reducible rfl)
    (try simp only [Act.put, List.setIfInBounds_toArray, List.set_cons_zero, List.set_cons_succ])
    refine take_first (v := ?_) 4 rfl (by kernel_rfl) (by kernel_rfl) (by kernel_rfl) (fun _ _ _ h => h) (Or.inl ⟨by rfl, ?_⟩) (by assumption) ?_
    rotate_left
    · (intro w hSw; (try dsimp only at hSw); go_simp; try with_reducible rfl)
    (try simp only [Act.put, List.setIfInBounds_toArray, List.set_cons_zero, List.set_cons_succ])
    refine take_first (v := ?_) 5 rfl (by kernel_rfl) (by kernel_rfl) (by kernel_rfl) (fun _ _ _ h => h) (Or.inl ⟨by rfl, ?_⟩) (by assumption) ?_
    rotate_left
    · (intro w hSw; (try dsimp only at hSw); have cv : (convert 22 9 (.slice (some ⟨(GA + 1), 1, none⟩) 16 16)).run Try.prog w = .ok (.string ⟨b.ip.toArray⟩) w := run_string_of_rd (P := Try.prog) 22 9 5 16 Try.underlying22 Try.underlying5 Try.underlying9 (AddrM.rd (Mem.blk hSw 0 rfl) HOB.out); go_simp; try with_reducible rfl)
    (try simp only [Act.put, List.setIfInBounds_toArray, List.set_cons_zero, List.set_cons_succ])
    refine take_first (v := ?_) 6 rfl (by kernel_rfl) (by kernel_rfl) (by kernel_rfl) (fun _ _ _ h => h) (Or.inl ⟨by rfl, ?_⟩) (by assumption) ?_
    rotate_left
    · (intro w hSw; (try dsimp only at hSw); go_simp; try with_reducible rfl)
    (try simp only [Act.put, List.setIfInBounds_toArray, List.set_cons_zero, List.set_cons_succ])
    refine take_first (v := ?_) 7 rfl (by kernel_rfl) (by kernel_rfl) (by kernel_rfl) (fun _ _ _ h => h) (Or.inl ⟨by rfl, ?_⟩) (by assumption) ?_
    rotate_left
    · (intro w hSw; (try dsimp only at hSw); go_simp; try with_reducible rfl)
    (try simp only [Act.put, List.setIfInBounds_toArray, List.set_cons_zero, List.set_cons_succ])
    refine wpAnyH_done (by kernel_rfl) ?_ _
    have HB := Lib.hid HM.out.bel
    clear HM hHeld
    go_wp2
    go_ret
    exact ⟨by have h := HE.out; simp at h ⊢; exact h.symm, HB.out⟩
  · have HR := Lib.hid (show lessM a b = !a.six by rw [lessM, if_neg h6])
    generalize a.six = s1 at f1 h6 HR
    generalize b.six = s2 at f2 h6
    have hc : (s1 = true ∧ s2 = false) ∨ (s1 = false ∧ s2 = true) := by revert h6; cases s1 <;> cases s2 <;> simp
    clear h6
    rcases hc with ⟨rfl, rfl⟩ | ⟨rfl, rfl⟩
    · go_wp2
      go_ret
      exact ⟨by rw [HR.out]; rfl, HM.out.bel⟩
    · go_wp2
      go_ret
      exact ⟨by rw [HR.out]; rfl, HM.out.bel⟩
end Go.Proofs.Ytnblofbbbkjhpaa
namespace Go.Proofs.Ytnblofbbbkjhpaa
open Go.RowKit

theorem prefA_at {w : World} {g off : Nat} {a : AddrM} {bits : Int} (h : At w g off (prefC a bits)) : At w g off a.cells := fun j v hj => h j v (by
  rw [prefC, List.getElem?_append_left (List.getElem?_eq_some_iff.1 hj).1]
  exact hj)
theorem pref_bits_at {w : World} {g off : Nat} {a : AddrM} {bits : Int} (h : At w g off (prefC a bits)) (ho : a.ok) : w.cell? ⟨g, off + 17, none⟩ = some (.int .i64 bits) := h 17 _ (prefC_bits a ho bits)
set_option maxRecDepth 100000 in
set_option maxHeartbeats 4000000 in
theorem refBefore_any (a b : AddrM) (i j : Int) (ha : a.ok) (hb : b.ok) (w : World) :
    Calls Try.prog 39 #[.agg (prefC a i).toArray, .agg (prefC b j).toArray] w fun e w' => e = .returned (.bool (befM a i b j)) ∧ Below w.heap.size w w' := by
  have HL := Lib.hid (refLess_any a b ha hb)
  have HE := Lib.hid (addr_eqd a b ha hb)
  have HV := Lib.hid (show befM a i b j = if a = b then decide (i < j) else lessM a b from rfl)
  obtain ⟨ca, hca⟩ : ∃ z, a.cells.toArray = z := ⟨_, rfl⟩
  obtain ⟨cb, hcb⟩ : ∃ z, b.cells.toArray = z := ⟨_, rfl⟩
  obtain ⟨pa, hpa⟩ : ∃ z, (prefC a i).toArray = z := ⟨_, rfl⟩
  obtain ⟨pb, hpb⟩ : ∃ z, (prefC b j).toArray = z := ⟨_, rfl⟩
  rw [hca, hcb] at HL HE
  rw [hpa, hpb]
  have HUA := Lib.hid (addr_cellsOf a ha)
  have HUB := Lib.hid (addr_cellsOf b hb)
  have hm := ((Mem.nil w).alloc rfl 28 pa (prefC a i) hpa.symm).alloc (g := w.heap.size + 1) (by simp) 28 pb (prefC b j) hpb.symm
  have HM := Lib.hid hm
  have HCA := Lib.hid hca
  have HCB := Lib.hid hcb
  have HOA := Lib.hid ha
  have HOB := Lib.hid hb
  clear hca hcb hpa hpb hm ha hb
  go_enter Try.func39, Try.ntmps39
  go_upto_region 1 with fail
  generalize (w.alloc (.cells pa 28)).alloc (.cells pb 28) = w1 at HM ⊢
  by_cases hab : a = b
  · replace HV := Lib.hid (HV.out.trans (if_pos hab))
    rw [decide_eq_true hab] at HE
    have fi := pref_bits_at (HM.out.blk 1 rfl).all HOA.out
    have fj := pref_bits_at (HM.out.blk 0 rfl).all HOB.out
    clear hab
    go_wp2_with (first | (refine wpList_load_obj rfl 26 (.tmp 5) rfl w.heap.size 0 rfl a.cells (prefA_at (HM.out.blk 1 rfl).all) _ Try.underlying26 rfl HUA.out ?_; rw [HCA.out]) | (refine wpList_load_obj rfl 26 (.tmp 7) rfl (w.heap.size + 1) 0 rfl b.cells (prefA_at (HM.out.blk 0 rfl).all) _ Try.underlying26 rfl HUB.out ?_; rw [HCB.out]) | (refine wpList_neq_agg (by rfl) 26 26 6 8 rfl ca cb true rfl rfl addr_noguard (HE.out _) ?_))
    go_ret
    exact ⟨by rw [HV.out]; rfl, HM.out.bel⟩
  · replace HV := Lib.hid (HV.out.trans (if_neg hab))
    rw [decide_eq_false hab] at HE
    clear hab
    go_wp2_with (first | (refine wpList_load_obj rfl 26 (.tmp 5) rfl w.heap.size 0 rfl a.cells (prefA_at (HM.out.blk 1 rfl).all) _ Try.underlying26 rfl HUA.out ?_; rw [HCA.out]) | (refine wpList_load_obj rfl 26 (.tmp 7) rfl (w.heap.size + 1) 0 rfl b.cells (prefA_at (HM.out.blk 0 rfl).all) _ Try.underlying26 rfl HUB.out ?_; rw [HCB.out]) | (refine wpList_neq_agg (by rfl) 26 26 6 8 rfl ca cb false rfl rfl addr_noguard (HE.out _) ?_) | (refine wpList_load_obj rfl 26 (.tmp 10) rfl w.heap.size 0 rfl a.cells (prefA_at (HM.out.blk 1 rfl).all) _ Try.underlying26 rfl HUA.out ?_; rw [HCA.out]) | (refine wpList_load_obj rfl 26 (.tmp 12) rfl (w.heap.size + 1) 0 rfl b.cells (prefA_at (HM.out.blk 0 rfl).all) _ Try.underlying26 rfl HUB.out ?_; rw [HCB.out]))
    refine (HL.out _).mono ?_
    rintro e w2 ⟨rfl, hb⟩
    replace HM := Lib.hid (HM.out.below hb)
    clear hb
    go_wp2
    go_ret
    exact ⟨by rw [HV.out]; rfl, HM.out.bel⟩
end Go.Proofs.Ytnblofbbbkjhpaa
namespace Go.Proofs.Ytnblofbbbkjhpaa
open Go.RowKit

structure Low where
  P : World → Prop
  keep : ∀ W W' : World, Below W.heap.size W W' → P W → P W'
/-- bytes that a slice reads as -/
def rdL (A : Option Addr) (n : Nat) (l : List UInt8) : Low := ⟨fun W => Rd W W.heap.size A n l, fun _ _ hb h => (h.below hb).mono hb.size⟩
/-- a block -/
def blkL (g : Nat) (t : TypeId) (cs : List Value) : Low := ⟨fun W => Blk W g t cs, fun _ _ hb h => h.below hb h.lt⟩
/-- a row of bytes that was made above base -/
def ownL (base : Nat) (v : Value) (n : Nat) (xs : List Value) : Low := ⟨fun W => W.ownsRow base 5 1 v n xs, fun _ _ hb h => ⟨h.1, by
  rcases h.2 with h1 | ⟨g, cap, cur, hv, hbg, hg, hr⟩
  · exact .inl h1
  · exact .inr ⟨g, cap, cur, hv, hbg, (hb.block g (h.lt g (by rw [hv]; rfl)).2).trans hg, hr⟩⟩⟩
def Lows (w0 : World) (E : List Low) (W : World) : Prop := (∀ f ∈ E, f.P W) ∧ Below w0.heap.size w0 W
section
variable {w0 W W' : World} {E : List Low}
theorem Lows.nil (w0 : World) : Lows w0 [] w0 := ⟨fun f hf => absurd hf (by simp), Below.refl _ _⟩
theorem Lows.bel (h : Lows w0 E W) : Below w0.heap.size w0 W := h.2
theorem Lows.size (h : Lows w0 E W) : w0.heap.size ≤ W.heap.size := h.2.size
theorem Lows.below (h : Lows w0 E W) (hb : Below W.heap.size W W') : Lows w0 E W' := ⟨fun f hf => f.keep _ _ hb (h.1 f hf), h.2.trans (hb.mono h.2.size)⟩
theorem Lows.drew (h : Lows w0 E W) : Lows w0 E W.drew := h.below ((Below.refl _ _).drew)
theorem Lows.cons (h : Lows w0 E W) (f : Low) (hf : f.P W) : Lows w0 (f :: E) W :=
  ⟨fun g hg => by
    rcases List.mem_cons.1 hg with rfl | hg
    · exact hf
    · exact h.1 g hg, h.2⟩
theorem Lows.get (h : Lows w0 E W) (i : Nat) {f : Low} (he : E[i]? = some f) : f.P W := h.1 _ (List.mem_of_getElem? he)
theorem Lows.rd (h : Lows w0 E W) (i : Nat) {A : Option Addr} {n : Nat} {l : List UInt8} (he : E[i]? = some (rdL A n l)) : Rd W W.heap.size A n l := h.get i he
theorem Lows.blk (h : Lows w0 E W) (i : Nat) {g : Nat} {t : TypeId} {cs : List Value} (he : E[i]? = some (blkL g t cs)) : Blk W g t cs := h.get i he
theorem Lows.own (h : Lows w0 E W) (i : Nat) {base : Nat} {v : Value} {n : Nat} {xs : List Value} (he : E[i]? = some (ownL base v n xs)) : W.ownsRow base 5 1 v n xs := h.get i he
theorem Lows.tail (h : Lows w0 E W) (i : Nat) : Lows w0 (E.eraseIdx i) W := ⟨fun f hf => h.1 f (List.mem_of_mem_eraseIdx hf), h.2⟩
/-- a new block -/
theorem Lows.alloc (h : Lows w0 E W) (t : TypeId) (arr : Array Value) (cs : List Value) (ha : arr = cs.toArray) : Lows w0 (blkL W.heap.size t cs :: E) (W.alloc (.cells arr t)) := by
  subst ha
  exact (h.below ((Below.refl _ _).alloc (Nat.le_refl _) _)).cons (blkL _ _ _) (Blk.new W t cs)
/-- a block above is written -/
theorem Lows.grown (h : Lows w0 E W) {W2 : World} (hb : Below W.heap.size W W') {row : Option Nat} (hg : W'.grownBy W2 row) (hr : ∀ k, row = some k → W.heap.size ≤ k) : Lows w0 E W2 := h.below (hb.grown hg hb.size hr)
/-- a new block that is written at once -/
theorem Lows.stored (h : Lows w0 E W) {t : TypeId} {arr : Array Value} {cs : List Value} {W2 : World} (hg : (W.alloc (.cells arr t)).grownBy W2 (some W.heap.size)) (hb : Blk W2 W.heap.size t cs) : Lows w0 (blkL W.heap.size t cs :: E) W2 :=
  (h.grown ((Below.refl _ _).alloc (Nat.le_refl _) _) hg (by intro k hk; injection hk with hk; omega)).cons (blkL _ _ _) hb
end
end Go.Proofs.Ytnblofbbbkjhpaa
namespace Go.Proofs.Ytnblofbbbkjhpaa
open Go.RowKit

theorem insM_bad {l : List RouteM} {a : AddrM} {b : Int} {k : List UInt8} (h : validM a b = false) : insM l a b k = ([], 1) := by rw [insM, if_pos h]
theorem insM_old {l : List RouteM} {a : AddrM} {b : Int} {k : List UInt8} {i : Nat} (h : validM a b = true) (hf : findM a b l = some i) : insM l a b k = (l.set i ⟨a, b, k⟩, 0) := by rw [insM, if_neg (by rw [h]; simp), hf]
theorem insM_full {l : List RouteM} {a : AddrM} {b : Int} {k : List UInt8} (h : validM a b = true) (hf : findM a b l = none) (hl : 16 ≤ l.length) : insM l a b k = ([], 12) := by
  rw [insM, if_neg (by rw [h]; simp), hf]
  exact if_pos hl
theorem insM_new {l : List RouteM} {a : AddrM} {b : Int} {k : List UInt8} (h : validM a b = true) (hf : findM a b l = none) (hl : ¬ 16 ≤ l.length) : insM l a b k = (l.take (aheadM a b l) ++ ⟨a, b, k⟩ :: l.drop (aheadM a b l), 0) := by
  rw [insM, if_neg (by rw [h]; simp), hf]
  exact if_neg hl
set_option maxRecDepth 100000 in
set_option maxHeartbeats 16000000 in
theorem refInsert_any (A : Option Addr) (n c : Nat) (l : List RouteM) (hn : n ≤ 1000) (a : AddrM) (bits : Int) (hoa : a.ok) (hob : inI64 bits) (k : List UInt8) (hk : k.length = 32) (w : World) (ha : RtRd w w.heap.size A n l) :
    Calls Try.prog 13 #[.slice A n c, .agg (prefC a bits).toArray, .agg (k.map u8v).toArray] w fun e w' => ∃ A' c', e = .returned (.tuple #[.slice A' (insM l a bits k).1.length c', .int .i64 ((insM l a bits k).2 : Int)]) ∧ RtRd w' w'.heap.size A' (insM l a bits k).1.length (insM l a bits k).1 ∧ (∀ ad, A' = some ad → w.heap.size ≤ ad.block) ∧ ((insM l a bits k).1.length ≤ c' ∧ c' ≤ maxLen) ∧ Below w.heap.size w w' := by
  have HA := Lib.hid ha
  have HOA := Lib.hid hoa
  have HOB := Lib.hid hob
  have HKL := Lib.hid hk
  obtain ⟨ik, hik, hiz, his, hib⟩ := routeInfo
  have HKI := Lib.hid (And.intro hik (And.intro hiz (And.intro his hib)))
  clear hik hiz his hib
  have hvc := refValid_any a hoa bits hob.1 hob.2
  have heqs := fun (r : RouteM) (hr : r.ok) (w' : World) => pref_eqd r.a a r.bits bits hr.1 hoa hr.2.2 hob w'
  have hbcs := fun (r : RouteM) (hr : r.ok) => refBefore_any a r.a bits r.bits hoa hr.1
  obtain ⟨pp, hpp⟩ : ∃ z, (prefC a bits).toArray = z := ⟨_, rfl⟩
  obtain ⟨kk, hkk⟩ : ∃ z, (k.map u8v).toArray = z := ⟨_, rfl⟩
  obtain ⟨nr, hnr⟩ : ∃ z, (⟨a, bits, k⟩ : RouteM).cells.toArray = z := ⟨_, rfl⟩
  have hbt := route_built ⟨a, bits, k⟩ ⟨hoa, hk, hob⟩
  have HNO := Lib.hid (show (⟨a, bits, k⟩ : RouteM).ok from ⟨hoa, hk, hob⟩)
  rw [show (prefC (⟨a, bits, k⟩ : RouteM).a (⟨a, bits, k⟩ : RouteM).bits).toArray = pp from hpp, show ((⟨a, bits, k⟩ : RouteM).peer.map u8v).toArray = kk from hkk, hnr] at hbt
  rw [hpp] at hvc heqs hbcs ⊢
  rw [hkk]
  have HPP := Lib.hid hpp
  have HKK := Lib.hid hkk
  have HNR := Lib.hid hnr
  have HBT := Lib.hid hbt
  have HVC := Lib.hid hvc
  have HEQS := Lib.hid heqs
  have HBCS := Lib.hid hbcs
  have hm := ((Lows.nil w).alloc 28 pp (prefC a bits) hpp.symm).alloc 30 kk (k.map u8v) hkk.symm
  have HM := Lib.hid (show Lows w [blkL (w.heap.size + 1) 30 (k.map u8v), blkL w.heap.size 28 (prefC a bits)] ((w.alloc (.cells pp 28)).alloc (.cells kk 30)) from by simpa using hm)
  clear ha hoa hob hk hpp hkk hnr hbt hvc heqs hbcs hm
  go_enter Try.func13, Try.ntmps13
  go_upto_region 1 with fail
  generalize (w.alloc (.cells pp 28)).alloc (.cells kk 30) = w1 at HM ⊢
  go_wp2_with (refine wpList_load_obj rfl 28 (.tmp 4) rfl w.heap.size 0 rfl (prefC a bits) ((HM.out.blk 1 rfl).all) _ Try.underlying28 rfl (pref_cellsOf' a HOA.out bits) ?_; rw [HPP.out])
  refine (HVC.out _).mono ?_
  rintro e w2 ⟨rfl, hb⟩
  replace HM := Lib.hid (HM.out.below hb)
  clear hb HVC w1
  obtain ⟨v, hv⟩ : ∃ v, validM a bits = v := ⟨_, rfl⟩
  rw [hv]
  cases v with
  | false =>
    have HV := Lib.hid (insM_bad (l := l) (k := k) hv)
    clear hv
    go_wp2_with fail
    go_ret2
    rw [HV.out]
    first | exact ⟨none, 0, rfl, RtRd.nil, (fun _ h => by cases h), ⟨Nat.le_refl _, by unfold maxLen; omega⟩, HM.out.bel⟩ | exact ⟨none, ⟨0, rfl⟩, RtRd.nil, (fun _ h => by cases h), ⟨Nat.le_refl _, by unfold maxLen; omega⟩, HM.out.bel⟩
  | true =>
    have hrl := (HA.out.1.below HM.out.bel)
    have HRL := Lib.hid hrl
    clear hrl
    go_upto_region 4 with (refine wpList_append_rows _ rfl (.const (.slice none 0 0)) (.tmp 14) 23 rfl w2.heap.size 37 ik _ 50 64 Try.underlying23 HKI.out.1 HKI.out.2.1 HKI.out.2.2.1 HKI.out.2.2.2 (by rfl) (by omega) (.slice none 0 0) 0 [] rfl (World.ownsRow_nil _ _ _ _) w.heap.size A n c (rtsV l) rfl HRL.out (rtsV_one _) (by unfold maxLen; omega) (by omega) (Nat.le_refl _) ?_; intro v3 w3 ho3 hg3 _)
    rw [Nat.zero_add, List.nil_append] at ho3
    have hb3 : Below w2.heap.size w2 w3 := (Below.refl w2.heap.size w2).grown hg3 (Nat.le_refl _) (fun q hq => by cases hq)
    obtain ⟨A9, c9, rfl, ha9⟩ : ∃ A9 c9, v3 = .slice A9 n c9 ∧ (n = 0 ∧ A9 = none ∧ c9 = 0 ∨ A9 ≠ none ∧ n ≤ c9) := by
      rcases ho3.2 with ⟨h, h0⟩ | ⟨g, cap, cur, h, _, _, hnc, _⟩
      · exact ⟨none, 0, by rw [h, h0], .inl ⟨h0, rfl, rfl⟩⟩
      · exact ⟨_, _, h, .inr ⟨by simp, hnc⟩⟩
    have HX3 := Lib.hid (show RtRd w3 w3.heap.size A9 n l ∧ Blk w3 w.heap.size 28 (prefC a bits) ∧ Blk w3 (w.heap.size + 1) 30 (k.map u8v) from ⟨RtRd.of_own HA.out.len HA.out.2 ho3, ((HM.out.below hb3).blk 1 rfl), ((HM.out.below hb3).blk 0 rfl)⟩)
    have HX0 := Lib.hid (show Below w.heap.size w w3 from HM.out.bel.trans (hb3.mono HM.out.size))
    have HO3 := Lib.hid (And.intro ho3 HM.out.size)
    have HA9 := Lib.hid ha9
    have hnc9 : n ≤ c9 := by rcases ha9 with ⟨h, _, h2⟩ | ⟨_, h⟩ <;> omega
    clear ho3 hg3 hb3 ha9 HM HRL
    have HVV := Lib.hid hv
    clear hv
    have HLN := Lib.hid HA.out.len
    have HALL := Lib.hid HA.out.2
    clear HA
    go_wp2_with fail
    go_loopw [18] (fun i wr => ∃ j : Nat, j ≤ n ∧ i = .int .i64 (j : Int) ∧ (∀ q (r : RouteM), q < j → l[q]? = some r → RouteM.is a bits r = false) ∧ Below w3.heap.size w3 wr) (fun i _ => n - (intOf i).toNat)
    case atStart => exact ⟨0, by omega, rfl, fun q r hq => absurd hq (by omega), Below.refl _ _⟩
    case round =>
      obtain ⟨j, hj, rfl, hs, hW⟩ := hrel
      have HW := Lib.hid hW
      have HS := Lib.hid hs
      clear hW hs
      by_cases hjn : j < n
      · have d1 : decide ((j : Int) < (n : Int)) = true := by simp; omega
        obtain ⟨g, off, rfl⟩ := HX3.out.1.1.addr (by omega)
        obtain ⟨g2, cap2, cur, hv3, hbg, hgg, hnc, hcm, hcs, htk⟩ : ∃ g2 cap cur, (Value.slice (some ⟨g, off, none⟩) n c9) = .slice (some ⟨g2, 0, none⟩) n cap ∧ w2.heap.size ≤ g2 ∧ w3.heap[g2]? = some (.cells cur 37 (0, 0)) ∧ n ≤ cap ∧ cap ≤ maxLen ∧ cur.size = cap * 50 ∧ cur.toList.take (n * 50) = (rtsV l).flatten := by
          rcases HO3.out.1.2 with ⟨h, _⟩ | h
          · simp at h
          · exact h
        injection hv3 with h1 _ h3
        injection h1 with h1
        injection h1 with h1 h2 _
        subst h1 h2 h3
        obtain ⟨r, hr⟩ : ∃ r, l[j]? = some r := ⟨l[j]'(by rw [HLN.out]; exact hjn), List.getElem?_eq_getElem _⟩
        have HOK := Lib.hid (HALL.out r (List.mem_of_getElem? hr))
        have hat := HX3.out.1.at j r hr
        have HLA := Lib.hid (show ∀ W, Below w3.heap.size w3 W → At W g (j * 50) (prefC r.a r.bits) from fun W hW => route_pref (by have := hat.2.mono hW hat.1; rwa [Nat.zero_add] at this))
        have hbm : Blk w3 g 37 cur.toList := hgg
        have HCU := Lib.hid (show Blk w3 g 37 cur.toList ∧ w2.heap.size ≤ g ∧ c9 ≤ maxLen ∧ cur.toList.length = c9 * 50 ∧ cur.toList.take (n * 50) = (rtsV l).flatten from ⟨hbm, hbg, hcm, by simpa using hcs, htk⟩)
        have HJR := Lib.hid hr
        clear hat hr hgg hbm hbg hcm hcs htk
        have heq := HEQS.out r HOK.out
        obtain ⟨rp, hrp⟩ : ∃ z, (prefC r.a r.bits).toArray = z := ⟨_, rfl⟩
        rw [hrp] at heq
        have HRP := Lib.hid hrp
        clear hrp
        go_upto_region 7 with fail
        clear d1
        by_cases hq : r.a = a ∧ r.bits = bits
        · rw [decide_eq_true hq] at heq
          have HEQ := Lib.hid heq
          have HV := Lib.hid (insM_old (k := k) HVV.out (findM_some HJR.out (by rw [RouteM.is, decide_eq_true_iff]; exact hq) HS.out))
          have HSE := Lib.hid hq
          clear heq hq
          refine wp_region_held_drew (S := fun W' => Below w3.heap.size w3 W') (by kernel_rfl) (HW.out.drew) (fun hHeld => ?_)
          refine take_first (v := ?_) 0 rfl (by kernel_rfl) (by kernel_rfl) (by kernel_rfl) (fun _ _ _ h => h) (Or.inl ⟨by rfl, ?_⟩) (by assumption) ?_
          rotate_left
          · (intro w hSw; (try dsimp only at hSw); go_simp; try with_reducible rfl)
          (try simp only [Act.put, List.setIfInBounds_toArray, List.set_cons_zero, List.set_cons_succ])
          refine take_first (v := ?_) 1 rfl (by kernel_rfl) (by kernel_rfl) (by kernel_rfl) (fun _ _ _ h => h) (Or.inl ⟨by rfl, ?_⟩) (by assumption) ?_
          rotate_left
          · (intro w hSw; (try dsimp only at hSw); go_simp; try with_reducible rfl)
          (try simp only [Act.put, List.setIfInBounds_toArray, List.set_cons_zero, List.set_cons_succ])
          refine take_first (v := ?_) 2 rfl (by kernel_rfl) (by kernel_rfl) (by kernel_rfl) (fun _ _ _ h => h) (Or.inl ⟨by rfl, ?_⟩) (by assumption) ?_
          rotate_left
          · (intro w hSw; (try dsimp only at hSw); go_simp; try with_reducible rfl)
          (try simp only [Act.put, List.setIfInBounds_toArray, List.set_cons_zero, List.set_cons_succ])
          refine take_first (v := ?_) 3 rfl (by kernel_rfl) (by kernel_rfl) (by kernel_rfl) (fun _ _ _ h => h) (Or.inl ⟨by rfl, ?_⟩) (by assumption) ?_
          rotate_left
          · (intro w hSw; (try dsimp only at hSw); go_simp; try with_reducible rfl)
          (try simp only [Act.put, List.setIfInBounds_toArray, List.set_cons_zero, List.set_cons_succ])
          refine take_first (v := .agg rp) 4 rfl (by kernel_rfl) (by kernel_rfl) (by kernel_rfl) (fun _ _ _ h => h) (by rw [← HRP.out]; exact yields_load_obj (by rfl) 28 (.tmp 24) rfl g _ rfl (prefC r.a r.bits) (fun W hW => HLA.out W hW) _ Try.underlying28 rfl (pref_cellsOf' r.a HOK.out.1 r.bits)) (by assumption) ?_
          (try simp only [Act.put, List.setIfInBounds_toArray, List.set_cons_zero, List.set_cons_succ])
          refine take_first (v := .agg pp) 5 rfl (by kernel_rfl) (by kernel_rfl) (by kernel_rfl) (fun _ _ _ h => h) (by rw [← HPP.out]; exact yields_load_obj (by rfl) 28 (.tmp 4) rfl w.heap.size 0 rfl (prefC a bits) (fun W hW => (HX3.out.2.1.all.mono hW HX3.out.2.1.lt)) _ Try.underlying28 rfl (pref_cellsOf' a HOA.out bits)) (by assumption) ?_
          (try simp only [Act.put, List.setIfInBounds_toArray, List.set_cons_zero, List.set_cons_succ])
          refine take_first (v := .bool true) 6 rfl (by kernel_rfl) (by kernel_rfl) (by kernel_rfl) (fun _ _ _ h => h) (yields_cmp_agg false (by rfl) 28 28 25 26 rfl rp pp true rfl rfl prefix_noguard (fun w' => HEQ.out w')) (by assumption) ?_
          (try simp only [Act.put, List.setIfInBounds_toArray, List.set_cons_zero, List.set_cons_succ])
          refine wpAnyH_done (by kernel_rfl) ?_ _
          have HBG := Lib.hid ((HCU.out.1).below hHeld HCU.out.1.lt)
          have HBK := Lib.hid (HX3.out.2.2.all.mono hHeld HX3.out.2.2.lt)
          have HWB := Lib.hid hHeld
          clear hHeld
          go_wp2_with (first | (refine wpList_load_obj rfl 30 (.tmp 5) rfl (w.heap.size + 1) 0 rfl (k.map u8v) HBK.out _ Try.underlying30 rfl (key_cellsOf k HKL.out) ?_; rw [HKK.out]) | (refine wpList_store_obj rfl 30 (.tmp 32) (.tmp 30) rfl g _ (k.map u8v) rfl (by show Value.agg kk = _; rw [HKK.out]) 37 cur.toList HBG.out (key_cellsOf k HKL.out) (by rw [HCU.out.2.2.2.1, List.length_map, HKL.out]; have := hnc; omega) (u8v_one _) ?_; intro w9 hb9 hg9))
          have hown9 := own_set (base := w2.heap.size) HALL.out HLN.out cur.toList HCU.out.2.2.2.1 hnc HCU.out.2.2.1 HCU.out.2.2.2.2 HCU.out.2.1 HJR.out k HKL.out hb9 hg9
          rw [HSE.out.1, HSE.out.2] at hown9
          have HF := Lib.hid (show RtRd w9 w9.heap.size (some ⟨g, 0, none⟩) n (l.set j ⟨a, bits, k⟩) ∧ (∀ ad, (some ⟨g, 0, none⟩ : Option Addr) = some ad → w.heap.size ≤ ad.block) ∧ (n ≤ c9 ∧ c9 ≤ maxLen) ∧ Below w.heap.size w w9 from ⟨RtRd.of_own (by rw [List.length_set]; exact HLN.out) (by have := set_peer_ok HALL.out HJR.out k HKL.out; rw [HSE.out.1, HSE.out.2] at this; exact this) hown9, (fun ad h => by injection h with h; subst h; exact Nat.le_trans HO3.out.2 HCU.out.2.1), ⟨hnc, HCU.out.2.2.1⟩, (HX0.out.trans (HWB.out.mono HX0.out.size)).grown hg9 (Nat.le_trans HX0.out.size HWB.out.size) (fun q hq => by injection hq with hq; have h1 := HCU.out.2.1; have h2 := HO3.out.2; omega)⟩)
          have hls : (l.set j ⟨a, bits, k⟩).length = n := by rw [List.length_set]; exact HLN.out
          clear hb9 hg9 hown9
          go_ret2
          rw [HV.out, hls]
          first | exact ⟨_, _, rfl, HF.out.1, HF.out.2⟩ | exact ⟨_, ⟨_, rfl⟩, HF.out.1, HF.out.2⟩
        · rw [decide_eq_false hq] at heq
          have HEQ := Lib.hid heq
          have HNS := Lib.hid (show RouteM.is a bits r = false by rw [RouteM.is, decide_eq_false_iff_not]; exact hq)
          clear heq hq
          refine wp_region_held_drew (S := fun W' => Below w3.heap.size w3 W') (by kernel_rfl) (HW.out.drew) (fun hHeld => ?_)
          refine take_first (v := ?_) 0 rfl (by kernel_rfl) (by kernel_rfl) (by kernel_rfl) (fun _ _ _ h => h) (Or.inl ⟨by rfl, ?_⟩) (by assumption) ?_
          rotate_left
          · (intro w hSw; (try dsimp only at hSw); go_simp; try with_reducible rfl)
          (try simp only [Act.put, List.setIfInBounds_toArray, List.set_cons_zero, List.set_cons_succ])
          refine take_first (v := ?_) 1 rfl (by kernel_rfl) (by kernel_rfl) (by kernel_rfl) (fun _ _ _ h => h) (Or.inl ⟨by rfl, ?_⟩) (by assumption) ?_
          rotate_left
          · (intro w hSw; (try dsimp only at hSw); go_simp; try with_reducible rfl)
          (try simp only [Act.put, List.setIfInBounds_toArray, List.set_cons_zero, List.set_cons_succ])
          refine take_first (v := ?_) 2 rfl (by kernel_rfl) (by kernel_rfl) (by kernel_rfl) (fun _ _ _ h => h) (Or.inl ⟨by rfl, ?_⟩) (by assumption) ?_
          rotate_left
          · (intro w hSw; (try dsimp only at hSw); go_simp; try with_reducible rfl)
          (try simp only [Act.put, List.setIfInBounds_toArray, List.set_cons_zero, List.set_cons_succ])
          refine take_first (v := ?_) 3 rfl (by kernel_rfl) (by kernel_rfl) (by kernel_rfl) (fun _ _ _ h => h) (Or.inl ⟨by rfl, ?_⟩) (by assumption) ?_
          rotate_left
          · (intro w hSw; (try dsimp only at hSw); go_simp; try with_reducible rfl)
          (try simp only [Act.put, List.setIfInBounds_toArray, List.set_cons_zero, List.set_cons_succ])
          refine take_first (v := .agg rp) 4 rfl (by kernel_rfl) (by kernel_rfl) (by kernel_rfl) (fun _ _ _ h => h) (by rw [← HRP.out]; exact yields_load_obj (by rfl) 28 (.tmp 24) rfl g _ rfl (prefC r.a r.bits) (fun W hW => HLA.out W hW) _ Try.underlying28 rfl (pref_cellsOf' r.a HOK.out.1 r.bits)) (by assumption) ?_
          (try simp only [Act.put, List.setIfInBounds_toArray, List.set_cons_zero, List.set_cons_succ])
          refine take_first (v := .agg pp) 5 rfl (by kernel_rfl) (by kernel_rfl) (by kernel_rfl) (fun _ _ _ h => h) (by rw [← HPP.out]; exact yields_load_obj (by rfl) 28 (.tmp 4) rfl w.heap.size 0 rfl (prefC a bits) (fun W hW => (HX3.out.2.1.all.mono hW HX3.out.2.1.lt)) _ Try.underlying28 rfl (pref_cellsOf' a HOA.out bits)) (by assumption) ?_
          (try simp only [Act.put, List.setIfInBounds_toArray, List.set_cons_zero, List.set_cons_succ])
          refine take_first (v := .bool false) 6 rfl (by kernel_rfl) (by kernel_rfl) (by kernel_rfl) (fun _ _ _ h => h) (yields_cmp_agg false (by rfl) 28 28 25 26 rfl rp pp false rfl rfl prefix_noguard (fun w' => HEQ.out w')) (by assumption) ?_
          (try simp only [Act.put, List.setIfInBounds_toArray, List.set_cons_zero, List.set_cons_succ])
          refine wpAnyH_done (by kernel_rfl) ?_ _
          have HWB := Lib.hid hHeld
          clear hHeld
          go_wp2_with fail
          go_roundw
          case rel => exact ⟨j + 1, by omega, by go_num, fun q r2 hq h2 => by
            by_cases he : q = j
            · subst he
              have := HJR.out
              rw [h2] at this
              injection this with this
              rw [this]; exact HNS.out
            · exact HS.out q r2 (by omega) h2, HWB.out⟩
          case measure => simp [intOf]; omega
      · obtain rfl : n = j := by omega
        have d1 : decide ((n : Int) < (n : Int)) = false := by simp
        have hf : findM a bits l = none := findM_none (fun i r hi => HS.out i r (by rw [← HLN.out]; exact (List.getElem?_eq_some_iff.1 hi).1) hi)
        by_cases h16 : 16 ≤ n
        · have HV := Lib.hid (insM_full (k := k) HVV.out hf (by rw [HLN.out]; exact h16))
          have d2 : decide ((n : Int) ≥ 16) = true := by simp; omega
          have HF := Lib.hid (HX0.out.trans (HW.out.mono HX0.out.size))
          clear hf
          go_wp2_with fail
          go_ret2
          rw [HV.out]
          first | exact ⟨none, 0, rfl, RtRd.nil, (fun _ h => by cases h), ⟨Nat.le_refl _, by unfold maxLen; omega⟩, HF.out⟩ | exact ⟨none, ⟨0, rfl⟩, RtRd.nil, (fun _ h => by cases h), ⟨Nat.le_refl _, by unfold maxLen; omega⟩, HF.out⟩
        · have HINS := Lib.hid (show ∀ i : Nat, i = aheadM a bits l → insM l a bits k = (l.take i ++ ⟨a, bits, k⟩ :: l.drop i, 0) from fun i hi => by subst hi; exact insM_new (k := k) HVV.out hf (by rw [HLN.out]; exact h16))
          have d2 : decide ((n : Int) ≥ 16) = false := by simp; omega
          have HW0 := Lib.hid HW.out
          clear hf HS HO3 HW
          have hale := aheadM_le a bits l
          rw [HLN.out] at hale
          go_wp2_with fail
          clear d1 d2
          go_loopw [10] (fun i wz => ∃ j : Nat, j ≤ aheadM a bits l ∧ i = .int .i64 (j : Int) ∧ Below w3.heap.size w3 wz) (fun i _ => n - (intOf i).toNat)
          case atStart => exact ⟨0, by omega, rfl, HW0.out⟩
          case round =>
            clear HW0
            obtain ⟨j, hj, rfl, hW⟩ := hrel
            have HW := Lib.hid hW
            clear hW
            have hjc : j ≤ c9 := by omega
            have hjn2 : j ≤ n := by omega
            by_cases hjn : j < n
            · have d1 : decide ((j : Int) < (n : Int)) = true := by simp; omega
              obtain ⟨g, off, rfl⟩ := HX3.out.1.1.addr (by omega)
              obtain ⟨r, hr⟩ : ∃ r, l[j]? = some r := ⟨l[j]'(by rw [HLN.out]; exact hjn), List.getElem?_eq_getElem _⟩
              have HOK := Lib.hid (HALL.out r (List.mem_of_getElem? hr))
              have hat := HX3.out.1.at j r hr
              have HLA := Lib.hid (show ∀ W, Below w3.heap.size w3 W → At W g (off + j * 50) (prefC r.a r.bits) from fun W hW => route_pref (hat.2.mono hW hat.1))
              have hbc := HBCS.out r HOK.out
              obtain ⟨rp, hrp⟩ : ∃ z, (prefC r.a r.bits).toArray = z := ⟨_, rfl⟩
              rw [hrp] at hbc
              have HRP := Lib.hid hrp
              have hst := aheadM_step a bits l j hj r hr
              clear hrp hat hr
              obtain ⟨v, hv⟩ : ∃ v, befM a bits r.a r.bits = v := ⟨_, rfl⟩
              rw [hv] at hbc hst
              have HBC := Lib.hid hbc
              clear hbc hv
              cases v with
              | false =>
                have hj1 := hst.1 rfl
                clear hst
                go_upto_region 14 with fail
                refine wp_region_held_drew (S := fun W' => Below w3.heap.size w3 W') (by kernel_rfl) (HW.out.drew) (fun hHeld => ?_)
                refine take_first (v := ?_) 0 rfl (by kernel_rfl) (by kernel_rfl) (by kernel_rfl) (fun _ _ _ h => h) (Or.inl ⟨by rfl, ?_⟩) (by assumption) ?_
                rotate_left
                · (intro w hSw; (try dsimp only at hSw); go_simp; try with_reducible rfl)
                (try simp only [Act.put, List.setIfInBounds_toArray, List.set_cons_zero, List.set_cons_succ])
                refine take_first (v := ?_) 1 rfl (by kernel_rfl) (by kernel_rfl) (by kernel_rfl) (fun _ _ _ h => h) (Or.inl ⟨by rfl, ?_⟩) (by assumption) ?_
                rotate_left
                · (intro w hSw; (try dsimp only at hSw); go_simp; try with_reducible rfl)
                (try simp only [Act.put, List.setIfInBounds_toArray, List.set_cons_zero, List.set_cons_succ])
                refine take_first (v := ?_) 2 rfl (by kernel_rfl) (by kernel_rfl) (by kernel_rfl) (fun _ _ _ h => h) (Or.inl ⟨by rfl, ?_⟩) (by assumption) ?_
                rotate_left
                · (intro w hSw; (try dsimp only at hSw); go_simp; try with_reducible rfl)
                (try simp only [Act.put, List.setIfInBounds_toArray, List.set_cons_zero, List.set_cons_succ])
                refine take_first (v := ?_) 3 rfl (by kernel_rfl) (by kernel_rfl) (by kernel_rfl) (fun _ _ _ h => h) (Or.inl ⟨by rfl, ?_⟩) (by assumption) ?_
                rotate_left
                · (intro w hSw; (try dsimp only at hSw); go_simp; try with_reducible rfl)
                (try simp only [Act.put, List.setIfInBounds_toArray, List.set_cons_zero, List.set_cons_succ])
                refine take_first (v := ?_) 4 rfl (by kernel_rfl) (by kernel_rfl) (by kernel_rfl) (fun _ _ _ h => h) (Or.inl ⟨by rfl, ?_⟩) (by assumption) ?_
                rotate_left
                · (intro w hSw; (try dsimp only at hSw); go_simp; try with_reducible rfl)
                (try simp only [Act.put, List.setIfInBounds_toArray, List.set_cons_zero, List.set_cons_succ])
                refine take_first (v := .agg pp) 5 rfl (by kernel_rfl) (by kernel_rfl) (by kernel_rfl) (fun _ _ _ h => h) (by rw [← HPP.out]; exact yields_load_obj (by rfl) 28 (.tmp 4) rfl w.heap.size 0 rfl (prefC a bits) (fun W hW => (HX3.out.2.1.all.mono hW HX3.out.2.1.lt)) _ Try.underlying28 rfl (pref_cellsOf' a HOA.out bits)) (by assumption) ?_
                (try simp only [Act.put, List.setIfInBounds_toArray, List.set_cons_zero, List.set_cons_succ])
                refine take_first (v := ?_) 6 rfl (by kernel_rfl) (by kernel_rfl) (by kernel_rfl) (fun _ _ _ h => h) (Or.inl ⟨by rfl, ?_⟩) (by assumption) ?_
                rotate_left
                · (intro w hSw; (try dsimp only at hSw); go_simp; try with_reducible rfl)
                (try simp only [Act.put, List.setIfInBounds_toArray, List.set_cons_zero, List.set_cons_succ])
                refine take_first (v := ?_) 7 rfl (by kernel_rfl) (by kernel_rfl) (by kernel_rfl) (fun _ _ _ h => h) (Or.inl ⟨by rfl, ?_⟩) (by assumption) ?_
                rotate_left
                · (intro w hSw; (try dsimp only at hSw); go_simp; try with_reducible rfl)
                (try simp only [Act.put, List.setIfInBounds_toArray, List.set_cons_zero, List.set_cons_succ])
                refine take_first (v := ?_) 8 rfl (by kernel_rfl) (by kernel_rfl) (by kernel_rfl) (fun _ _ _ h => h) (Or.inl ⟨by rfl, ?_⟩) (by assumption) ?_
                rotate_left
                · (intro w hSw; (try dsimp only at hSw); go_simp; try with_reducible rfl)
                (try simp only [Act.put, List.setIfInBounds_toArray, List.set_cons_zero, List.set_cons_succ])
                refine take_first (v := ?_) 9 rfl (by kernel_rfl) (by kernel_rfl) (by kernel_rfl) (fun _ _ _ h => h) (Or.inl ⟨by rfl, ?_⟩) (by assumption) ?_
                rotate_left
                · (intro w hSw; (try dsimp only at hSw); go_simp; try with_reducible rfl)
                (try simp only [Act.put, List.setIfInBounds_toArray, List.set_cons_zero, List.set_cons_succ])
                refine take_first (v := .agg rp) 10 rfl (by kernel_rfl) (by kernel_rfl) (by kernel_rfl) (fun _ _ _ h => h) (by rw [← HRP.out]; exact yields_load_obj (by rfl) 28 (.tmp 47) rfl g _ rfl (prefC r.a r.bits) (fun W hW => HLA.out W hW) _ Try.underlying28 rfl (pref_cellsOf' r.a HOK.out.1 r.bits)) (by assumption) ?_
                (try simp only [Act.put, List.setIfInBounds_toArray, List.set_cons_zero, List.set_cons_succ])
                refine step_one 11 rfl (by kernel_rfl) (fun K hK => ?_)
                go_simp
                refine (HBC.out _).mono ?_
                rintro e wy ⟨rfl, hb⟩
                have hb2 := hHeld.trans (hb.mono hHeld.size)
                clear hb hHeld
                go_wp2_with fail
                refine hK.out _ _ hb2 (fun hHeld => ?_)
                clear hK K hb2
                (try simp only [Act.put, List.setIfInBounds_toArray, List.set_cons_zero, List.set_cons_succ])
                refine take_first (v := ?_) 12 rfl (by kernel_rfl) (by kernel_rfl) (by kernel_rfl) (fun _ _ _ h => h) (Or.inl ⟨by rfl, ?_⟩) (by assumption) ?_
                rotate_left
                · (intro w hSw; (try dsimp only at hSw); go_simp; try with_reducible rfl)
                (try simp only [Act.put, List.setIfInBounds_toArray, List.set_cons_zero, List.set_cons_succ])
                refine take_first (v := ?_) 13 rfl (by kernel_rfl) (by kernel_rfl) (by kernel_rfl) (fun _ _ _ h => h) (Or.inl ⟨by rfl, ?_⟩) (by assumption) ?_
                rotate_left
                · (intro w hSw; (try dsimp only at hSw); go_simp; try with_reducible rfl)
                (try simp only [Act.put, List.setIfInBounds_toArray, List.set_cons_zero, List.set_cons_succ])
                refine wpAnyH_done (by kernel_rfl) ?_ _
                have HWB := Lib.hid hHeld
                clear hHeld
                go_wp2_with fail
                go_roundw
                case rel => exact ⟨j + 1, hj1, by go_num, HWB.out⟩
                case measure => simp [intOf]; omega
              | true =>
                have HJA := Lib.hid (hst.2 rfl).symm
                clear hst
                go_upto_region 14 with fail
                refine wp_region_held_drew (S := fun W' => Below w3.heap.size w3 W') (by kernel_rfl) (HW.out.drew) (fun hHeld => ?_)
                refine take_first (v := ?_) 0 rfl (by kernel_rfl) (by kernel_rfl) (by kernel_rfl) (fun _ _ _ h => h) (Or.inl ⟨by rfl, ?_⟩) (by assumption) ?_
                rotate_left
                · (intro w hSw; (try dsimp only at hSw); go_simp; try with_reducible rfl)
                (try simp only [Act.put, List.setIfInBounds_toArray, List.set_cons_zero, List.set_cons_succ])
                refine take_first (v := ?_) 1 rfl (by kernel_rfl) (by kernel_rfl) (by kernel_rfl) (fun _ _ _ h => h) (Or.inl ⟨by rfl, ?_⟩) (by assumption) ?_
                rotate_left
                · (intro w hSw; (try dsimp only at hSw); go_simp; try with_reducible rfl)
                (try simp only [Act.put, List.setIfInBounds_toArray, List.set_cons_zero, List.set_cons_succ])
                refine take_first (v := ?_) 2 rfl (by kernel_rfl) (by kernel_rfl) (by kernel_rfl) (fun _ _ _ h => h) (Or.inl ⟨by rfl, ?_⟩) (by assumption) ?_
                rotate_left
                · (intro w hSw; (try dsimp only at hSw); go_simp; try with_reducible rfl)
                (try simp only [Act.put, List.setIfInBounds_toArray, List.set_cons_zero, List.set_cons_succ])
                refine take_first (v := ?_) 3 rfl (by kernel_rfl) (by kernel_rfl) (by kernel_rfl) (fun _ _ _ h => h) (Or.inl ⟨by rfl, ?_⟩) (by assumption) ?_
                rotate_left
                · (intro w hSw; (try dsimp only at hSw); go_simp; try with_reducible rfl)
                (try simp only [Act.put, List.setIfInBounds_toArray, List.set_cons_zero, List.set_cons_succ])
                refine take_first (v := ?_) 4 rfl (by kernel_rfl) (by kernel_rfl) (by kernel_rfl) (fun _ _ _ h => h) (Or.inl ⟨by rfl, ?_⟩) (by assumption) ?_
                rotate_left
                · (intro w hSw; (try dsimp only at hSw); go_simp; try with_reducible rfl)
                (try simp only [Act.put, List.setIfInBounds_toArray, List.set_cons_zero, List.set_cons_succ])
                refine take_first (v := .agg pp) 5 rfl (by kernel_rfl) (by kernel_rfl) (by kernel_rfl) (fun _ _ _ h => h) (by rw [← HPP.out]; exact yields_load_obj (by rfl) 28 (.tmp 4) rfl w.heap.size 0 rfl (prefC a bits) (fun W hW => (HX3.out.2.1.all.mono hW HX3.out.2.1.lt)) _ Try.underlying28 rfl (pref_cellsOf' a HOA.out bits)) (by assumption) ?_
                (try simp only [Act.put, List.setIfInBounds_toArray, List.set_cons_zero, List.set_cons_succ])
                refine take_first (v := ?_) 6 rfl (by kernel_rfl) (by kernel_rfl) (by kernel_rfl) (fun _ _ _ h => h) (Or.inl ⟨by rfl, ?_⟩) (by assumption) ?_
                rotate_left
                · (intro w hSw; (try dsimp only at hSw); go_simp; try with_reducible rfl)
                (try simp only [Act.put, List.setIfInBounds_toArray, List.set_cons_zero, List.set_cons_succ])
                refine take_first (v := ?_) 7 rfl (by kernel_rfl) (by kernel_rfl) (by kernel_rfl) (fun _ _ _ h => h) (Or.inl ⟨by rfl, ?_⟩) (by assumption) ?_
                rotate_left
                · (intro w hSw; (try dsimp only at hSw); go_simp; try with_reducible rfl)
                (try simp only [Act.put, List.setIfInBounds_toArray, List.set_cons_zero, List.set_cons_succ])
                refine take_first (v := ?_) 8 rfl (by kernel_rfl) (by kernel_rfl) (by kernel_rfl) (fun _ _ _ h => h) (Or.inl ⟨by rfl, ?_⟩) (by assumption) ?_
                rotate_left
                · (intro w hSw; (try dsimp only at hSw); go_simp; try with_reducible rfl)
                (try simp only [Act.put, List.setIfInBounds_toArray, List.set_cons_zero, List.set_cons_succ])
                refine take_first (v := ?_) 9 rfl (by kernel_rfl) (by kernel_rfl) (by kernel_rfl) (fun _ _ _ h => h) (Or.inl ⟨by rfl, ?_⟩) (by assumption) ?_
                rotate_left
                · (intro w hSw; (try dsimp only at hSw); go_simp; try with_reducible rfl)
                (try simp only [Act.put, List.setIfInBounds_toArray, List.set_cons_zero, List.set_cons_succ])
                refine take_first (v := .agg rp) 10 rfl (by kernel_rfl) (by kernel_rfl) (by kernel_rfl) (fun _ _ _ h => h) (by rw [← HRP.out]; exact yields_load_obj (by rfl) 28 (.tmp 47) rfl g _ rfl (prefC r.a r.bits) (fun W hW => HLA.out W hW) _ Try.underlying28 rfl (pref_cellsOf' r.a HOK.out.1 r.bits)) (by assumption) ?_
                (try simp only [Act.put, List.setIfInBounds_toArray, List.set_cons_zero, List.set_cons_succ])
                refine step_one 11 rfl (by kernel_rfl) (fun K hK => ?_)
                go_simp
                refine (HBC.out _).mono ?_
                rintro e wy ⟨rfl, hb⟩
                have hb2 := hHeld.trans (hb.mono hHeld.size)
                clear hb hHeld
                go_wp2_with fail
                refine hK.out _ _ hb2 (fun hHeld => ?_)
                clear hK K hb2
                (try simp only [Act.put, List.setIfInBounds_toArray, List.set_cons_zero, List.set_cons_succ])
                refine take_first (v := ?_) 12 rfl (by kernel_rfl) (by kernel_rfl) (by kernel_rfl) (fun _ _ _ h => h) (Or.inl ⟨by rfl, ?_⟩) (by assumption) ?_
                rotate_left
                · (intro w hSw; (try dsimp only at hSw); go_simp; try with_reducible rfl)
                (try simp only [Act.put, List.setIfInBounds_toArray, List.set_cons_zero, List.set_cons_succ])
                refine take_first (v := ?_) 13 rfl (by kernel_rfl) (by kernel_rfl) (by kernel_rfl) (fun _ _ _ h => h) (Or.inl ⟨by rfl, ?_⟩) (by assumption) ?_
                rotate_left
                · (intro w hSw; (try dsimp only at hSw); go_simp; try with_reducible rfl)
                (try simp only [Act.put, List.setIfInBounds_toArray, List.set_cons_zero, List.set_cons_succ])
                refine wpAnyH_done (by kernel_rfl) ?_ _
                replace HW := Lib.hid hHeld
                clear hHeld
                generalize hA9 : (some ⟨g, off, none⟩ : Option Addr) = A9 at HX3 HA9 ⊢
                go_upto_region 16 with fail
                refine wp_region_held_drew (S := fun W' => Below w3.heap.size w3 W') (by kernel_rfl) (HW.out.drew) (fun hHeld => ?_)
                refine take_first (v := ?_) 0 rfl (by kernel_rfl) (by kernel_rfl) (by kernel_rfl) (fun _ _ _ h => h) (Or.inl ⟨by rfl, ?_⟩) (by assumption) ?_
                rotate_left
                · (intro w hSw; (try dsimp only at hSw); go_simp; try with_reducible rfl)
                (try simp only [Act.put, List.setIfInBounds_toArray, List.set_cons_zero, List.set_cons_succ])
                refine take_first (v := ?_) 1 rfl (by kernel_rfl) (by kernel_rfl) (by kernel_rfl) (fun _ _ _ h => h) (Or.inl ⟨by rfl, ?_⟩) (by assumption) ?_
                rotate_left
                · (intro w hSw; (try dsimp only at hSw); go_simp; try with_reducible rfl)
                (try simp only [Act.put, List.setIfInBounds_toArray, List.set_cons_zero, List.set_cons_succ])
                refine take_first (v := ?_) 2 rfl (by kernel_rfl) (by kernel_rfl) (by kernel_rfl) (fun _ _ _ h => h) (Or.inl ⟨by rfl, ?_⟩) (by assumption) ?_
                rotate_left
                · (intro w hSw; (try dsimp only at hSw); go_simp; try with_reducible rfl)
                (try simp only [Act.put, List.setIfInBounds_toArray, List.set_cons_zero, List.set_cons_succ])
                refine take_first (v := ?_) 3 rfl (by kernel_rfl) (by kernel_rfl) (by kernel_rfl) (fun _ _ _ h => h) (Or.inl ⟨by rfl, ?_⟩) (by assumption) ?_
                rotate_left
                · (intro w hSw; (try dsimp only at hSw); have s := routes_hm A9 n c9 j hjc w; go_simp; try with_reducible rfl)
                (try simp only [Act.put, List.setIfInBounds_toArray, List.set_cons_zero, List.set_cons_succ])
                refine take_first (v := .agg pp) 4 rfl (by kernel_rfl) (by kernel_rfl) (by kernel_rfl) (fun _ _ _ h => h) (by rw [← HPP.out]; exact yields_load_obj (by rfl) 28 (.tmp 4) rfl w.heap.size 0 rfl (prefC a bits) (fun W hW => (HX3.out.2.1.all.mono hW HX3.out.2.1.lt)) _ Try.underlying28 rfl (pref_cellsOf' a HOA.out bits)) (by assumption) ?_
                (try simp only [Act.put, List.setIfInBounds_toArray, List.set_cons_zero, List.set_cons_succ])
                refine take_first (v := .agg kk) 5 rfl (by kernel_rfl) (by kernel_rfl) (by kernel_rfl) (fun _ _ _ h => h) (by rw [← HKK.out]; exact yields_load_obj (by rfl) 30 (.tmp 5) rfl (w.heap.size + 1) 0 rfl (k.map u8v) (fun W hW => (HX3.out.2.2.all.mono hW HX3.out.2.2.lt)) _ Try.underlying30 rfl (key_cellsOf k HKL.out)) (by assumption) ?_
                (try simp only [Act.put, List.setIfInBounds_toArray, List.set_cons_zero, List.set_cons_succ])
                refine take_first (v := .agg nr) 6 rfl (by kernel_rfl) (by kernel_rfl) (by kernel_rfl) (fun _ _ _ h => h) (yields_build_obj (by rfl) 37 [(0, .tmp 58), (1, .tmp 59)] rfl nr HBT.out) (by assumption) ?_
                (try simp only [Act.put, List.setIfInBounds_toArray, List.set_cons_zero, List.set_cons_succ])
                refine take_first (v := ?_) 8 rfl (by kernel_rfl) (by kernel_rfl) (by kernel_rfl) (fun _ _ _ h => h) (Or.inl ⟨by rfl, ?_⟩) (by assumption) ?_
                rotate_left
                · (intro w hSw; (try dsimp only at hSw); go_simp; try with_reducible rfl)
                (try simp only [Act.put, List.setIfInBounds_toArray, List.set_cons_zero, List.set_cons_succ])
                refine take_first (v := ?_) 9 rfl (by kernel_rfl) (by kernel_rfl) (by kernel_rfl) (fun _ _ _ h => h) (Or.inl ⟨by rfl, ?_⟩) (by assumption) ?_
                rotate_left
                · (intro w hSw; (try dsimp only at hSw); go_simp; try with_reducible rfl)
                (try simp only [Act.put, List.setIfInBounds_toArray, List.set_cons_zero, List.set_cons_succ])
                refine take_first (v := ?_) 10 rfl (by kernel_rfl) (by kernel_rfl) (by kernel_rfl) (fun _ _ _ h => h) (Or.inl ⟨by rfl, ?_⟩) (by assumption) ?_
                rotate_left
                · (intro w hSw; (try dsimp only at hSw); have s := routes_l A9 n c9 j hjn2 w; go_simp; try with_reducible rfl)
                (try simp only [Act.put, List.setIfInBounds_toArray, List.set_cons_zero, List.set_cons_succ])
                refine step_one 7 rfl (by kernel_rfl) (fun K hK => ?_)
                refine step_buildOne rfl 23 37 (.tmp 60) rfl nr rfl 50 Try.underlying23 ik HKI.out.1 HKI.out.2.2.1 _ HKI.out.2.1 (by omega) (by omega) (by rw [← HNR.out, List.size_toArray, RouteM.cells_length HNO.out]) ?_
                have hbx := hHeld.alloc hHeld.size (.cells nr 37)
                have hown := World.ownsRow_lit (base := wy.drew.heap.size) (e := 37) (size := 50) wy.drew nr 1 (Nat.le_refl _) (by unfold maxLen; omega) (by rw [← HNR.out, List.size_toArray, RouteM.cells_length HNO.out])
                have hgx : w3.heap.size ≤ wy.drew.heap.size := hHeld.size
                have hqs : wy.drew.heap.size ≤ (wy.drew.alloc (.cells nr 37)).heap.size := by simp
                generalize wy.drew.alloc (.cells nr 37) = wx at hbx hown hqs ⊢
                generalize wy.drew.heap.size = gx at hown hqs hgx ⊢
                clear hHeld
                refine hK.out _ _ hbx (fun hHeld => ?_)
                clear hK K hbx
                (try simp only [Act.put, List.setIfInBounds_toArray, List.set_cons_zero, List.set_cons_succ])
                refine step_one 11 rfl (by kernel_rfl) (fun K hK => ?_)
                refine step_append_rows _ rfl (.tmp 61) (.tmp 64) 23 rfl gx 37 ik _ 50 64 Try.underlying23 HKI.out.1 HKI.out.2.1 HKI.out.2.2.1 HKI.out.2.2.2 (by rfl) (by omega) _ 1 nr.toList rfl hown w3.heap.size (addrK A9 j c9 50) (n - j) (c9 - j) (rtsV (l.drop j)) rfl (by rw [← rtsV_drop]; exact (HX3.out.1.1.below hHeld).behind j c9 hjn2 hnc9) (rtsV_one _) (by unfold maxLen; omega) (by omega) hqs ?_
                intro v7 w7 ho7 hg7 _
                have hb7 : Below w3.heap.size w3 w7 := hHeld.grown hg7 hHeld.size (fun q hq => by have := (hown.lt q hq).1; omega)
                clear hg7 hown hHeld hqs
                refine hK.out _ _ hb7 (fun hHeld => ?_)
                clear hK K hb7
                (try simp only [Act.put, List.setIfInBounds_toArray, List.set_cons_zero, List.set_cons_succ])
                obtain ⟨A7, c7, rfl⟩ : ∃ A c, v7 = .slice A (1 + (n - j)) c := by
                  rcases ho7.2 with ⟨_, h0⟩ | ⟨g, cap, cur, h, _⟩
                  · omega
                  · exact ⟨_, _, h⟩
                have hrd7 := RtRd.of_own (l := ⟨a, bits, k⟩ :: l.drop j) (by rw [List.length_cons, List.length_drop, HX3.out.1.len]; omega) (fun q hq => by
                  rcases List.mem_cons.1 hq with rfl | hq
                  · exact HNO.out
                  · exact HX3.out.1.2 q (List.mem_of_mem_drop hq)) (show w7.ownsRow gx 37 50 (.slice A7 (1 + (n - j)) c7) (1 + (n - j)) (rtsV (⟨a, bits, k⟩ :: l.drop j)).flatten from by
                    have e : nr.toList ++ (rtsV (l.drop j)).flatten = (rtsV (⟨a, bits, k⟩ :: l.drop j)).flatten := by rw [← HNR.out]; simp [rtsV]
                    rw [← e]; exact ho7)
                clear ho7 hgx
                refine step_one 12 rfl (by kernel_rfl) (fun K hK => ?_)
                refine step_append_full _ rfl (.tmp 57) (.tmp 65) 23 rfl 37 ik _ 50 64 Try.underlying23 HKI.out.1 HKI.out.2.1 HKI.out.2.2.1 HKI.out.2.2.2 (by rfl) w3.heap.size (addrK A9 0 j 50) j j rfl (by
                  rcases HA9.out with ⟨rfl, rfl, rfl⟩ | ⟨hA, _⟩
                  · have : j = 0 := by omega
                    subst this
                    exact .inl ⟨rfl, rfl, rfl⟩
                  · refine .inr ⟨rfl, ?_⟩
                    unfold addrK
                    cases A9 with
                    | none => exact absurd rfl hA
                    | some ad => split <;> simp) (rtsV (l.take j)) (by rw [← rtsV_take]; exact addrK_zero (HX3.out.1.1.below hHeld) j hjn2) w7.heap.size A7 (1 + (n - j)) c7 rfl (by omega) (rtsV (⟨a, bits, k⟩ :: l.drop j)) hrd7.1 (by unfold maxLen; omega) (by omega) ?_
                intro v8 w8 ho8 hb8
                have hw7 : w.heap.size ≤ w7.heap.size := Nat.le_trans HX0.out.size hHeld.size
                have hb9 : Below w3.heap.size w3 w8 := hHeld.trans (hb8.mono hHeld.size)
                clear hHeld
                refine hK.out _ _ hb9 (fun hHeld => ?_)
                clear hK K hb8 hrd7
                (try simp only [Act.put, List.setIfInBounds_toArray, List.set_cons_zero, List.set_cons_succ])
                refine take_first (v := ?_) 13 rfl (by kernel_rfl) (by kernel_rfl) (by kernel_rfl) (fun _ _ _ h => h) (Or.inl ⟨by rfl, ?_⟩) (by assumption) ?_
                rotate_left
                · (intro w hSw; (try dsimp only at hSw); go_simp; try with_reducible rfl)
                (try simp only [Act.put, List.setIfInBounds_toArray, List.set_cons_zero, List.set_cons_succ])
                refine take_first (v := ?_) 14 rfl (by kernel_rfl) (by kernel_rfl) (by kernel_rfl) (fun _ _ _ h => h) (Or.inl ⟨by rfl, ?_⟩) (by assumption) ?_
                rotate_left
                · (intro w hSw; (try dsimp only at hSw); go_simp; try with_reducible rfl)
                (try simp only [Act.put, List.setIfInBounds_toArray, List.set_cons_zero, List.set_cons_succ])
                refine wpAnyH_done (by kernel_rfl) ?_ _
                clear hHeld
                obtain ⟨A8, c8, rfl⟩ : ∃ A c, v8 = .slice A (j + (1 + (n - j))) c := by
                  rcases ho8.2 with ⟨_, h0⟩ | ⟨g, cap, cur, h, _⟩
                  · omega
                  · exact ⟨_, _, h⟩
                have hrd8 := RtRd.of_own (l := l.take j ++ ⟨a, bits, k⟩ :: l.drop j) (by rw [List.length_append, List.length_cons, List.length_take, List.length_drop, HX3.out.1.len]; omega) (fun q hq => by
                  rcases List.mem_append.1 hq with hq | hq
                  · exact HX3.out.1.2 q (List.mem_of_mem_take hq)
                  · rcases List.mem_cons.1 hq with rfl | hq
                    · exact HNO.out
                    · exact HX3.out.1.2 q (List.mem_of_mem_drop hq)) (show w8.ownsRow w7.heap.size 37 50 (.slice A8 (j + (1 + (n - j))) c8) (j + (1 + (n - j))) (rtsV (l.take j ++ ⟨a, bits, k⟩ :: l.drop j)).flatten from by rw [← rtsV_append]; exact ho8)
                have hlen : (l.take j ++ (⟨a, bits, k⟩ : RouteM) :: l.drop j).length = j + (1 + (n - j)) := hrd8.len
                have hlow : ∀ ad, A8 = some ad → w.heap.size ≤ ad.block := fun ad h => by subst h; exact Nat.le_trans hw7 (ho8.lt ad.block rfl).1
                have hcap : j + (1 + (n - j)) ≤ c8 ∧ c8 ≤ maxLen := by
                  rcases ho8.2 with ⟨_, h0⟩ | ⟨g, cap, cur, h, _, _, h1, h2, _⟩
                  · omega
                  · injection h with _ _ h
                    subst h
                    exact ⟨h1, h2⟩
                have HF := Lib.hid (And.intro hrd8 (And.intro hlow (And.intro hcap (HX0.out.trans (hb9.mono HX0.out.size)))))
                have HV := Lib.hid (HINS.out _ HJA.out)
                clear hrd8 hb9 ho8 hlow hw7 hcap
                go_wp2_with fail
                go_ret2
                rw [HV.out, hlen]
                first | exact ⟨_, _, rfl, HF.out.1, HF.out.2⟩ | exact ⟨_, ⟨_, rfl⟩, HF.out.1, HF.out.2⟩
            · have hja : j = aheadM a bits l := by omega
              have HJA := Lib.hid hja
              clear hja
              have d1 : decide ((j : Int) < (n : Int)) = false := by simp; omega
              go_upto_region 14 with fail
              refine wp_region_held_drew (S := fun W' => Below w3.heap.size w3 W') (by kernel_rfl) (HW.out.drew) (fun hHeld => ?_)
              refine take_first (v := ?_) 0 rfl (by kernel_rfl) (by kernel_rfl) (by kernel_rfl) (fun _ _ _ h => h) (Or.inl ⟨by rfl, ?_⟩) (by assumption) ?_
              rotate_left
              · (intro w hSw; (try dsimp only at hSw); go_simp; try with_reducible rfl)
              (try simp only [Act.put, List.setIfInBounds_toArray, List.set_cons_zero, List.set_cons_succ])
              refine take_first (v := ?_) 1 rfl (by kernel_rfl) (by kernel_rfl) (by kernel_rfl) (fun _ _ _ h => h) (Or.inl ⟨by rfl, ?_⟩) (by assumption) ?_
              rotate_left
              · (intro w hSw; (try dsimp only at hSw); go_simp; try with_reducible rfl)
              (try simp only [Act.put, List.setIfInBounds_toArray, List.set_cons_zero, List.set_cons_succ])
              refine take_first (v := ?_) 2 rfl (by kernel_rfl) (by kernel_rfl) (by kernel_rfl) (fun _ _ _ h => h) (Or.inl ⟨by rfl, ?_⟩) (by assumption) ?_
              rotate_left
              · (intro w hSw; (try dsimp only at hSw); go_simp; try with_reducible rfl)
              (try simp only [Act.put, List.setIfInBounds_toArray, List.set_cons_zero, List.set_cons_succ])
              refine take_first (v := ?_) 3 rfl (by kernel_rfl) (by kernel_rfl) (by kernel_rfl) (fun _ _ _ h => h) (Or.inl ⟨by rfl, ?_⟩) (by assumption) ?_
              rotate_left
              · (intro w hSw; (try dsimp only at hSw); go_simp; try with_reducible rfl)
              (try simp only [Act.put, List.setIfInBounds_toArray, List.set_cons_zero, List.set_cons_succ])
              refine take_first (v := ?_) 4 rfl (by kernel_rfl) (by kernel_rfl) (by kernel_rfl) (fun _ _ _ h => h) (Or.inl ⟨by rfl, ?_⟩) (by assumption) ?_
              rotate_left
              · (intro w hSw; (try dsimp only at hSw); go_simp; try with_reducible rfl)
              (try simp only [Act.put, List.setIfInBounds_toArray, List.set_cons_zero, List.set_cons_succ])
              refine take_first (v := undef) 5 rfl (by kernel_rfl) (by kernel_rfl) (by kernel_rfl) (fun _ _ _ h => h) (Or.inr ⟨by rfl, rfl⟩) (by assumption) ?_
              (try simp only [Act.put, List.setIfInBounds_toArray, List.set_cons_zero, List.set_cons_succ])
              refine take_first (v := undef) 6 rfl (by kernel_rfl) (by kernel_rfl) (by kernel_rfl) (fun _ _ _ h => h) (Or.inr ⟨by rfl, rfl⟩) (by assumption) ?_
              (try simp only [Act.put, List.setIfInBounds_toArray, List.set_cons_zero, List.set_cons_succ])
              refine take_first (v := undef) 7 rfl (by kernel_rfl) (by kernel_rfl) (by kernel_rfl) (fun _ _ _ h => h) (Or.inr ⟨by rfl, rfl⟩) (by assumption) ?_
              (try simp only [Act.put, List.setIfInBounds_toArray, List.set_cons_zero, List.set_cons_succ])
              refine take_first (v := undef) 8 rfl (by kernel_rfl) (by kernel_rfl) (by kernel_rfl) (fun _ _ _ h => h) (Or.inr ⟨by rfl, rfl⟩) (by assumption) ?_
              (try simp only [Act.put, List.setIfInBounds_toArray, List.set_cons_zero, List.set_cons_succ])
              refine take_first (v := undef) 9 rfl (by kernel_rfl) (by kernel_rfl) (by kernel_rfl) (fun _ _ _ h => h) (Or.inr ⟨by rfl, rfl⟩) (by assumption) ?_
              (try simp only [Act.put, List.setIfInBounds_toArray, List.set_cons_zero, List.set_cons_succ])
              refine take_first (v := undef) 10 rfl (by kernel_rfl) (by kernel_rfl) (by kernel_rfl) (fun _ _ _ h => h) (Or.inr ⟨by rfl, rfl⟩) (by assumption) ?_
              (try simp only [Act.put, List.setIfInBounds_toArray, List.set_cons_zero, List.set_cons_succ])
              refine take_first (v := undef) 11 rfl (by kernel_rfl) (by kernel_rfl) (by kernel_rfl) (fun _ _ _ h => h) (Or.inr ⟨by rfl, rfl⟩) (by assumption) ?_
              (try simp only [Act.put, List.setIfInBounds_toArray, List.set_cons_zero, List.set_cons_succ])
              refine take_first (v := undef) 12 rfl (by kernel_rfl) (by kernel_rfl) (by kernel_rfl) (fun _ _ _ h => h) (Or.inr ⟨by rfl, rfl⟩) (by assumption) ?_
              (try simp only [Act.put, List.setIfInBounds_toArray, List.set_cons_zero, List.set_cons_succ])
              refine take_first (v := ?_) 13 rfl (by kernel_rfl) (by kernel_rfl) (by kernel_rfl) (fun _ _ _ h => h) (Or.inl ⟨by rfl, ?_⟩) (by assumption) ?_
              rotate_left
              · (intro w hSw; (try dsimp only at hSw); go_simp; try with_reducible rfl)
              (try simp only [Act.put, List.setIfInBounds_toArray, List.set_cons_zero, List.set_cons_succ])
              refine wpAnyH_done (by kernel_rfl) ?_ _
              replace HW := Lib.hid hHeld
              clear hHeld d1
              go_upto_region 16 with fail
              refine wp_region_held_drew (S := fun W' => Below w3.heap.size w3 W') (by kernel_rfl) (HW.out.drew) (fun hHeld => ?_)
              refine take_first (v := ?_) 0 rfl (by kernel_rfl) (by kernel_rfl) (by kernel_rfl) (fun _ _ _ h => h) (Or.inl ⟨by rfl, ?_⟩) (by assumption) ?_
              rotate_left
              · (intro w hSw; (try dsimp only at hSw); go_simp; try with_reducible rfl)
              (try simp only [Act.put, List.setIfInBounds_toArray, List.set_cons_zero, List.set_cons_succ])
              refine take_first (v := ?_) 1 rfl (by kernel_rfl) (by kernel_rfl) (by kernel_rfl) (fun _ _ _ h => h) (Or.inl ⟨by rfl, ?_⟩) (by assumption) ?_
              rotate_left
              · (intro w hSw; (try dsimp only at hSw); go_simp; try with_reducible rfl)
              (try simp only [Act.put, List.setIfInBounds_toArray, List.set_cons_zero, List.set_cons_succ])
              refine take_first (v := ?_) 2 rfl (by kernel_rfl) (by kernel_rfl) (by kernel_rfl) (fun _ _ _ h => h) (Or.inl ⟨by rfl, ?_⟩) (by assumption) ?_
              rotate_left
              · (intro w hSw; (try dsimp only at hSw); go_simp; try with_reducible rfl)
              (try simp only [Act.put, List.setIfInBounds_toArray, List.set_cons_zero, List.set_cons_succ])
              refine take_first (v := ?_) 3 rfl (by kernel_rfl) (by kernel_rfl) (by kernel_rfl) (fun _ _ _ h => h) (Or.inl ⟨by rfl, ?_⟩) (by assumption) ?_
              rotate_left
              · (intro w hSw; (try dsimp only at hSw); have s := routes_hm A9 n c9 j hjc w; go_simp; try with_reducible rfl)
              (try simp only [Act.put, List.setIfInBounds_toArray, List.set_cons_zero, List.set_cons_succ])
              refine take_first (v := .agg pp) 4 rfl (by kernel_rfl) (by kernel_rfl) (by kernel_rfl) (fun _ _ _ h => h) (by rw [← HPP.out]; exact yields_load_obj (by rfl) 28 (.tmp 4) rfl w.heap.size 0 rfl (prefC a bits) (fun W hW => (HX3.out.2.1.all.mono hW HX3.out.2.1.lt)) _ Try.underlying28 rfl (pref_cellsOf' a HOA.out bits)) (by assumption) ?_
              (try simp only [Act.put, List.setIfInBounds_toArray, List.set_cons_zero, List.set_cons_succ])
              refine take_first (v := .agg kk) 5 rfl (by kernel_rfl) (by kernel_rfl) (by kernel_rfl) (fun _ _ _ h => h) (by rw [← HKK.out]; exact yields_load_obj (by rfl) 30 (.tmp 5) rfl (w.heap.size + 1) 0 rfl (k.map u8v) (fun W hW => (HX3.out.2.2.all.mono hW HX3.out.2.2.lt)) _ Try.underlying30 rfl (key_cellsOf k HKL.out)) (by assumption) ?_
              (try simp only [Act.put, List.setIfInBounds_toArray, List.set_cons_zero, List.set_cons_succ])
              refine take_first (v := .agg nr) 6 rfl (by kernel_rfl) (by kernel_rfl) (by kernel_rfl) (fun _ _ _ h => h) (yields_build_obj (by rfl) 37 [(0, .tmp 58), (1, .tmp 59)] rfl nr HBT.out) (by assumption) ?_
              (try simp only [Act.put, List.setIfInBounds_toArray, List.set_cons_zero, List.set_cons_succ])
              refine take_first (v := ?_) 8 rfl (by kernel_rfl) (by kernel_rfl) (by kernel_rfl) (fun _ _ _ h => h) (Or.inl ⟨by rfl, ?_⟩) (by assumption) ?_
              rotate_left
              · (intro w hSw; (try dsimp only at hSw); go_simp; try with_reducible rfl)
              (try simp only [Act.put, List.setIfInBounds_toArray, List.set_cons_zero, List.set_cons_succ])
              refine take_first (v := ?_) 9 rfl (by kernel_rfl) (by kernel_rfl) (by kernel_rfl) (fun _ _ _ h => h) (Or.inl ⟨by rfl, ?_⟩) (by assumption) ?_
              rotate_left
              · (intro w hSw; (try dsimp only at hSw); go_simp; try with_reducible rfl)
              (try simp only [Act.put, List.setIfInBounds_toArray, List.set_cons_zero, List.set_cons_succ])
              refine take_first (v := ?_) 10 rfl (by kernel_rfl) (by kernel_rfl) (by kernel_rfl) (fun _ _ _ h => h) (Or.inl ⟨by rfl, ?_⟩) (by assumption) ?_
              rotate_left
              · (intro w hSw; (try dsimp only at hSw); have s := routes_l A9 n c9 j hjn2 w; go_simp; try with_reducible rfl)
              (try simp only [Act.put, List.setIfInBounds_toArray, List.set_cons_zero, List.set_cons_succ])
              refine step_one 7 rfl (by kernel_rfl) (fun K hK => ?_)
              refine step_buildOne rfl 23 37 (.tmp 60) rfl nr rfl 50 Try.underlying23 ik HKI.out.1 HKI.out.2.2.1 _ HKI.out.2.1 (by omega) (by omega) (by rw [← HNR.out, List.size_toArray, RouteM.cells_length HNO.out]) ?_
              have hbx := hHeld.alloc hHeld.size (.cells nr 37)
              have hown := World.ownsRow_lit (base := wr.drew.drew.heap.size) (e := 37) (size := 50) wr.drew.drew nr 1 (Nat.le_refl _) (by unfold maxLen; omega) (by rw [← HNR.out, List.size_toArray, RouteM.cells_length HNO.out])
              have hgx : w3.heap.size ≤ wr.drew.drew.heap.size := hHeld.size
              have hqs : wr.drew.drew.heap.size ≤ (wr.drew.drew.alloc (.cells nr 37)).heap.size := by simp
              generalize wr.drew.drew.alloc (.cells nr 37) = wx at hbx hown hqs ⊢
              generalize wr.drew.drew.heap.size = gx at hown hqs hgx ⊢
              clear hHeld
              refine hK.out _ _ hbx (fun hHeld => ?_)
              clear hK K hbx
              (try simp only [Act.put, List.setIfInBounds_toArray, List.set_cons_zero, List.set_cons_succ])
              refine step_one 11 rfl (by kernel_rfl) (fun K hK => ?_)
              refine step_append_rows _ rfl (.tmp 61) (.tmp 64) 23 rfl gx 37 ik _ 50 64 Try.underlying23 HKI.out.1 HKI.out.2.1 HKI.out.2.2.1 HKI.out.2.2.2 (by rfl) (by omega) _ 1 nr.toList rfl hown w3.heap.size (addrK A9 j c9 50) (n - j) (c9 - j) (rtsV (l.drop j)) rfl (by rw [← rtsV_drop]; exact (HX3.out.1.1.below hHeld).behind j c9 hjn2 hnc9) (rtsV_one _) (by unfold maxLen; omega) (by omega) hqs ?_
              intro v7 w7 ho7 hg7 _
              have hb7 : Below w3.heap.size w3 w7 := hHeld.grown hg7 hHeld.size (fun q hq => by have := (hown.lt q hq).1; omega)
              clear hg7 hown hHeld hqs
              refine hK.out _ _ hb7 (fun hHeld => ?_)
              clear hK K hb7
              (try simp only [Act.put, List.setIfInBounds_toArray, List.set_cons_zero, List.set_cons_succ])
              obtain ⟨A7, c7, rfl⟩ : ∃ A c, v7 = .slice A (1 + (n - j)) c := by
                rcases ho7.2 with ⟨_, h0⟩ | ⟨g, cap, cur, h, _⟩
                · omega
                · exact ⟨_, _, h⟩
              have hrd7 := RtRd.of_own (l := ⟨a, bits, k⟩ :: l.drop j) (by rw [List.length_cons, List.length_drop, HX3.out.1.len]; omega) (fun q hq => by
                rcases List.mem_cons.1 hq with rfl | hq
                · exact HNO.out
                · exact HX3.out.1.2 q (List.mem_of_mem_drop hq)) (show w7.ownsRow gx 37 50 (.slice A7 (1 + (n - j)) c7) (1 + (n - j)) (rtsV (⟨a, bits, k⟩ :: l.drop j)).flatten from by
                  have e : nr.toList ++ (rtsV (l.drop j)).flatten = (rtsV (⟨a, bits, k⟩ :: l.drop j)).flatten := by rw [← HNR.out]; simp [rtsV]
                  rw [← e]; exact ho7)
              clear ho7 hgx
              refine step_one 12 rfl (by kernel_rfl) (fun K hK => ?_)
              refine step_append_full _ rfl (.tmp 57) (.tmp 65) 23 rfl 37 ik _ 50 64 Try.underlying23 HKI.out.1 HKI.out.2.1 HKI.out.2.2.1 HKI.out.2.2.2 (by rfl) w3.heap.size (addrK A9 0 j 50) j j rfl (by
                rcases HA9.out with ⟨rfl, rfl, rfl⟩ | ⟨hA, _⟩
                · have : j = 0 := by omega
                  subst this
                  exact .inl ⟨rfl, rfl, rfl⟩
                · refine .inr ⟨rfl, ?_⟩
                  unfold addrK
                  cases A9 with
                  | none => exact absurd rfl hA
                  | some ad => split <;> simp) (rtsV (l.take j)) (by rw [← rtsV_take]; exact addrK_zero (HX3.out.1.1.below hHeld) j hjn2) w7.heap.size A7 (1 + (n - j)) c7 rfl (by omega) (rtsV (⟨a, bits, k⟩ :: l.drop j)) hrd7.1 (by unfold maxLen; omega) (by omega) ?_
              intro v8 w8 ho8 hb8
              have hw7 : w.heap.size ≤ w7.heap.size := Nat.le_trans HX0.out.size hHeld.size
              have hb9 : Below w3.heap.size w3 w8 := hHeld.trans (hb8.mono hHeld.size)
              clear hHeld
              refine hK.out _ _ hb9 (fun hHeld => ?_)
              clear hK K hb8 hrd7
              (try simp only [Act.put, List.setIfInBounds_toArray, List.set_cons_zero, List.set_cons_succ])
              refine take_first (v := ?_) 13 rfl (by kernel_rfl) (by kernel_rfl) (by kernel_rfl) (fun _ _ _ h => h) (Or.inl ⟨by rfl, ?_⟩) (by assumption) ?_
              rotate_left
              · (intro w hSw; (try dsimp only at hSw); go_simp; try with_reducible rfl)
              (try simp only [Act.put, List.setIfInBounds_toArray, List.set_cons_zero, List.set_cons_succ])
              refine take_first (v := ?_) 14 rfl (by kernel_rfl) (by kernel_rfl) (by kernel_rfl) (fun _ _ _ h => h) (Or.inl ⟨by rfl, ?_⟩) (by assumption) ?_
              rotate_left
              · (intro w hSw; (try dsimp only at hSw); go_simp; try with_reducible rfl)
              (try simp only [Act.put, List.setIfInBounds_toArray, List.set_cons_zero, List.set_cons_succ])
              refine wpAnyH_done (by kernel_rfl) ?_ _
              clear hHeld
              obtain ⟨A8, c8, rfl⟩ : ∃ A c, v8 = .slice A (j + (1 + (n - j))) c := by
                rcases ho8.2 with ⟨_, h0⟩ | ⟨g, cap, cur, h, _⟩
                · omega
                · exact ⟨_, _, h⟩
              have hrd8 := RtRd.of_own (l := l.take j ++ ⟨a, bits, k⟩ :: l.drop j) (by rw [List.length_append, List.length_cons, List.length_take, List.length_drop, HX3.out.1.len]; omega) (fun q hq => by
                rcases List.mem_append.1 hq with hq | hq
                · exact HX3.out.1.2 q (List.mem_of_mem_take hq)
                · rcases List.mem_cons.1 hq with rfl | hq
                  · exact HNO.out
                  · exact HX3.out.1.2 q (List.mem_of_mem_drop hq)) (show w8.ownsRow w7.heap.size 37 50 (.slice A8 (j + (1 + (n - j))) c8) (j + (1 + (n - j))) (rtsV (l.take j ++ ⟨a, bits, k⟩ :: l.drop j)).flatten from by rw [← rtsV_append]; exact ho8)
              have hlen : (l.take j ++ (⟨a, bits, k⟩ : RouteM) :: l.drop j).length = j + (1 + (n - j)) := hrd8.len
              have hlow : ∀ ad, A8 = some ad → w.heap.size ≤ ad.block := fun ad h => by subst h; exact Nat.le_trans hw7 (ho8.lt ad.block rfl).1
              have hcap : j + (1 + (n - j)) ≤ c8 ∧ c8 ≤ maxLen := by
                rcases ho8.2 with ⟨_, h0⟩ | ⟨g, cap, cur, h, _, _, h1, h2, _⟩
                · omega
                · injection h with _ _ h
                  subst h
                  exact ⟨h1, h2⟩
              have HF := Lib.hid (And.intro hrd8 (And.intro hlow (And.intro hcap (HX0.out.trans (hb9.mono HX0.out.size)))))
              have HV := Lib.hid (HINS.out _ HJA.out)
              clear hrd8 hb9 ho8 hlow hw7 hcap
              go_wp2_with fail
              go_ret2
              rw [HV.out, hlen]
              first | exact ⟨_, _, rfl, HF.out.1, HF.out.2⟩ | exact ⟨_, ⟨_, rfl⟩, HF.out.1, HF.out.2⟩
end Go.Proofs.Ytnblofbbbkjhpaa
namespace Go.Proofs.Ytnblofbbbkjhpaa
open Go.RowKit

theorem row_blk {w : World} {base e g n : Nat} {xs : List Value} (h : w.ownsRow base e 1 (.slice (some ⟨g, 0, none⟩) n n) n xs) : Blk w g e xs := by
  rcases h.2 with ⟨h0, _⟩ | ⟨g', cap, cur, hv, _, hg, _, _, hcs, ht⟩
  · cases h0
  · simp only [Value.slice.injEq, Option.some.injEq, Addr.mk.injEq, and_true, true_and] at hv
    obtain ⟨rfl, rfl⟩ := hv
    have : cur.toList = xs := by
      rw [← ht, List.take_of_length_le (by simp; omega)]
    unfold Blk
    rw [hg, ← this]

theorem Rd.kept {w w' : World} {B g n : Nat} {A : Option Addr} {l : List UInt8} (h : Rd w B A n l) (hB : B ≤ g) (hg : g < w.heap.size) (hb : w.grownBy w' (some g)) : Rd w' B A n l :=
  h.keep fun q hq => World.cell?_of_block (hb.block q.block (by omega) (fun e => by injection e with e; omega))
theorem Rd.below2 {w w' : World} {B n : Nat} {A : Option Addr} {l : List UInt8} (h : Rd w B A n l) (hB : B ≤ w.heap.size) (hb : Below w.heap.size w w') : Rd w' B A n l := h.below (hb.mono hB)
end Go.Proofs.Ytnblofbbbkjhpaa
namespace Go.Proofs.Ytnblofbbbkjhpaa
open Go.RowKit

theorem grownD {a w : World} {row : Option Nat} (h : a.grownBy w row) : a.grownBy w.drew row := ⟨h.os, h.tape, h.output, h.size, h.block⟩
theorem grownB {a w w' : World} {row : Option Nat} (h : a.grownBy w row) (hb : Below w.heap.size w w') : a.grownBy w' row :=
  grownBy_trans h ⟨hb.os, hb.tape, hb.output, hb.size, fun k hk _ => hb.block k hk⟩
theorem grown_refl (w : World) (k : Option Nat) : w.grownBy w k := ⟨rfl, rfl, rfl, Nat.le_refl _, fun _ _ _ => rfl⟩
/-- a change above w is none below it -/
theorem grownA {w W W' : World} {g : Nat} {row : Option Nat} (h : w.grownBy W (some g)) (hb : W.grownBy W' row) (hr : ∀ k, row = some k → w.heap.size ≤ k) : w.grownBy W' (some g) :=
  ⟨hb.os.trans h.os, hb.tape.trans h.tape, hb.output.trans h.output, Nat.le_trans h.size hb.size, fun k hk hne => (hb.block k (Nat.lt_of_lt_of_le hk h.size) (fun e => absurd (hr k e.symm) (by omega))).trans (h.block k hk hne)⟩
/-- the entries, and that of what was there ahead of w0 only the block g has changed -/
def MemG (w0 : World) (g : Nat) (E : List Ent) (W : World) : Prop := MemE w0.heap.size E W.heap.size W ∧ w0.grownBy W (some g)
section
variable {w0 W W' : World} {g : Nat} {E : List Ent}
theorem MemG.nil (w0 : World) (g : Nat) : MemG w0 g [] w0 := ⟨Nat.le_refl _, grown_refl _ _⟩
theorem MemG.get (h : MemG w0 g E W) (i : Nat) {e : Ent} (he : E[i]? = some e) : e.P W := h.1.get i e he
theorem MemG.blk (h : MemG w0 g E W) (i : Nat) {b : Nat} {t : TypeId} {cs : List Value} (he : E[i]? = some (blkE b t cs)) : Blk W b t cs := h.1.get i _ he
theorem MemG.rd (h : MemG w0 g E W) (i : Nat) {lo hi : Nat} {A : Option Addr} {n : Nat} {l : List UInt8} (he : E[i]? = some (rdE lo hi A n l)) : Rd W W.heap.size A n l :=
  (RdIn.rd (h.1.get i _ he)).mono (MemE.put.MemE.under h.1 i _ he)
theorem MemG.below (h : MemG w0 g E W) (hb : Below W.heap.size W W') : MemG w0 g E W' := ⟨h.1.keep hb.size (fun k _ hk => hb.block k hk), grownB h.2 hb⟩
theorem MemG.drew (h : MemG w0 g E W) : MemG w0 g E W.drew := h.below ((Below.refl _ _).drew)
/-- the block g changes -/
theorem MemG.next (h : MemG w0 g E W) (hg : g < w0.heap.size) (hb : W.grownBy W' (some g)) : MemG w0 g E W' :=
  ⟨h.1.keep hb.size (fun k h1 hk => hb.block k hk (fun e => by injection e with e; omega)), grownBy_trans h.2 hb⟩
theorem MemG.alloc (h : MemG w0 g E W) {b : Nat} (hb0 : b = W.heap.size) (t : TypeId) (arr : Array Value) (cs : List Value) (ha : arr = cs.toArray) : MemG w0 g (blkE b t cs :: E) (W.alloc (.cells arr t)) := by
  subst hb0 ha
  have hb : Below W.heap.size W (W.alloc (.cells cs.toArray t)) := (Below.refl _ _).alloc (Nat.le_refl _) _
  refine ⟨⟨?_, Nat.le_succ _, Blk.new W t cs, h.1.keep (Nat.le_refl _) (fun k _ hk => hb.block k hk)⟩, grownB h.2 hb⟩
  show W.heap.size + 1 ≤ _
  simp
theorem MemG.call (h : MemG w0 g E W) (hb : Below W.heap.size W W') (e : Ent) (hl : e.lo = W.heap.size) (hh : e.hi = W'.heap.size) (hp : e.P W') : MemG w0 g (e :: E) W' :=
  ⟨⟨by rw [hh]; exact Nat.le_refl _, by rw [hl, hh]; exact hb.size, hp, by rw [hl]; exact h.1.keep (Nat.le_refl _) (fun k _ hk => hb.block k hk)⟩, grownB h.2 hb⟩
theorem MemG.put (h : MemG w0 g E W) (i : Nat) {b : Nat} {t : TypeId} {cs : List Value} (he : E[i]? = some (blkE b t cs)) (cs' : List Value) (hg : W.grownBy W' (some b)) (hb : Blk W' b t cs') : MemG w0 g (E.set i (blkE b t cs')) W' := by
  have hlow : w0.heap.size ≤ b := MemE.low h.1 i _ he
  refine ⟨(MemE.put h.1 i _ (blkE b t cs') he rfl rfl (fun k hk hne => hg.block k hk (fun e => hne ?_)) hb).keep hg.size (fun _ _ _ => rfl), grownA h.2 hg (fun k hk => by injection hk with hk; omega)⟩
  injection e with e
  subst e
  exact ⟨Nat.le_refl _, Nat.lt_succ_self _⟩
theorem MemG.setCell (h : MemG w0 g E W) (i : Nat) {b : Nat} {t : TypeId} {cs : List Value} (he : E[i]? = some (blkE b t cs)) (j : Nat) (u : Value) : MemG w0 g (E.set i (blkE b t (cs.set j u))) (W.setCell ⟨b, j, none⟩ u) :=
  h.put i he _ ⟨rfl, rfl, rfl, by simp [World.setCell], fun k _ hne => Below.heap_setCell _ _ _ _ (fun e => hne (by rw [e]))⟩ ((h.blk i he).set_ j u)
end
end Go.Proofs.Ytnblofbbbkjhpaa
namespace Go.Proofs.Ytnblofbbbkjhpaa
open Go.RowKit

/-- the list of choices that lies at A, p of them taken -/
def codesC (A : Option Addr) (n c p : Nat) : List Value := [.slice A n c, .int .i64 (p : Int)]
def nextV (l : List UInt8) (p m : Nat) : Nat := if p < l.length ∧ 1 ≤ m then (l.getD p 0).toNat % m else 0
def nextP (l : List UInt8) (p m : Nat) : Nat := if p < l.length ∧ 1 ≤ m then p + 1 else p
theorem nextP_le (l : List UInt8) (p m : Nat) (h : p ≤ l.length) : nextP l p m ≤ l.length := by unfold nextP; split <;> omega
theorem nextV_lt (l : List UInt8) (p m : Nat) (h : 1 ≤ m) : nextV l p m < m := by unfold nextV; split; exact Nat.mod_lt _ h; omega
set_option maxRecDepth 100000 in
theorem caseLeft_any (g : Nat) (A : Option Addr) (n c : Nat) (p : Nat) (w : World) (hg : Blk w g 64 (codesC A n c p)) :
    Calls Try.prog 49 #[.pointer (some ⟨g, 0, none⟩)] w fun e w' => e = .returned (.bool (decide (p < n))) ∧ Below w.heap.size w w' := by
  have HG := Lib.hid hg
  have hd : decide ((p : Int) < (n : Int)) = decide (p < n) := by simp
  obtain ⟨q, hq⟩ : ∃ q, decide (p < n) = q := ⟨_, rfl⟩
  rw [hq] at hd
  have HQ := Lib.hid hq
  clear hg hq
  go_enter Try.func49, Try.ntmps49
  have f0 := HG.out.cell 0
  have f1 := HG.out.cell 1
  rw [show (codesC A n c p)[0]? = some (.slice A n c) from rfl] at f0
  rw [show (codesC A n c p)[1]? = some (.int .i64 (p : Int)) from rfl] at f1
  go_upto_region 1 with fail
  go_region
  go_wp2
  go_ret
  exact ⟨by rw [HQ.out]; rfl, (Below.refl _ _).drew⟩
set_option maxRecDepth 100000 in
set_option maxHeartbeats 2000000 in
theorem caseNext_any (g : Nat) (A : Option Addr) (n c : Nat) (l : List UInt8) (p : Nat) (hn : n ≤ 100000) (hp : p ≤ n) (m : Nat) (hm : m ≤ 1000000) (B : Nat) (hB : B ≤ g) (w : World) (hg : Blk w g 64 (codesC A n c p)) (hr : Rd w B A n l) :
    Calls Try.prog 32 #[.pointer (some ⟨g, 0, none⟩), .int .i64 (m : Int)] w fun e w' => e = .returned (.int .i64 (nextV l p m : Int)) ∧ Blk w' g 64 (codesC A n c (nextP l p m)) ∧ w.grownBy w' (some g) := by
  have hl := hr.1
  have LC := caseLeft_any g A n c p w hg
  have HG := Lib.hid hg
  have HR := Lib.hid hr
  have HLC := Lib.hid LC
  clear hg hr LC
  by_cases hpn : p < n
  · by_cases hm1 : 1 ≤ m
    · have HV := Lib.hid (show nextV l p m = (l.getD p 0).toNat % m ∧ nextP l p m = p + 1 from ⟨if_pos ⟨by omega, hm1⟩, if_pos ⟨by omega, hm1⟩⟩)
      obtain ⟨b, off, rfl, hb0, _⟩ := HR.out.at_ (by omega)
      go_enter Try.func32, Try.ntmps32
      go_upto_region 1 with fail
      go_wp2_with fail
      refine HLC.out.mono ?_
      rintro e w1 ⟨rfl, hb⟩
      rw [decide_eq_true hpn]
      have HG1 := Lib.hid (HG.out.below hb HG.out.lt)
      have HR1 := Lib.hid ((HR.out.mono (Nat.le_trans hB (Nat.le_of_lt HG.out.lt))).below hb)
      have HW := Lib.hid (grownB (grown_refl w (some g)) hb)
      clear hb HLC
      have dm : decide ((m : Int) < 1) = false := by simp; omega
      have f0 := HG1.out.cell 0
      have f1 := HG1.out.cell 1
      rw [show (codesC (some ⟨b, off, none⟩) n c p)[0]? = some (.slice (some ⟨b, off, none⟩) n c) from rfl] at f0
      rw [show (codesC (some ⟨b, off, none⟩) n c p)[1]? = some (.int .i64 (p : Int)) from rfl] at f1
      have z1 := HG1.out.frozen 1
      have hw1 : IntKind.i64.wrap ((p : Int) + 1) = ((p + 1 : Nat) : Int) := by rw [IntWalk.i64_in _ (by omega)]; omega
      obtain ⟨p1, hp1⟩ : ∃ q, p + 1 = q := ⟨_, rfl⟩
      rw [hp1] at hw1
      have hs := HG1.out.set_ 1 (.int .i64 (p1 : Int))
      have HS := Lib.hid (show Blk (w1.setCell ⟨g, 1, none⟩ (.int .i64 (p1 : Int))) g 64 (codesC (some ⟨b, off, none⟩) n c p1) from hs)
      have HW2 := Lib.hid (show w.grownBy (w1.setCell ⟨g, 1, none⟩ (.int .i64 (p1 : Int))) (some g) from grown_set HW.out 1 _)
      have hfx : (w1.setCell ⟨g, 1, none⟩ (.int .i64 (p1 : Int))).cell? ⟨b, off + p, none⟩ = some (.int .u8 ((l.getD p 0).toNat : Int)) := by
        rw [World.cell?_of_block (w := w1) (Below.heap_setCell _ _ _ _ (by dsimp only; omega))]
        exact HR1.out.byt p hpn
      have HFX := Lib.hid hfx
      clear hs hfx
      go_upto_region 4 with fail
      clear f0 f1 z1 dm
      (try simp only [hw1])
      generalize w1.setCell ⟨g, 1, none⟩ (.int .i64 (p1 : Int)) = w2 at HS HW2 HFX ⊢
      clear hw1
      have f0 := HS.out.cell 0
      have f1 := HS.out.cell 1
      rw [show (codesC (some ⟨b, off, none⟩) n c p1)[0]? = some (.slice (some ⟨b, off, none⟩) n c) from rfl] at f0
      rw [show (codesC (some ⟨b, off, none⟩) n c p1)[1]? = some (.int .i64 (p1 : Int)) from rfl] at f1
      have fx := HFX.out
      generalize l.getD p 0 = x at fx HV
      have hw2 : IntKind.i64.wrap ((p1 : Int) - 1) = (p : Int) := by rw [IntWalk.i64_in _ (by omega)]; omega
      have hw3 : (p1 : Int) - 1 = (p : Int) := by omega
      have hw4 : IntKind.i64.wrap (p : Int) = (p : Int) := IntWalk.i64_in _ (by omega)
      have hx256 := x.toNat_lt
      have hw5 : IntKind.i64.wrap (x.toNat : Int) = (x.toNat : Int) := IntWalk.i64_in _ (by omega)
      have bp : (p : Int) < (n : Int) := by omega
      have hmz : ((m : Int) == 0) = false := by rw [beq_eq_false_iff_ne]; omega
      have hmz' : ¬ (m : Int) = 0 := by omega
      obtain ⟨r, hr⟩ : ∃ r, x.toNat % m = r := ⟨_, rfl⟩
      have hmod : (x.toNat : Int).tmod (m : Int) = (r : Int) := by rw [← hr, Int.tmod_eq_emod_of_nonneg (by omega), Int.natCast_emod]
      have hmod2 : (x.toNat : Int) % (m : Int) = (r : Int) := by rw [← hr, Int.natCast_emod]
      rw [hr, hp1] at HV
      have hwr : IntKind.i64.wrap (r : Int) = (r : Int) := IntWalk.i64_in _ (by rw [← hr]; have := Nat.mod_le x.toNat m; omega)
      clear hr
      go_region
      go_wp2
      go_ret
      exact ⟨by rw [HV.out.1]; rfl, by rw [HV.out.2]; exact HS.out.drew, grownD HW2.out⟩
    · have HV := Lib.hid (show nextV l p m = 0 ∧ nextP l p m = p from ⟨if_neg (by omega), if_neg (by omega)⟩)
      go_enter Try.func32, Try.ntmps32
      go_upto_region 1 with fail
      go_wp2_with fail
      refine HLC.out.mono ?_
      rintro e w1 ⟨rfl, hb⟩
      rw [decide_eq_true hpn]
      have HG1 := Lib.hid (HG.out.below hb HG.out.lt)
      have HW := Lib.hid (grownB (grown_refl w (some g)) hb)
      clear hb HLC
      have dm : decide ((m : Int) < 1) = true := by simp; omega
      go_wp2
      go_ret
      exact ⟨by rw [HV.out.1]; rfl, by rw [HV.out.2]; exact HG1.out, HW.out⟩
  · have HV := Lib.hid (show nextV l p m = 0 ∧ nextP l p m = p from ⟨if_neg (by omega), if_neg (by omega)⟩)
    go_enter Try.func32, Try.ntmps32
    go_upto_region 1 with fail
    go_wp2_with fail
    refine HLC.out.mono ?_
    rintro e w1 ⟨rfl, hb⟩
    rw [decide_eq_false hpn]
    have HG1 := Lib.hid (HG.out.below hb HG.out.lt)
    have HW := Lib.hid (grownB (grown_refl w (some g)) hb)
    clear hb HLC
    go_wp2
    go_ret
    exact ⟨by rw [HV.out.1]; rfl, by rw [HV.out.2]; exact HG1.out, HW.out⟩
end Go.Proofs.Ytnblofbbbkjhpaa
