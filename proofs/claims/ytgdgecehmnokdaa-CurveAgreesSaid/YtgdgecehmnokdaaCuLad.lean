/-
  The contracts of the reference's swapped and stepped: the two points of a ladder exchanged, and one step of it.
-/
import Derived.Test.YtgdgecehmnokdaaBuildAs
import Derived.Test.YtgdgecehmnokdaaCuWrite
import Derived.Test.YtgdgecehmnokdaaTwoRows
namespace Go.Proofs.Ytgdgecehmnokdaa
open Go.RowKit

/-- the state of the multiplication as digits -/
def ladV (a b c d : List Int) : List Value := a.map i64v ++ (b.map i64v ++ (c.map i64v ++ d.map i64v))
theorem ladV_length (a b c d : List Int) (ha : a.length = 16) (hb : b.length = 16) (hc : c.length = 16) (hd : d.length = 16) : (ladV a b c d).length = 64 := by simp [ladV, ha, hb, hc, hd]
theorem ladV_one (a b c d : List Int) : ∀ v ∈ ladV a b c d, v.oneCell' = true := by
  intro v hv
  simp only [ladV, List.mem_append] at hv
  rcases hv with h | h | h | h <;> exact i64v_one _ v h
theorem row_at (p q r : List Value) (m : Nat) (hp : p.length = m) (hq : q.length = 16) : ((p ++ (q ++ r)).drop m).take 16 = q := by
  subst hp
  rw [List.drop_left, ← hq, List.take_left]
theorem ladV_row0 (a b c d : List Int) (ha : a.length = 16) (_hb : b.length = 16) (_hc : c.length = 16) (_hd : d.length = 16) : ((ladV a b c d).drop 0).take 16 = a.map i64v := row_at [] _ _ 0 rfl (by simp [ha])
theorem ladV_row1 (a b c d : List Int) (ha : a.length = 16) (hb : b.length = 16) (_hc : c.length = 16) (_hd : d.length = 16) : ((ladV a b c d).drop 16).take 16 = b.map i64v := row_at _ _ _ 16 (by simp [ha]) (by simp [hb])
theorem ladV_row2 (a b c d : List Int) (ha : a.length = 16) (hb : b.length = 16) (hc : c.length = 16) (_hd : d.length = 16) : ((ladV a b c d).drop 32).take 16 = c.map i64v := by
  have h := row_at (a.map i64v ++ b.map i64v) (c.map i64v) (d.map i64v) 32 (by simp [ha, hb]) (by simp [hc])
  rw [List.append_assoc] at h
  exact h
theorem ladV_row3 (a b c d : List Int) (ha : a.length = 16) (hb : b.length = 16) (hc : c.length = 16) (hd : d.length = 16) : ((ladV a b c d).drop 48).take 16 = d.map i64v := by
  have h := row_at (a.map i64v ++ (b.map i64v ++ c.map i64v)) (d.map i64v) [] 48 (by simp [ha, hb, hc]) (by simp [hd])
  simp only [List.append_assoc, List.append_nil] at h
  exact h
theorem cu_yields_off {P : Program} {ops : Array Oper} {S : World → Prop} {o : Oper} {a : Act} (hw : Region.wanted o (yielded ops a.tmps) = true) (ty : TypeId) (x : Operand) (ho : o.op = .load ty x)
    (g off : Nat) (hx : a.eval x = .pointer (some ⟨g, off, none⟩)) (cs : List Value) (hS : ∀ w, S w → ∀ j v, cs[j]? = some v → w.cell? ⟨g, off + j, none⟩ = some v) (n : Nat) (e : TypeId) (hu : P.underlying ty = some (.array n e)) (hi : (P.info? ty).map (·.size) = some cs.length) :
    YieldsIf P ops S o (.agg cs.toArray) a := by
  refine Or.inl ⟨hw, fun w hSw => ?_⟩
  simp only [execOp, ho, hx, Instr.loadAt, Instr.sureAddr, Sem.run_bind, Sem.run_pure, Result.andThen_ok, run_load_off w g off ty cs (hS w hSw) n e hu hi]
theorem cells64L (l : List Value) (h : l.length = 64) : (Try.prog.info? 41).map (·.size) = some l.length := by
  rw [h]; kernel_rfl
theorem zd_size (n : Nat) : (zd n).toArray.size = n := by simp [zd]
/-- what a part of an aggregate becomes -/
theorem fill_part (place : Nat → Option (Nat × Nat)) (cs : List Value) (i off n : Nat) (v : Array Value) (rest : List (Nat × Value)) (hp : place i = some (off, n)) (hv : v.size = n) (hf : off + n ≤ cs.length) :
    Instr.fill place cs.toArray ((i, .agg v) :: rest) = Instr.fill place (cs.take off ++ v.toList ++ cs.drop (off + n)).toArray rest := by
  have hA := foldl_set_list off v.toList 0 cs.toArray (by simp [hv]; omega)
  simp only [Instr.fill, hp]
  refine (if_neg (two_tests (fun hne => hne hv) (fun hlt : off + v.size > cs.toArray.size => by simp at hlt; omega))).trans ?_
  congr 1
  apply Array.ext'
  rw [← Array.foldl_toList]
  simp only [Value.cells, Array.toList_zipIdx]
  rw [hA]
  simp [hv]
theorem built_lad (parts : List (Nat × Value)) : Try.prog.built 41 parts = Instr.fill (fun i => (#[(0, 16), (16, 16), (32, 16), (48, 16)] : Array (Nat × Nat))[i]?) (zd 64).toArray parts := by kernel_rfl
theorem put_mid (p q r v : List Value) (off n : Nat) (hp : p.length = off) (hq : q.length = n) : (p ++ (q ++ r)).take off ++ v ++ (p ++ (q ++ r)).drop (off + n) = p ++ (v ++ r) := by
  subst hp hq
  rw [List.take_left, show (p ++ (q ++ r)).drop (p.length + q.length) = r by rw [← List.drop_drop, List.drop_left, List.drop_left], List.append_assoc]
theorem zd_four : zd 64 = zd 16 ++ (zd 16 ++ (zd 16 ++ zd 16)) := rfl
theorem built_four (a b c d : List Int) (ha : a.length = 16) (hb : b.length = 16) (hc : c.length = 16) (hd : d.length = 16) :
    Try.prog.built 41 [(0, .agg (a.map i64v).toArray), (1, .agg (b.map i64v).toArray), (2, .agg (c.map i64v).toArray), (3, .agg (d.map i64v).toArray)] = some (ladV a b c d).toArray := by
  have z16 : (zd 16).length = 16 := rfl
  rw [built_lad, zd_four, fill_part _ _ 0 0 16 _ _ rfl (by simp [ha]) (by simp [z16])]
  have e0 := put_mid [] (zd 16) (zd 16 ++ (zd 16 ++ zd 16)) (a.map i64v) 0 16 rfl z16
  rw [List.nil_append, List.nil_append] at e0
  rw [e0, fill_part _ _ 1 16 16 _ _ rfl (by simp [hb]) (by simp [z16, ha])]
  rw [put_mid (a.map i64v) (zd 16) (zd 16 ++ zd 16) (b.map i64v) 16 16 (by simp [ha]) z16, fill_part _ _ 2 32 16 _ _ rfl (by simp [hc]) (by simp [z16, ha, hb])]
  have e2 := put_mid (a.map i64v ++ b.map i64v) (zd 16) (zd 16) (c.map i64v) 32 16 (by simp [ha, hb]) z16
  simp only [List.append_assoc] at e2
  simp only [List.append_assoc]
  rw [e2, fill_part _ _ 3 48 16 _ _ rfl (by simp [hd]) (by simp [z16, ha, hb, hc])]
  have e3 := put_mid (a.map i64v ++ (b.map i64v ++ c.map i64v)) (zd 16) [] (d.map i64v) 48 16 (by simp [ha, hb, hc]) z16
  simp only [List.append_assoc, List.append_nil] at e3
  simp only [List.append_assoc]
  rw [e3]
  rfl
/-- the one of the first state: the second number is left out -/
theorem built_begin (a c d : List Int) (ha : a.length = 16) (hc : c.length = 16) (hd : d.length = 16) :
    Try.prog.built 41 [(0, .agg (a.map i64v).toArray), (2, .agg (c.map i64v).toArray), (3, .agg (d.map i64v).toArray)] = some (ladV a (List.replicate 16 0) c d).toArray := by
  have z16 : (zd 16).length = 16 := rfl
  rw [built_lad, zd_four, fill_part _ _ 0 0 16 _ _ rfl (by simp [ha]) (by simp [z16])]
  have e0 := put_mid [] (zd 16) (zd 16 ++ (zd 16 ++ zd 16)) (a.map i64v) 0 16 rfl z16
  rw [List.nil_append, List.nil_append] at e0
  rw [e0, fill_part _ _ 2 32 16 _ _ rfl (by simp [hc]) (by simp [z16, ha])]
  have e2 := put_mid (a.map i64v ++ zd 16) (zd 16) (zd 16) (c.map i64v) 32 16 (by simp [ha, z16]) z16
  simp only [List.append_assoc] at e2
  simp only [List.append_assoc]
  rw [e2, fill_part _ _ 3 48 16 _ _ rfl (by simp [hd]) (by simp [z16, ha, hc])]
  have e3 := put_mid (a.map i64v ++ (zd 16 ++ c.map i64v)) (zd 16) [] (d.map i64v) 48 16 (by simp [ha, hc, z16]) z16
  simp only [List.append_assoc, List.append_nil] at e3
  simp only [List.append_assoc]
  rw [e3, zd_map]
  rfl
theorem built_isSome {parts : List (Nat × Value)} {v : Array Value} (h : Try.prog.built 41 parts = some v) : (Try.prog.built 41 parts).isSome = true := by rw [h]; rfl

theorem results_lad {fn : Func} {p : Tmp} (h : fn.results = #[.cell p 41]) (tmps : Array Value) (w : World) (g : Nat) (t : TypeId) (cs : List Value)
    (hp : tmps.getD p undef = .pointer (some ⟨g, 0, none⟩)) (hg : Blk w g t cs) (hi : (Try.prog.info? 41).map (·.size) = some cs.length) :
    (results fn tmps).run Try.prog w = .ok (.agg cs.toArray) w := by
  have hp' : tmps[p]?.getD undef = .pointer (some ⟨g, 0, none⟩) := by simpa using hp
  simp [results, h, hp', asAddr, run_loadVar_row (P := Try.prog) w g t 41 cs.toArray (0, 0) _ hg Try.underlying41 rfl (by simpa using hi)]
set_option maxRecDepth 100000 in
theorem refSwapped_any (a b c d : List Int) (ha : a.length = 16) (hb : b.length = 16) (hc : c.length = 16) (hd : d.length = 16) (w : World) :
    Calls Try.prog 20 #[.agg (ladV a b c d).toArray] w fun e w' => e = .returned (.agg (ladV c d a b).toArray) ∧ Below w.heap.size w w' := by
  obtain ⟨ca, hca⟩ : ∃ x, (ladV a b c d).toArray = x := ⟨_, rfl⟩
  rw [hca]
  have HM := Lib.hid (show Mem w [blkE (w.heap.size + 1) 41 (zd 64), blkE w.heap.size 41 (ladV a b c d)] ((w.alloc (.cells ca 41)).alloc (.cells #[.int .i64 0, .int .i64 0, .int .i64 0, .int .i64 0, .int .i64 0, .int .i64 0, .int .i64 0, .int .i64 0, .int .i64 0, .int .i64 0, .int .i64 0, .int .i64 0, .int .i64 0, .int .i64 0, .int .i64 0, .int .i64 0, .int .i64 0, .int .i64 0, .int .i64 0, .int .i64 0, .int .i64 0, .int .i64 0, .int .i64 0, .int .i64 0, .int .i64 0, .int .i64 0, .int .i64 0, .int .i64 0, .int .i64 0, .int .i64 0, .int .i64 0, .int .i64 0, .int .i64 0, .int .i64 0, .int .i64 0, .int .i64 0, .int .i64 0, .int .i64 0, .int .i64 0, .int .i64 0, .int .i64 0, .int .i64 0, .int .i64 0, .int .i64 0, .int .i64 0, .int .i64 0, .int .i64 0, .int .i64 0, .int .i64 0, .int .i64 0, .int .i64 0, .int .i64 0, .int .i64 0, .int .i64 0, .int .i64 0, .int .i64 0, .int .i64 0, .int .i64 0, .int .i64 0, .int .i64 0, .int .i64 0, .int .i64 0, .int .i64 0, .int .i64 0] 41)) from ((Mem.nil w).alloc rfl 41 ca (ladV a b c d) hca.symm).alloc (by simp) 41 #[.int .i64 0, .int .i64 0, .int .i64 0, .int .i64 0, .int .i64 0, .int .i64 0, .int .i64 0, .int .i64 0, .int .i64 0, .int .i64 0, .int .i64 0, .int .i64 0, .int .i64 0, .int .i64 0, .int .i64 0, .int .i64 0, .int .i64 0, .int .i64 0, .int .i64 0, .int .i64 0, .int .i64 0, .int .i64 0, .int .i64 0, .int .i64 0, .int .i64 0, .int .i64 0, .int .i64 0, .int .i64 0, .int .i64 0, .int .i64 0, .int .i64 0, .int .i64 0, .int .i64 0, .int .i64 0, .int .i64 0, .int .i64 0, .int .i64 0, .int .i64 0, .int .i64 0, .int .i64 0, .int .i64 0, .int .i64 0, .int .i64 0, .int .i64 0, .int .i64 0, .int .i64 0, .int .i64 0, .int .i64 0, .int .i64 0, .int .i64 0, .int .i64 0, .int .i64 0, .int .i64 0, .int .i64 0, .int .i64 0, .int .i64 0, .int .i64 0, .int .i64 0, .int .i64 0, .int .i64 0, .int .i64 0, .int .i64 0, .int .i64 0, .int .i64 0] (zd 64) rfl)
  have HL := Lib.hid (And.intro ha (And.intro hb (And.intro hc hd)))
  have hbt := built_four c d a b hc hd ha hb
  obtain ⟨xa, hxa⟩ : ∃ x, (a.map i64v).toArray = x := ⟨_, rfl⟩
  obtain ⟨xb, hxb⟩ : ∃ x, (b.map i64v).toArray = x := ⟨_, rfl⟩
  obtain ⟨xc, hxc⟩ : ∃ x, (c.map i64v).toArray = x := ⟨_, rfl⟩
  obtain ⟨xd, hxd⟩ : ∃ x, (d.map i64v).toArray = x := ⟨_, rfl⟩
  obtain ⟨xr, hxr⟩ : ∃ x, (ladV c d a b).toArray = x := ⟨_, rfl⟩
  rw [hxa, hxb, hxc, hxd, hxr] at hbt
  have HX := Lib.hid (And.intro hxa (And.intro hxb (And.intro hxc (And.intro hxd hxr))))
  have HBT := Lib.hid hbt
  have HLR := Lib.hid (ladV_length c d a b hc hd ha hb)
  clear hca ha hb hc hd hxa hxb hxc hxd hxr hbt
  go_enter Try.func20, Try.ntmps20
  go_upto_region 1 with fail
  generalize ((w.alloc (.cells ca 41)).alloc (.cells #[.int .i64 0, .int .i64 0, .int .i64 0, .int .i64 0, .int .i64 0, .int .i64 0, .int .i64 0, .int .i64 0, .int .i64 0, .int .i64 0, .int .i64 0, .int .i64 0, .int .i64 0, .int .i64 0, .int .i64 0, .int .i64 0, .int .i64 0, .int .i64 0, .int .i64 0, .int .i64 0, .int .i64 0, .int .i64 0, .int .i64 0, .int .i64 0, .int .i64 0, .int .i64 0, .int .i64 0, .int .i64 0, .int .i64 0, .int .i64 0, .int .i64 0, .int .i64 0, .int .i64 0, .int .i64 0, .int .i64 0, .int .i64 0, .int .i64 0, .int .i64 0, .int .i64 0, .int .i64 0, .int .i64 0, .int .i64 0, .int .i64 0, .int .i64 0, .int .i64 0, .int .i64 0, .int .i64 0, .int .i64 0, .int .i64 0, .int .i64 0, .int .i64 0, .int .i64 0, .int .i64 0, .int .i64 0, .int .i64 0, .int .i64 0, .int .i64 0, .int .i64 0, .int .i64 0, .int .i64 0, .int .i64 0, .int .i64 0, .int .i64 0, .int .i64 0] 41)) = w1 at HM ⊢
  go_wp2_with (first
    | (refine wpList_load_off rfl 38 (.tmp 3) rfl w.heap.size 32 rfl (c.map i64v) (by have h := (HM.out.blk 1 rfl).row 32 16; rw [ladV_row2 _ _ _ _ HL.out.1 HL.out.2.1 HL.out.2.2.1 HL.out.2.2.2] at h; exact h) 16 2 Try.underlying38 (cu_cells c HL.out.2.2.1) ?_; rw [HX.out.2.2.1])
    | (refine wpList_load_off rfl 38 (.tmp 5) rfl w.heap.size 48 rfl (d.map i64v) (by have h := (HM.out.blk 1 rfl).row 48 16; rw [ladV_row3 _ _ _ _ HL.out.1 HL.out.2.1 HL.out.2.2.1 HL.out.2.2.2] at h; exact h) 16 2 Try.underlying38 (cu_cells d HL.out.2.2.2) ?_; rw [HX.out.2.2.2.1])
    | (refine wpList_load_off rfl 38 (.tmp 7) rfl w.heap.size 0 rfl (a.map i64v) (by have h := (HM.out.blk 1 rfl).row 0 16; rw [ladV_row0 _ _ _ _ HL.out.1 HL.out.2.1 HL.out.2.2.1 HL.out.2.2.2] at h; exact h) 16 2 Try.underlying38 (cu_cells a HL.out.1) ?_; rw [HX.out.1])
    | (refine wpList_load_off rfl 38 (.tmp 9) rfl w.heap.size 16 rfl (b.map i64v) (by have h := (HM.out.blk 1 rfl).row 16 16; rw [ladV_row1 _ _ _ _ HL.out.1 HL.out.2.1 HL.out.2.2.1 HL.out.2.2.2] at h; exact h) 16 2 Try.underlying38 (cu_cells b HL.out.2.1) ?_; rw [HX.out.2.1])
    | (refine wpList_build_as rfl 41 [(0, .tmp 4), (1, .tmp 6), (2, .tmp 8), (3, .tmp 10)] rfl xr HBT.out ?_)
    | (refine wpList_store_blk rfl 41 (.tmp 2) (.tmp 11) rfl (w.heap.size + 1) (ladV c d a b) rfl (by show Value.agg xr = _; rw [HX.out.2.2.2.2]) 41 (zd 64) (HM.out.blk 0 rfl) (cells64L _ HLR.out) (by rw [HLR.out]; rfl) (ladV_one _ _ _ _) ?_; intro w9 hb9 hg9))
  exact bodyPost_ret (results_lad rfl _ _ (w.heap.size + 1) 41 (ladV c d a b) rfl hb9 (cells64L _ HLR.out)) rfl ⟨rfl, (HM.out.put 0 rfl _ hg9 hb9).bel⟩
end Go.Proofs.Ytgdgecehmnokdaa
