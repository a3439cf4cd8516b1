/-
  The state of the program's ladder in memory, and the contract of its exchange. No statement is proved here.
-/
import Derived.Test.YtgdgecehmnokdaaCuMul
import Derived.Test.YtgdgecehmnokdaaCvPow
namespace Go.Proofs.Ytgdgecehmnokdaa.Cv
open Go.RowKit

/-- two points as four numbers -/
def rungV (a b c d : List Nat) : List Value := a.map uv ++ (b.map uv ++ (c.map uv ++ d.map uv))
theorem rungV_length (a b c d : List Nat) (ha : a.length = 5) (hb : b.length = 5) (hc : c.length = 5) (hd : d.length = 5) : (rungV a b c d).length = 20 := by simp [rungV, ha, hb, hc, hd]
theorem rungV_one (a b c d : List Nat) : ∀ v ∈ rungV a b c d, v.oneCell' = true := by
  intro v hv
  simp only [rungV, List.mem_append] at hv
  rcases hv with h | h | h | h <;> exact uv_one _ v h
theorem row_at5 (p q r : List Value) (m : Nat) (hp : p.length = m) (hq : q.length = 5) : ((p ++ (q ++ r)).drop m).take 5 = q := by
  subst hp
  rw [List.drop_left, ← hq, List.take_left]
theorem rungV_row0 (a b c d : List Nat) (ha : a.length = 5) (_hb : b.length = 5) (_hc : c.length = 5) (_hd : d.length = 5) : ((rungV a b c d).drop 0).take 5 = a.map uv := row_at5 [] _ _ 0 rfl (by simp [ha])
theorem rungV_row1 (a b c d : List Nat) (ha : a.length = 5) (hb : b.length = 5) (_hc : c.length = 5) (_hd : d.length = 5) : ((rungV a b c d).drop 5).take 5 = b.map uv := row_at5 _ _ _ 5 (by simp [ha]) (by simp [hb])
theorem rungV_row2 (a b c d : List Nat) (ha : a.length = 5) (hb : b.length = 5) (hc : c.length = 5) (_hd : d.length = 5) : ((rungV a b c d).drop 10).take 5 = c.map uv := by
  have h := row_at5 (a.map uv ++ b.map uv) (c.map uv) (d.map uv) 10 (by simp [ha, hb]) (by simp [hc])
  rw [List.append_assoc] at h
  exact h
theorem rungV_row3 (a b c d : List Nat) (ha : a.length = 5) (hb : b.length = 5) (hc : c.length = 5) (hd : d.length = 5) : ((rungV a b c d).drop 15).take 5 = d.map uv := by
  have h := row_at5 (a.map uv ++ (b.map uv ++ c.map uv)) (d.map uv) [] 15 (by simp [ha, hb, hc]) (by simp [hd])
  simp only [List.append_assoc, List.append_nil] at h
  exact h
theorem rungV_get0 (a b c d : List Nat) (ha : a.length = 5) (hb : b.length = 5) (hc : c.length = 5) (hd : d.length = 5) (i : Nat) (hi : i < 5) : (rungV a b c d)[0 + i]? = some (.int .u64 (dg a i : Int)) := by
  have h := congrArg (fun l : List Value => l[i]?) (rungV_row0 a b c d ha hb hc hd)
  simp only [List.getElem?_take, hi, if_true, List.getElem?_drop, List.getElem?_map] at h
  rw [h, List.getElem?_eq_getElem (by omega)]
  simp [uv, dg, ha, hi]
theorem rungV_get1 (a b c d : List Nat) (ha : a.length = 5) (hb : b.length = 5) (hc : c.length = 5) (hd : d.length = 5) (i : Nat) (hi : i < 5) : (rungV a b c d)[5 + i]? = some (.int .u64 (dg b i : Int)) := by
  have h := congrArg (fun l : List Value => l[i]?) (rungV_row1 a b c d ha hb hc hd)
  simp only [List.getElem?_take, hi, if_true, List.getElem?_drop, List.getElem?_map] at h
  rw [h, List.getElem?_eq_getElem (by omega)]
  simp [uv, dg, hb, hi]
theorem rungV_get2 (a b c d : List Nat) (ha : a.length = 5) (hb : b.length = 5) (hc : c.length = 5) (hd : d.length = 5) (i : Nat) (hi : i < 5) : (rungV a b c d)[10 + i]? = some (.int .u64 (dg c i : Int)) := by
  have h := congrArg (fun l : List Value => l[i]?) (rungV_row2 a b c d ha hb hc hd)
  simp only [List.getElem?_take, hi, if_true, List.getElem?_drop, List.getElem?_map] at h
  rw [h, List.getElem?_eq_getElem (by omega)]
  simp [uv, dg, hc, hi]
theorem rungV_get3 (a b c d : List Nat) (ha : a.length = 5) (hb : b.length = 5) (hc : c.length = 5) (hd : d.length = 5) (i : Nat) (hi : i < 5) : (rungV a b c d)[15 + i]? = some (.int .u64 (dg d i : Int)) := by
  have h := congrArg (fun l : List Value => l[i]?) (rungV_row3 a b c d ha hb hc hd)
  simp only [List.getElem?_take, hi, if_true, List.getElem?_drop, List.getElem?_map] at h
  rw [h, List.getElem?_eq_getElem (by omega)]
  simp [uv, dg, hd, hi]
theorem rungV_set0 (a b c d : List Nat) (ha : a.length = 5) (_hb : b.length = 5) (_hc : c.length = 5) (_hd : d.length = 5) (i : Nat) (hi : i < 5) (x : Nat) : (rungV a b c d).set (0 + i) (uv x) = rungV (a.set i x) b c d := by
  unfold rungV
  rw [List.map_set]
  rw [Nat.zero_add, List.set_append_left _ _ (by rw [List.length_map, ha]; exact hi)]
theorem rungV_set1 (a b c d : List Nat) (ha : a.length = 5) (hb : b.length = 5) (_hc : c.length = 5) (_hd : d.length = 5) (i : Nat) (hi : i < 5) (x : Nat) : (rungV a b c d).set (5 + i) (uv x) = rungV a (b.set i x) c d := by
  unfold rungV
  rw [List.map_set]
  rw [List.set_append_right _ _ (by rw [List.length_map, ha]; omega), List.length_map, ha]
  rw [show 5 + i - 5 = i by omega]
  rw [List.set_append_left _ _ (by rw [List.length_map, hb]; exact hi)]
theorem rungV_set2 (a b c d : List Nat) (ha : a.length = 5) (hb : b.length = 5) (hc : c.length = 5) (_hd : d.length = 5) (i : Nat) (hi : i < 5) (x : Nat) : (rungV a b c d).set (10 + i) (uv x) = rungV a b (c.set i x) d := by
  unfold rungV
  rw [List.map_set]
  rw [List.set_append_right _ _ (by rw [List.length_map, ha]; omega), List.length_map, ha]
  rw [List.set_append_right _ _ (by rw [List.length_map, hb]; omega), List.length_map, hb]
  rw [show 10 + i - 5 - 5 = i by omega]
  rw [List.set_append_left _ _ (by rw [List.length_map, hc]; exact hi)]
theorem rungV_set3 (a b c d : List Nat) (ha : a.length = 5) (hb : b.length = 5) (hc : c.length = 5) (_hd : d.length = 5) (i : Nat) (hi : i < 5) (x : Nat) : (rungV a b c d).set (15 + i) (uv x) = rungV a b c (d.set i x) := by
  unfold rungV
  rw [List.map_set]
  rw [List.set_append_right _ _ (by rw [List.length_map, ha]; omega), List.length_map, ha]
  rw [List.set_append_right _ _ (by rw [List.length_map, hb]; omega), List.length_map, hb]
  rw [List.set_append_right _ _ (by rw [List.length_map, hc]; omega), List.length_map, hc]
  rw [show 15 + i - 5 - 5 - 5 = i by omega]
theorem rungL (l : List Value) (h : l.length = 20) : (Try.prog.info? 54).map (·.size) = some l.length := by
  rw [h]; kernel_rfl
@[reducible] def vZ20 : Array Value := #[.int .u64 0, .int .u64 0, .int .u64 0, .int .u64 0, .int .u64 0, .int .u64 0, .int .u64 0, .int .u64 0, .int .u64 0, .int .u64 0, .int .u64 0, .int .u64 0, .int .u64 0, .int .u64 0, .int .u64 0, .int .u64 0, .int .u64 0, .int .u64 0, .int .u64 0, .int .u64 0]
@[reducible] def vZ5 : Array Value := #[.int .u64 0, .int .u64 0, .int .u64 0, .int .u64 0, .int .u64 0]
def zr : List Value := List.replicate 20 (.int .u64 0)
theorem zr_split : zr = z5 ++ (z5 ++ (z5 ++ z5)) := rfl
theorem built_rung (parts : List (Nat × Value)) : Try.prog.built 54 parts = Instr.fill (fun i => (#[(0, 5), (5, 5), (10, 5), (15, 5)] : Array (Nat × Nat))[i]?) zr.toArray parts := by kernel_rfl
/-- a state of four numbers -/
theorem built_whole (a b c d : List Nat) (ha : a.length = 5) (hb : b.length = 5) (hc : c.length = 5) (hd : d.length = 5) :
    Try.prog.built 54 [(0, .agg (a.map uv).toArray), (1, .agg (b.map uv).toArray), (2, .agg (c.map uv).toArray), (3, .agg (d.map uv).toArray)] = some (rungV a b c d).toArray := by
  have hz : z5.length = 5 := rfl
  rw [built_rung, zr_split, fill_part _ _ 0 0 5 _ _ rfl (by simp [ha]) (by simp [hz])]
  have e0 := put_mid [] z5 (z5 ++ (z5 ++ z5)) (a.map uv) 0 5 rfl hz
  rw [List.nil_append, List.nil_append] at e0
  rw [e0, fill_part _ _ 1 5 5 _ _ rfl (by simp [hb]) (by simp [hz, ha])]
  rw [put_mid (a.map uv) z5 (z5 ++ z5) (b.map uv) 5 5 (by simp [ha]) hz, fill_part _ _ 2 10 5 _ _ rfl (by simp [hc]) (by simp [hz, ha, hb])]
  have e2 := put_mid (a.map uv ++ b.map uv) z5 z5 (c.map uv) 10 5 (by simp [ha, hb]) hz
  simp only [List.append_assoc] at e2
  simp only [List.append_assoc]
  rw [e2, fill_part _ _ 3 15 5 _ _ rfl (by simp [hd]) (by simp [hz, ha, hb, hc])]
  have e3 := put_mid (a.map uv ++ (b.map uv ++ c.map uv)) z5 [] (d.map uv) 15 5 (by simp [ha, hb, hc]) hz
  simp only [List.append_assoc, List.append_nil] at e3
  simp only [List.append_assoc]
  rw [e3]
  rfl
/-- the first state: the second number is left out -/
theorem built_first (a c d : List Nat) (ha : a.length = 5) (hc : c.length = 5) (hd : d.length = 5) :
    Try.prog.built 54 [(0, .agg (a.map uv).toArray), (2, .agg (c.map uv).toArray), (3, .agg (d.map uv).toArray)] = some (rungV a (List.replicate 5 0) c d).toArray := by
  have hz : z5.length = 5 := rfl
  rw [built_rung, zr_split, fill_part _ _ 0 0 5 _ _ rfl (by simp [ha]) (by simp [hz])]
  have e0 := put_mid [] z5 (z5 ++ (z5 ++ z5)) (a.map uv) 0 5 rfl hz
  rw [List.nil_append, List.nil_append] at e0
  rw [e0, fill_part _ _ 2 10 5 _ _ rfl (by simp [hc]) (by simp [hz, ha])]
  have e2 := put_mid (a.map uv ++ z5) z5 z5 (c.map uv) 10 5 (by simp [ha, hz]) hz
  simp only [List.append_assoc] at e2
  simp only [List.append_assoc]
  rw [e2, fill_part _ _ 3 15 5 _ _ rfl (by simp [hd]) (by simp [hz, ha, hc])]
  have e3 := put_mid (a.map uv ++ (z5 ++ c.map uv)) z5 [] (d.map uv) 15 5 (by simp [ha, hc, hz]) hz
  simp only [List.append_assoc, List.append_nil] at e3
  simp only [List.append_assoc]
  rw [e3, z5_map]
  rfl
theorem results_rung {fn : Func} {p : Tmp} (h : fn.results = #[.cell p 54]) (tmps : Array Value) (w : World) (g : Nat) (t : TypeId) (cs : List Value)
    (hp : tmps.getD p undef = .pointer (some ⟨g, 0, none⟩)) (hg : Blk w g t cs) (hi : (Try.prog.info? 54).map (·.size) = some cs.length) :
    (results fn tmps).run Try.prog w = .ok (.agg cs.toArray) w := by
  have hp' : tmps[p]?.getD undef = .pointer (some ⟨g, 0, none⟩) := by simpa using hp
  simp [results, h, hp', asAddr, run_loadVar_row (P := Try.prog) w g t 54 cs.toArray (0, 0) _ hg Try.underlying54 rfl (by simpa using hi)]
theorem wpList_load_rung {ops : Array Oper} {rest : List Oper} {o : Oper} {a : Act} {w : World} {Q : Exit → Act → World → Prop} (hgd : o.guard = none) (x : Operand) (ho : o.op = .load 54 x)
    (g : Nat) (hx : a.eval x = .pointer (some ⟨g, 0, none⟩)) (t : TypeId) (cs : List Value) (hg : Blk w g t cs) (hi : (Try.prog.info? 54).map (·.size) = some cs.length)
    (h : wpList Try.prog ops Q rest (a.put o.dst (.agg cs.toArray)) w) : wpList Try.prog ops Q (o :: rest) a w :=
  wpList_plain hgd fun K hK => by
    unfold Oper.wp execOp
    simp only [ho, hx, Instr.loadAt, Instr.sureAddr, Sem.run_bind, Sem.run_pure, Result.andThen_ok, run_loadVar_row (P := Try.prog) w g t 54 cs.toArray (0, 0) _ hg Try.underlying54 rfl (by simpa using hi)]
    exact hK _ _ h
theorem yields_load_rung {ops : Array Oper} {S : World → Prop} {o : Oper} {a : Act} (hw : Region.wanted o (yielded ops a.tmps) = true) (x : Operand) (ho : o.op = .load 54 x)
    (g : Nat) (hx : a.eval x = .pointer (some ⟨g, 0, none⟩)) (t : TypeId) (cs : List Value) (hS : ∀ w, S w → Blk w g t cs) (hi : (Try.prog.info? 54).map (·.size) = some cs.length) :
    YieldsIf Try.prog ops S o (.agg cs.toArray) a := by
  refine Or.inl ⟨hw, fun w hSw => ?_⟩
  simp only [execOp, ho, hx, Instr.loadAt, Instr.sureAddr, Sem.run_bind, Sem.run_pure, Result.andThen_ok, run_loadVar_row (P := Try.prog) w g t 54 cs.toArray (0, 0) _ (hS w hSw) Try.underlying54 rfl (by simpa using hi)]
/-! the exchange -/
def swF (s : Bool) (a c : List Nat) (i : Nat) : Nat := if s then dg c i else dg a i
def swL (s : Bool) (a c : List Nat) : List Nat := if s then c else a
theorem swF_all (s : Bool) (a c : List Nat) (ha : a.length = 5) (hc : c.length = 5) : upd (swF s a c) a 5 = swL s a c := by
  rw [upd_all _ _ ha]
  cases s
  · exact (list5 a ha).symm
  · exact (list5 c hc).symm
def swap1 (s : Bool) : Nat := if s then 1 else 0
def maskS (s : Bool) : Nat := if s then 18446744073709551615 else 0
theorem neg_mask (s : Bool) : IntKind.u64.wrap (-(swap1 s : Int)) = (maskS s : Int) := by cases s <;> rfl
theorem xor_cancel (a c : Nat) : a ^^^ (a ^^^ c) = c := by rw [← Nat.xor_assoc, Nat.xor_self, Nat.zero_xor]
theorem xor_cancel2 (a c : Nat) : c ^^^ (a ^^^ c) = a := by rw [Nat.xor_comm a c, xor_cancel]
/-- one limb of each -/
theorem limb_swap (s : Bool) (a c : Nat) (ha : a < 18446744073709551616) (hc : c < 18446744073709551616) : ∃ p q : Nat, bits BinOp.xor IntKind.u64 (a : Int) (c : Int) = (p : Int) ∧ bits BinOp.and IntKind.u64 (maskS s : Int) (p : Int) = (q : Int) ∧
    bits BinOp.xor IntKind.u64 (a : Int) (q : Int) = ((if s then c else a : Nat) : Int) ∧ bits BinOp.xor IntKind.u64 (c : Int) (q : Int) = ((if s then a else c : Nat) : Int) := by
  have hp : a ^^^ c < 18446744073709551616 := Nat.xor_lt_two_pow (n := 64) ha hc
  have hm : maskS s < 18446744073709551616 := by cases s <;> decide
  have hq : (maskS s) &&& (a ^^^ c) = if s then a ^^^ c else 0 := by
    cases s
    · exact Nat.zero_and _
    · show 18446744073709551615 &&& (a ^^^ c) = a ^^^ c
      rw [Nat.and_comm]
      have := Nat.and_two_pow_sub_one_eq_mod (a ^^^ c) 64
      rw [Nat.mod_eq_of_lt hp] at this
      exact this
  refine ⟨a ^^^ c, if s then a ^^^ c else 0, ?_, ?_, ?_, ?_⟩
  · exact u64_xor_nat _ _ ha hc
  · rw [u64_and_nat _ _ hm hp, hq]
  · cases s
    · show bits BinOp.xor IntKind.u64 (a : Int) ((0 : Nat) : Int) = (a : Int)
      rw [u64_xor_nat _ _ ha (by omega), Nat.xor_zero]
    · show bits BinOp.xor IntKind.u64 (a : Int) ((a ^^^ c : Nat) : Int) = (c : Int)
      rw [u64_xor_nat _ _ ha hp, xor_cancel]
  · cases s
    · show bits BinOp.xor IntKind.u64 (c : Int) ((0 : Nat) : Int) = (c : Int)
      rw [u64_xor_nat _ _ hc (by omega), Nat.xor_zero]
    · show bits BinOp.xor IntKind.u64 (c : Int) ((a ^^^ c : Nat) : Int) = (a : Int)
      rw [u64_xor_nat _ _ hc hp, xor_cancel2]

set_option maxRecDepth 100000 in
set_option maxHeartbeats 4000000 in
theorem exchange_any (s : Bool) (a b c d : List Nat) (ha : SmallN a) (hb : SmallN b) (hc : SmallN c) (hd : SmallN d) (w : World) :
    Calls Try.prog 28 #[.agg (rungV a b c d).toArray, .int .u64 (swap1 s : Int)] w fun e w' => e = .returned (.agg (rungV (swL s a c) (swL s b d) (swL s c a) (swL s d b)).toArray) ∧ Below w.heap.size w w' := by
  obtain ⟨cr, hcr⟩ : ∃ x, (rungV a b c d).toArray = x := ⟨_, rfl⟩
  rw [hcr]
  have hneg := neg_mask s
  have HLS := Lib.hid (show ∀ x y, bits BinOp.xor IntKind.u64 x y = bits BinOp.xor IntKind.u64 x y from fun _ _ => rfl)
  have HM := Lib.hid (show Mem w [blkE (w.heap.size + 1) 54 zr, blkE w.heap.size 54 (rungV a b c d)] ((w.alloc (.cells cr 54)).alloc (.cells #[.int .u64 0, .int .u64 0, .int .u64 0, .int .u64 0, .int .u64 0, .int .u64 0, .int .u64 0, .int .u64 0, .int .u64 0, .int .u64 0, .int .u64 0, .int .u64 0, .int .u64 0, .int .u64 0, .int .u64 0, .int .u64 0, .int .u64 0, .int .u64 0, .int .u64 0, .int .u64 0] 54)) from ((Mem.nil w).alloc rfl 54 cr (rungV a b c d) hcr.symm).alloc (by simp) 54 #[.int .u64 0, .int .u64 0, .int .u64 0, .int .u64 0, .int .u64 0, .int .u64 0, .int .u64 0, .int .u64 0, .int .u64 0, .int .u64 0, .int .u64 0, .int .u64 0, .int .u64 0, .int .u64 0, .int .u64 0, .int .u64 0, .int .u64 0, .int .u64 0, .int .u64 0, .int .u64 0] zr rfl)
  have HC := Lib.hid hcr
  have HLEN := Lib.hid (rungV_length a b c d ha.1 hb.1 hc.1 hd.1)
  have HL := Lib.hid (And.intro ha (And.intro hb (And.intro hc hd)))
  have HSW := Lib.hid (fun x y : Nat => limb_swap s x y)
  obtain ⟨mk, hmk⟩ : ∃ m, maskS s = m := ⟨_, rfl⟩
  rw [hmk] at hneg
  simp only [hmk] at HSW
  clear hcr ha hb hc hd hmk HLS
  go_enter Try.func28, Try.ntmps28
  go_upto_region 2 with fail
  clear hneg
  generalize ((w.alloc (.cells cr 54)).alloc (.cells #[.int .u64 0, .int .u64 0, .int .u64 0, .int .u64 0, .int .u64 0, .int .u64 0, .int .u64 0, .int .u64 0, .int .u64 0, .int .u64 0, .int .u64 0, .int .u64 0, .int .u64 0, .int .u64 0, .int .u64 0, .int .u64 0, .int .u64 0, .int .u64 0, .int .u64 0, .int .u64 0] 54)) = w1 at HM ⊢
  have HA := Lib.hid (show Mem w [blkE w1.heap.size 54 zr, blkE (w.heap.size + 1) 54 zr, blkE w.heap.size 54 (rungV a b c d)] (w1.alloc (.cells #[.int .u64 0, .int .u64 0, .int .u64 0, .int .u64 0, .int .u64 0, .int .u64 0, .int .u64 0, .int .u64 0, .int .u64 0, .int .u64 0, .int .u64 0, .int .u64 0, .int .u64 0, .int .u64 0, .int .u64 0, .int .u64 0, .int .u64 0, .int .u64 0, .int .u64 0, .int .u64 0] 54)) from HM.out.alloc rfl 54 #[.int .u64 0, .int .u64 0, .int .u64 0, .int .u64 0, .int .u64 0, .int .u64 0, .int .u64 0, .int .u64 0, .int .u64 0, .int .u64 0, .int .u64 0, .int .u64 0, .int .u64 0, .int .u64 0, .int .u64 0, .int .u64 0, .int .u64 0, .int .u64 0, .int .u64 0, .int .u64 0] zr rfl)
  go_upto_region 3 with (first | (refine wpList_load_rung rfl (.tmp 2) rfl w.heap.size rfl 54 (rungV a b c d) (HM.out.blk 1 rfl) (rungL _ HLEN.out) ?_; rw [HC.out]) | (refine wpList_store_blk rfl 54 (.tmp 6) (.tmp 12) rfl w1.heap.size (rungV a b c d) rfl (by show Value.agg cr = _; rw [HC.out]) 54 zr (HA.out.blk 0 rfl) (rungL _ HLEN.out) (by rw [HLEN.out]; rfl) (rungV_one _ _ _ _) ?_; intro w2 hb9 hg9))
  (try simp only [Act.put])
  replace HM := Lib.hid (show Mem w [blkE w1.heap.size 54 (rungV (upd (swF s a c) a 0) (upd (swF s b d) b 0) (upd (swF s c a) c 0) (upd (swF s d b) d 0)), blkE (w.heap.size + 1) 54 zr, blkE w.heap.size 54 (rungV a b c d)] w2 from HA.out.put 0 rfl _ hg9 hb9)
  clear HA hb9 hg9
  generalize w1.heap.size = G at HM ⊢
  go_wp2_with fail
  go_loopw [13, 7] (fun z _ wr => ∃ n : Nat, n ≤ 5 ∧ z = .int .i64 (n : Int) ∧ Mem w [blkE G 54 (rungV (upd (swF s a c) a n) (upd (swF s b d) b n) (upd (swF s c a) c n) (upd (swF s d b) d n)), blkE (w.heap.size + 1) 54 zr, blkE w.heap.size 54 (rungV a b c d)] wr) (fun z _ _ => 5 - (intOf z).toNat)
  case atStart => exact ⟨0, by omega, rfl, HM.out⟩
  case round =>
    clear HM
    obtain ⟨n, hn, rfl, hM⟩ := hrel
    have HM := Lib.hid hM
    clear hM
    by_cases hln : n < 5
    · have d5 : decide ((n : Int) < 5) = true := by simp; omega
      have bn : (n : Int) < 5 := by omega
      have hua : dg (upd (swF s a c) a n) n = dg a n := by rw [upd_dg _ _ _ _ (by rw [HL.out.1.1]; omega), if_neg (by omega)]
      have hla : (upd (swF s a c) a n).length = 5 := by rw [upd_length]; exact HL.out.1.1
      have hna : upd (swF s a c) a (n + 1) = (upd (swF s a c) a n).set n (if s then dg c n else dg a n) := rfl
      have hba := HL.out.1.le n
      have hub : dg (upd (swF s b d) b n) n = dg b n := by rw [upd_dg _ _ _ _ (by rw [HL.out.2.1.1]; omega), if_neg (by omega)]
      have hlb : (upd (swF s b d) b n).length = 5 := by rw [upd_length]; exact HL.out.2.1.1
      have hnb : upd (swF s b d) b (n + 1) = (upd (swF s b d) b n).set n (if s then dg d n else dg b n) := rfl
      have hbb := HL.out.2.1.le n
      have huc : dg (upd (swF s c a) c n) n = dg c n := by rw [upd_dg _ _ _ _ (by rw [HL.out.2.2.1.1]; omega), if_neg (by omega)]
      have hlc : (upd (swF s c a) c n).length = 5 := by rw [upd_length]; exact HL.out.2.2.1.1
      have hnc : upd (swF s c a) c (n + 1) = (upd (swF s c a) c n).set n (if s then dg a n else dg c n) := rfl
      have hbc := HL.out.2.2.1.le n
      have hud : dg (upd (swF s d b) d n) n = dg d n := by rw [upd_dg _ _ _ _ (by rw [HL.out.2.2.2.1]; omega), if_neg (by omega)]
      have hld : (upd (swF s d b) d n).length = 5 := by rw [upd_length]; exact HL.out.2.2.2.1
      have hnd : upd (swF s d b) d (n + 1) = (upd (swF s d b) d n).set n (if s then dg b n else dg d n) := rfl
      have hbd := HL.out.2.2.2.le n
      generalize hLa : upd (swF s a c) a n = A at HM hua hla hna
      generalize hLb : upd (swF s b d) b n = B at HM hub hlb hnb
      generalize hLc : upd (swF s c a) c n = C at HM huc hlc hnc
      generalize hLd : upd (swF s d b) d n = D at HM hud hld hnd
      clear hLa hLb hLc hLd
      have fsa := ((HM.out.blk 2 rfl).cell (0 + n)).trans (rungV_get0 a b c d HL.out.1.1 HL.out.2.1.1 HL.out.2.2.1.1 HL.out.2.2.2.1 n hln)
      have fsb := ((HM.out.blk 2 rfl).cell (5 + n)).trans (rungV_get1 a b c d HL.out.1.1 HL.out.2.1.1 HL.out.2.2.1.1 HL.out.2.2.2.1 n hln)
      have fsc := ((HM.out.blk 2 rfl).cell (10 + n)).trans (rungV_get2 a b c d HL.out.1.1 HL.out.2.1.1 HL.out.2.2.1.1 HL.out.2.2.2.1 n hln)
      have fsd := ((HM.out.blk 2 rfl).cell (15 + n)).trans (rungV_get3 a b c d HL.out.1.1 HL.out.2.1.1 HL.out.2.2.1.1 HL.out.2.2.2.1 n hln)
      obtain ⟨p1, q1, e1, e2, e3, e4⟩ := HSW.out (dg a n) (dg c n) (by omega) (by omega)
      obtain ⟨p2, q2, e5, e6, e7, e8⟩ := HSW.out (dg b n) (dg d n) (by omega) (by omega)
      have HV := Lib.hid (And.intro hna (And.intro hnb (And.intro hnc hnd)))
      have HU := Lib.hid (And.intro hua (And.intro hub (And.intro huc hud)))
      have HLL := Lib.hid (And.intro hla (And.intro hlb (And.intro hlc hld)))
      clear hna hnb hnc hnd hua hub huc hud hla hlb hlc hld hba hbb hbc hbd
      obtain ⟨va, hva⟩ : ∃ v, (if s then dg c n else dg a n) = v := ⟨_, rfl⟩
      obtain ⟨vb, hvb⟩ : ∃ v, (if s then dg d n else dg b n) = v := ⟨_, rfl⟩
      obtain ⟨vc, hvc⟩ : ∃ v, (if s then dg a n else dg c n) = v := ⟨_, rfl⟩
      obtain ⟨vd, hvd⟩ : ∃ v, (if s then dg b n else dg d n) = v := ⟨_, rfl⟩
      rw [hva, hvb, hvc, hvd] at HV
      rw [hva] at e3
      rw [hvc] at e4
      rw [hvb] at e7
      rw [hvd] at e8
      clear hva hvb hvc hvd
      generalize dg a n = xa at HU fsa e1 e3
      generalize dg b n = xb at HU fsb e5 e7
      generalize dg c n = xc at HU fsc e1 e4
      generalize dg d n = xd at HU fsd e5 e8
      have HE := Lib.hid (And.intro e3 (And.intro e4 (And.intro e7 e8)))
      clear e3 e4 e7 e8
      (try rw [Nat.zero_add] at fsa)
      go_upto_region 6 with fail
      go_region
      go_upto_region 7 with fail
      go_region
      clear fsa fsb fsc fsd e1 e2 e5 e6
      have HM2 := Lib.hid (show Mem w [blkE G 54 (rungV A B C D), blkE (w.heap.size + 1) 54 zr, blkE w.heap.size 54 (rungV a b c d)] wr.drew.drew from HM.out.drew.drew)
      clear HM
      generalize wr.drew.drew = w3 at HM2 ⊢
      have fx := ((HM2.out.blk 0 rfl).cell (0 + n)).trans (rungV_get0 A B C D HLL.out.1 HLL.out.2.1 HLL.out.2.2.1 HLL.out.2.2.2 n hln)
      rw [HU.out.1] at fx
      have zx := (HM2.out.blk 0 rfl).frozen (0 + n)
      have ex := HE.out.1
      have HN := Lib.hid (show Mem w [blkE G 54 (rungV (A.set n va) B C D), blkE (w.heap.size + 1) 54 zr, blkE w.heap.size 54 (rungV a b c d)] (w3.setCell ⟨G, 0 + n, none⟩ (.int .u64 (va : Int))) from by have h := HM2.out.setCell 0 rfl (0 + n) (uv va); rw [rungV_set0 A B C D HLL.out.1 HLL.out.2.1 HLL.out.2.2.1 HLL.out.2.2.2 n hln] at h; exact h)
      rw [Nat.zero_add] at fx zx HN
      clear HM2
      go_upto_region 9 with fail
      generalize w3.setCell ⟨G, n, none⟩ (.int .u64 (va : Int)) = w4 at HN ⊢
      clear fx zx ex
      have HM2 := HN
      clear HN
      have fx := ((HM2.out.blk 0 rfl).cell (10 + n)).trans (rungV_get2 (A.set n va) B C D ((List.length_set).trans HLL.out.1) HLL.out.2.1 HLL.out.2.2.1 HLL.out.2.2.2 n hln)
      rw [HU.out.2.2.1] at fx
      have zx := (HM2.out.blk 0 rfl).frozen (10 + n)
      have ex := HE.out.2.1
      have HN := Lib.hid (show Mem w [blkE G 54 (rungV (A.set n va) B (C.set n vc) D), blkE (w.heap.size + 1) 54 zr, blkE w.heap.size 54 (rungV a b c d)] (w4.setCell ⟨G, 10 + n, none⟩ (.int .u64 (vc : Int))) from by have h := HM2.out.setCell 0 rfl (10 + n) (uv vc); rw [rungV_set2 (A.set n va) B C D ((List.length_set).trans HLL.out.1) HLL.out.2.1 HLL.out.2.2.1 HLL.out.2.2.2 n hln] at h; exact h)
      clear HM2
      go_upto_region 10 with fail
      generalize w4.setCell ⟨G, 10 + n, none⟩ (.int .u64 (vc : Int)) = w5 at HN ⊢
      clear fx zx ex
      have HM2 := HN
      clear HN
      have fx := ((HM2.out.blk 0 rfl).cell (5 + n)).trans (rungV_get1 (A.set n va) B (C.set n vc) D ((List.length_set).trans HLL.out.1) HLL.out.2.1 ((List.length_set).trans HLL.out.2.2.1) HLL.out.2.2.2 n hln)
      rw [HU.out.2.1] at fx
      have zx := (HM2.out.blk 0 rfl).frozen (5 + n)
      have ex := HE.out.2.2.1
      have HN := Lib.hid (show Mem w [blkE G 54 (rungV (A.set n va) (B.set n vb) (C.set n vc) D), blkE (w.heap.size + 1) 54 zr, blkE w.heap.size 54 (rungV a b c d)] (w5.setCell ⟨G, 5 + n, none⟩ (.int .u64 (vb : Int))) from by have h := HM2.out.setCell 0 rfl (5 + n) (uv vb); rw [rungV_set1 (A.set n va) B (C.set n vc) D ((List.length_set).trans HLL.out.1) HLL.out.2.1 ((List.length_set).trans HLL.out.2.2.1) HLL.out.2.2.2 n hln] at h; exact h)
      clear HM2
      go_upto_region 11 with fail
      generalize w5.setCell ⟨G, 5 + n, none⟩ (.int .u64 (vb : Int)) = w6 at HN ⊢
      clear fx zx ex
      have HM2 := HN
      clear HN
      have fx := ((HM2.out.blk 0 rfl).cell (15 + n)).trans (rungV_get3 (A.set n va) (B.set n vb) (C.set n vc) D ((List.length_set).trans HLL.out.1) ((List.length_set).trans HLL.out.2.1) ((List.length_set).trans HLL.out.2.2.1) HLL.out.2.2.2 n hln)
      rw [HU.out.2.2.2] at fx
      have zx := (HM2.out.blk 0 rfl).frozen (15 + n)
      have ex := HE.out.2.2.2
      have HN := Lib.hid (show Mem w [blkE G 54 (rungV (A.set n va) (B.set n vb) (C.set n vc) (D.set n vd)), blkE (w.heap.size + 1) 54 zr, blkE w.heap.size 54 (rungV a b c d)] (w6.setCell ⟨G, 15 + n, none⟩ (.int .u64 (vd : Int))) from by have h := HM2.out.setCell 0 rfl (15 + n) (uv vd); rw [rungV_set3 (A.set n va) (B.set n vb) (C.set n vc) D ((List.length_set).trans HLL.out.1) ((List.length_set).trans HLL.out.2.1) ((List.length_set).trans HLL.out.2.2.1) HLL.out.2.2.2 n hln] at h; exact h)
      clear HM2
      go_upto_region 12 with fail
      generalize w6.setCell ⟨G, 15 + n, none⟩ (.int .u64 (vd : Int)) = w7 at HN ⊢
      clear fx zx ex
      have HM2 := HN
      clear HN
      go_wp2_with fail
      go_roundw
      case rel => exact ⟨n + 1, by omega, by go_num, by rw [HV.out.1, HV.out.2.1, HV.out.2.2.1, HV.out.2.2.2]; exact HM2.out⟩
      case measure => simp [intOf]; omega
    · obtain rfl : n = 5 := by omega
      rw [swF_all s a c HL.out.1.1 HL.out.2.2.1.1, swF_all s b d HL.out.2.1.1 HL.out.2.2.2.1, swF_all s c a HL.out.2.2.1.1 HL.out.1.1, swF_all s d b HL.out.2.2.2.1 HL.out.2.1.1] at HM
      have hlz : ∀ x y : List Nat, x.length = 5 → y.length = 5 → (swL s x y).length = 5 := fun x y h1 h2 => by cases s; exact h1; exact h2
      have hzl := rungV_length (swL s a c) (swL s b d) (swL s c a) (swL s d b) (hlz _ _ HL.out.1.1 HL.out.2.2.1.1) (hlz _ _ HL.out.2.1.1 HL.out.2.2.2.1) (hlz _ _ HL.out.2.2.1.1 HL.out.1.1) (hlz _ _ HL.out.2.2.2.1 HL.out.2.1.1)
      have hzo := rungV_one (swL s a c) (swL s b d) (swL s c a) (swL s d b)
      obtain ⟨z, hz⟩ : ∃ z, rungV (swL s a c) (swL s b d) (swL s c a) (swL s d b) = z := ⟨_, rfl⟩
      rw [hz] at HM hzl hzo
      have HZ := Lib.hid hz
      obtain ⟨cz, hcz⟩ : ∃ x, z.toArray = x := ⟨_, rfl⟩
      have HCZ := Lib.hid (And.intro hcz (And.intro hzl hzo))
      clear hz hzl hzo hcz hlz
      (try rw [show ((5 : Nat) : Int) = 5 from rfl])
      go_wp2_with (first | (refine wpList_load_rung rfl (.tmp 6) rfl G rfl 54 z (HM.out.blk 0 rfl) (rungL _ HCZ.out.2.1) ?_; rw [HCZ.out.1]) | (refine wpList_store_blk rfl 54 (.tmp 4) (.tmp 71) rfl (w.heap.size + 1) z rfl (by show Value.agg cz = _; rw [HCZ.out.1]) 54 zr (HM.out.blk 1 rfl) (rungL _ HCZ.out.2.1) (by rw [HCZ.out.2.1]; rfl) HCZ.out.2.2 ?_; intro w9 hb9 hg9))
      exact bodyPost_ret (results_rung rfl _ _ (w.heap.size + 1) 54 z rfl hb9 (rungL _ HCZ.out.2.1)) rfl ⟨by rw [HZ.out], (HM.out.put 1 rfl _ hg9 hb9).bel⟩
end Go.Proofs.Ytgdgecehmnokdaa.Cv
