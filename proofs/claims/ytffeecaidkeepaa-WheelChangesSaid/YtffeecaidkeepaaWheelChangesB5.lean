/-
  A slice built of arrays of one size: its block holds them one behind the other. A quick look whether an operation is the one that is meant. The remainder that is not negative. The contract of burrowcase.Mod64 for a modulus of at least 1. append of a slice, and of a made one (zeros), onto a row of bytes of the call's own. The walk of WheelChanges. The contracts of cmp.Compare. The contract of cmp.Or for numbers. The mathematics of time stamps over lists of bytes; no function of the program is named here. The contract of bytes.Compare for two rows of bytes. The sign of a comparison of rows of bytes. No statement is proved here.
-/
import Derived.Lib.AppendZerosOnto
import Derived.RegionTactic
import Derived.Deep.DeepCutAuto
import Derived.Lib.BytesEntry
import Derived.Lib.Bytealg
import Derived.Laws.Externs
import Derived.Test.YtffeecaidkeepaaWheelChangesB4
namespace Go.Proofs.Ytffeecaidkeepaa
open Go.RowKit

theorem fill_rows (n : Nat) : ∀ (rows : List (List Value)) (j : Nat) (base : Array Value), (∀ r ∈ rows, r.length = n) → base.size = (j + rows.length) * n →
    Instr.fill (fun i => some (i * n, n)) base ((rows.zipIdx j).map fun x => (x.2, Value.agg x.1.toArray)) = some (base.toList.take (j * n) ++ rows.flatten).toArray
  | [], j, base, _, hb => by
    have : base.toList.take (j * n) = base.toList := List.take_of_length_le (by simp at hb ⊢; omega)
    rw [this]
    simp [Instr.fill]
  | r :: rows, j, base, hr, hb => by
    have hrl : r.length = n := hr r (by simp)
    have hb2 : j * n + n + rows.length * n = base.size := by rw [hb, List.length_cons, show j + (rows.length + 1) = j + 1 + rows.length by omega, Nat.add_mul, Nat.succ_mul]
    have h1 : (r.toArray.zipIdx.foldl (fun cs (x : Value × Nat) => cs.setIfInBounds (j * n + x.2) x.1) base).toList = base.toList.take (j * n) ++ r ++ base.toList.drop (j * n + r.length) := by
      have := foldl_set_list (j * n) r 0 base (by simp; omega)
      rw [← Array.foldl_toList]
      simpa using this
    have hs : (r.toArray.zipIdx.foldl (fun cs (x : Value × Nat) => cs.setIfInBounds (j * n + x.2) x.1) base).size = base.size := by
      rw [← Array.length_toList, h1]
      simp
      omega
    rw [List.zipIdx_cons, List.map_cons]
    refine (if_neg (two_tests (fun hne => hne (show r.toArray.size = n by simpa using hrl)) (fun hlt : j * n + r.toArray.size > base.size => by simp at hlt; omega))).trans ?_
    have ih := fill_rows n rows (j + 1) _ (fun x hx => hr x (List.mem_cons_of_mem _ hx)) (show (r.toArray.zipIdx.foldl (fun cs (x : Value × Nat) => cs.setIfInBounds (j * n + x.2) x.1) base).size = (j + 1 + rows.length) * n by rw [hs, hb, List.length_cons]; congr 1; omega)
    refine ih.trans ?_
    rw [h1, List.flatten_cons, Nat.succ_mul]
    congr 2
    rw [List.take_append_of_le_length (by simp; omega), List.take_of_length_le (by simp; omega), List.append_assoc]
theorem wpList_buildRows {P : Program} {w : World} {ops : Array Oper} {rest : List Oper} {o : Oper} {act : Act} {Q : Exit → Act → World → Prop} (hgd : o.guard = none) (ty e : TypeId) (k : Nat) (parts : List (Nat × Operand)) (ho : o.op = .buildSlice ty k parts.toArray)
    (rows : List (List Value)) (hk : rows.length = k) (hp : (parts.map fun p => (p.1, act.eval p.2)) = (rows.zipIdx 0).map fun x => (x.2, Value.agg x.1.toArray)) (n : Nat) (hu : P.underlying ty = some (.slice e)) (i : TypeInfo) (hi : P.info? e = some i) (hs : i.size = n) (z : Value) (hz : i.zero = some z) (hn0 : 0 < n) (hk0 : 0 < k) (hn1 : k * n ≤ 1000) (ha : ∀ r ∈ rows, r.length = n)
    (h : wpList P ops Q rest (act.put o.dst (.slice (some ⟨w.heap.size, 0, none⟩) k k)) (w.alloc (.cells rows.flatten.toArray e))) : wpList P ops Q (o :: rest) act w :=
  wpList_plain hgd fun K hK => by
    unfold Oper.wp execOp
    have hf := fun z : Array Value => fill_rows n rows 0 ((Array.range (k * n)).map (z[· % z.size]!)) ha (by simp [hk])
    have h24 : ¬ k * n > 2 ^ 24 := by omega
    have h20 : ¬ k * n = 0 := by have := Nat.mul_pos hk0 hn0; omega
    simp only [ho, Instr.buildSlice, Sem.run_bind, run_underlying hu, sizeOf, zeroValue, typeInfo, Result.andThen_ok]
    simp only [Nat.zero_mul, List.take_zero, List.nil_append] at hf
    have hf2 := hf z.cells
    simp [hi, hs, hz, h24, h20, newRow, hp, hf2]
    exact hK _ _ h
end Go.Proofs.Ytffeecaidkeepaa
namespace Go.Proofs.Ytffeecaidkeepaa
open Go.RowKit

theorem at_op {P : Program} {w : World} {ops : Array Oper} {rest : List Oper} {o : Oper} {a : Act} {Q : Exit → Act → World → Prop} (p : Op) (_ : o.op = p) (h : wpList P ops Q (o :: rest) a w) : wpList P ops Q (o :: rest) a w := h
end Go.Proofs.Ytffeecaidkeepaa
namespace Go.Proofs.Ytffeecaidkeepaa
open Go.RowKit

theorem mod_twice (x : Int) (n : Nat) (h1 : 1 ≤ n) : (x.tmod (n : Int) + (n : Int)).tmod (n : Int) = x % (n : Int) := by
  have hb : -(n : Int) < x.tmod n := Int.lt_tmod_of_pos x (by omega)
  rw [Int.tmod_eq_emod_of_nonneg (by omega)]
  have e : x.tmod (n : Int) + (n : Int) = x + (n : Int) * (1 - x.tdiv n) := by
    have h := Int.mul_tdiv_add_tmod x n
    rw [Int.mul_sub, Int.mul_one]
    omega
  rw [e, Int.add_mul_emod_self_left]
end Go.Proofs.Ytffeecaidkeepaa
namespace Go.Proofs.Ytffeecaidkeepaa
open Go.RowKit

set_option maxRecDepth 100000 in
theorem mod64_any (x : Int) (n : Nat) (h1 : 1 ≤ n) (h2 : n ≤ 4611686018427387904) (w : World) :
    Calls Try.prog 7 #[.int .i64 x, .int .i64 (n : Int)] w fun e w' => e = .returned (.int .i64 (x % (n : Int))) ∧ w = w' := by
  have d1 : decide ((n : Int) < 1) = false := by simp; omega
  have hn : ¬ (n : Int) = 0 := by omega
  have hm := mod_twice x n h1
  have b1 : -(n : Int) < x.tmod n := Int.lt_tmod_of_pos x (by omega)
  have b2 : x.tmod n < n := Int.tmod_lt_of_pos x (by omega)
  have hw : wrap64 (x.tmod (n : Int) + (n : Int)) = x.tmod (n : Int) + (n : Int) := IntWalk.wrap64_in _ (by omega)
  clear b1 b2
  go_enter Try.func7, Try.ntmps7
  go_wp2
  go_ret
  exact ⟨rfl, rfl⟩
end Go.Proofs.Ytffeecaidkeepaa
namespace Go.Proofs.Ytffeecaidkeepaa
open Go.RowKit

/-- min of two numbers, by a name for what it gives -/
theorem wpList_min_int {P : Program} {w : World} {ops : Array Oper} {rest : List Oper} {o : Oper} {a : Act} {Q : Exit → Act → World → Prop} (hgd : o.guard = none) (x y : Operand) (ts : Array TypeId) (ho : o.op = .call { callee := .builtin .min, args := #[x, y], argTypes := ts })
    (u v m : Int) (hx : a.eval x = .int .i64 u) (hy : a.eval y = .int .i64 v) (hm : min u v = m) (h : wpList P ops Q rest (a.put o.dst (.int .i64 m)) w) : wpList P ops Q (o :: rest) a w :=
  wpList_plain hgd fun K hK => by
    have hr : (Builtin.min_ ts o.type #[.int .i64 u, .int .i64 v]).run P w = .ok (.int .i64 m) w := by
      subst hm
      by_cases huv : u ≤ v
      · rw [Int.min_eq_left huv]
        simp [Builtin.min_, Builtin.min2]
        try omega
      · rw [Int.min_eq_right (by omega)]
        simp [Builtin.min_, Builtin.min2]
        try omega
    unfold Oper.wp execOp
    simp only [ho, resolve, invoke, builtin, Sem.run_bind, Sem.run_pure, Result.andThen_ok, List.map_toArray, List.map_cons, List.map_nil, hx, hy, hr]
    exact hK _ _ h
end Go.Proofs.Ytffeecaidkeepaa
namespace Go.Proofs.Ytffeecaidkeepaa
open Go.RowKit

theorem dueT_ok {l : List TimerM} (h : ∀ s ∈ l, s.ok) (tz : Int) : (dueT l tz).1.ok := by
  unfold dueT
  rw [dueO_least]
  cases hl : leastT l with
  | none => exact timer0_ok
  | some b =>
    rw [dueIf]
    by_cases hb : b.tm ≤ tz
    · rw [if_pos hb]; exact h b (leastT_mem _ l rfl b hl)
    · rw [if_neg hb]; exact timer0_ok
theorem tms_at {W : World} {g j : Nat} {t : TypeId} {ts : List TimerM} {y : TimerM} (h : Blk W g t (tmsV ts).flatten) (hok : ∀ s ∈ ts, s.ok) (hj : ts[j]? = some y) : At W g (j * 34) y.cells := fun i v hv => by
  rw [h.cell]
  exact flat_at (tms_34 hok) j y.cells (by rw [tmsV, List.getElem?_map, hj]; rfl) i v hv
set_option maxRecDepth 100000 in
set_option maxHeartbeats 32000000 in
theorem wh_changes_walk (HST : WhSetC 9) (HCA : WhCancelC 11) (HCP : WhCancelPC 13) (HHA : WhHasC 15) (HDU : WhDueC 17) (HVA : WhValidC 19) (HLE : WhLessC 21)
    (w : World) (A : Option Addr) (n c : Nat) (l : List UInt8) (Aw : Option Addr) (nw cw : Nat) (rw' : List TimerM) (t : TimerM) (tz : Int) (p q : Nat) (hnc : n ≤ c) (hcm : c ≤ maxLen) (hr : Rd w w.heap.size A n l) (hcw : nw ≤ cw ∧ cw ≤ maxLen) (hrw : TmRd w w.heap.size Aw nw rw') (ht : t.ok) (htz : -9223372036854775808 ≤ tz ∧ tz ≤ 9223372036854775807) (hp : p ≤ 255) (hq : q ≤ 255) :
    Calls Try.prog 3 #[.slice A n c, .slice Aw nw cw, .agg t.cells.toArray, .int .i64 tz, .int .u8 (p : Int), .int .u8 (q : Int)] w fun e w' => e = .returned (.bool true) ∧ Below w.heap.size w w' := by
  have HBG := Lib.hid (fun W : World => wh_begun_any HST W)
  have HSTH := Lib.hid HST
  have HCAH := Lib.hid HCA
  have HCPH := Lib.hid HCP
  have HHAH := Lib.hid HHA
  have HDUH := Lib.hid HDU
  have HVAH := Lib.hid HVA
  have HTZ := Lib.hid (show inI64 tz from htz)
  have HRW := Lib.hid hrw
  have HCW := Lib.hid (show CapWh nw cw from hcw)
  have HOT := Lib.hid ht
  obtain ⟨ik, hik, hiz, his, hib⟩ := timerInfo
  have HKI := Lib.hid (And.intro hik (And.intro hiz (And.intro his hib)))
  clear hik hiz his hib
  obtain ⟨tc, htc⟩ : ∃ z, t.cells.toArray = z := ⟨_, rfl⟩
  rw [htc]
  obtain ⟨ta, hta⟩ : ∃ z, t.tm = z := ⟨_, rfl⟩
  have hta2 : inI64 ta := hta ▸ ht.1
  unfold inI64 at hta2
  obtain ⟨um, hum⟩ : ∃ z, ta % 7 = z := ⟨_, rfl⟩
  have HMO := Lib.hid (show ∀ W : World, Calls Try.prog 7 #[.int .i64 ta, .int .i64 7] W fun e w' => e = .returned (.int .i64 um) ∧ W = w' from fun W => by
    have h := mod64_any ta 7 (by omega) (by omega) W
    rw [show ((7 : Nat) : Int) = 7 from rfl, hum] at h
    exact h)
  obtain ⟨Y, hY⟩ : ∃ y, UInt8.ofNat (p % 3) = y := ⟨_, rfl⟩
  have hYn : Y.toNat = p % 3 := by rw [← hY, UInt8.toNat_ofNat', Nat.mod_eq_of_lt (by omega)]
  have ep1 : (p : Int) % 3 = (Y.toNat : Int) := by rw [hYn]; omega
  have ep2 : (p : Int).tmod 3 = (Y.toNat : Int) := by rw [Int.tmod_eq_emod_of_nonneg (by omega), hYn]; omega
  obtain ⟨dq, hdq⟩ : ∃ z, q % 5 = z := ⟨_, rfl⟩
  have eq1 : IntKind.i64.wrap (q : Int) = (q : Int) := IntWalk.i64_in _ (by omega)
  have eq2 : (q : Int) % 5 = (dq : Int) := by omega
  have eq3 : (q : Int).tmod 5 = (dq : Int) := by rw [Int.tmod_eq_emod_of_nonneg (by omega)]; omega
  obtain ⟨kd, hkd⟩ : ∃ z : Int, 1 + (dq : Int) = z := ⟨_, rfl⟩
  have eq4 : IntKind.i64.wrap (1 + (dq : Int)) = kd := by rw [IntWalk.i64_in _ (by omega)]; omega
  have hok : (TimerM.mk um (keyB Y) kd).ok := ⟨⟨by show -9223372036854775808 ≤ um; omega, by show um ≤ 9223372036854775807; omega⟩, keyB_length Y, ⟨by show -9223372036854775808 ≤ kd; omega, by show kd ≤ 9223372036854775807; omega⟩⟩
  have hbt := timer_made um (keyB Y) kd (keyB_length Y)
  have hby := key_byte Y
  obtain ⟨ky, hky⟩ : ∃ z, ((keyB Y).map u8v).toArray = z := ⟨_, rfl⟩
  rw [hky] at hbt hby
  obtain ⟨u, hu⟩ : ∃ z, TimerM.mk um (keyB Y) kd = z := ⟨_, rfl⟩
  rw [hu] at hok hbt
  obtain ⟨uc, huc⟩ : ∃ z, u.cells.toArray = z := ⟨_, rfl⟩
  rw [huc] at hbt
  have HOU := Lib.hid hok
  have HBT := Lib.hid hbt
  have HBY := Lib.hid hby
  have HTC := Lib.hid htc
  have HUC := Lib.hid huc
  have HTA := Lib.hid hta
  have l1 := HLE t u
  have l2 := refLessT_any t u
  have l3 := HLE u t
  have l4 := refLessT_any u t
  rw [htc, huc] at l1 l2 l3 l4
  obtain ⟨x1, hx1⟩ : ∃ z, lessT t u = z := ⟨_, rfl⟩
  obtain ⟨x2, hx2⟩ : ∃ z, lessT u t = z := ⟨_, rfl⟩
  rw [hx1] at l1 l2
  rw [hx2] at l3 l4
  have HL1 := Lib.hid (fun W => l1 W ht hok)
  have HL2 := Lib.hid (fun W => l2 W ht hok)
  have HL3 := Lib.hid (fun W => l3 W hok ht)
  have HL4 := Lib.hid (fun W => l4 W hok ht)
  have HE := Lib.hid (show ([(0, Value.agg tc), (1, Value.agg uc)] : List (Nat × Value)) = ((tmsV [t, u]).zipIdx 0).map fun x => (x.2, Value.agg x.1.toArray) from by rw [← htc, ← huc]; rfl)
  have HOKS := Lib.hid (show ∀ s ∈ [t, u], s.ok from fun s hs => by
    simp only [List.mem_cons, List.not_mem_nil, or_false] at hs
    rcases hs with rfl | rfl
    · exact ht
    · exact hok)
  obtain ⟨mr, hmr⟩ : ∃ z, min nw 12 = z := ⟨_, rfl⟩
  have hmin : min (nw : Int) 12 = (mr : Int) := by omega
  obtain ⟨Ar, hAr⟩ : ∃ z, addrK Aw 0 cw 34 = z := ⟨_, rfl⟩
  obtain ⟨rr, hrr⟩ : ∃ z, rw'.take mr = z := ⟨_, rfl⟩
  have hslr := tm_h Aw (n := nw) cw mr (by omega) hcw.1
  rw [hAr] at hslr
  have HAR := Lib.hid (And.intro hAr hrr)
  have HMR := Lib.hid (show mr ≤ nw ∧ mr ≤ 12 from by omega)
  have HM := Lib.hid (show Lows w [blkL w.heap.size 27 t.cells, rdL A n l] (w.alloc (.cells tc 27)) from ((Lows.nil w).cons (rdL A n l) hr).alloc 27 tc t.cells htc.symm)
  have HNC := Lib.hid (And.intro hnc hcm)
  clear HST HCA HCP HHA HDU HVA HLE hr hnc hcm hcw hrw ht htc hta hok hbt hby hky hu huc l1 l2 l3 l4 hx1 hx2 hAr hrr hmr htz hkd hdq hY hYn hum hta2
  go_enter Try.func3, Try.ntmps3
  go_upto_region 1 with fail
  generalize w.alloc (.cells tc 27) = w1 at HM ⊢
  go_wp2_with fail
  refine (made_any A n c l HNC.out.1 HNC.out.2 w1 (HM.out.rd 1 rfl)).mono ?_
  rintro e w2 ⟨rs, A9, c9, hgd, hln, rfl, hsl, hcp, hb⟩
  obtain ⟨nn, hnn⟩ : ∃ z, rs.length = z := ⟨_, rfl⟩
  rw [hnn] at hln hsl hcp ⊢
  replace HM := Lib.hid (show Lows w [tmL A9 nn rs, blkL w.heap.size 27 t.cells] w2 from ((HM.out.below hb).tail 1).cons (tmL A9 nn rs) hsl)
  have HCP := Lib.hid (show CapWh nn c9 from hcp)
  have HLN := Lib.hid hln
  have HVX := Lib.hid (show ∀ (W : World), TmRd W W.heap.size A9 nn rs → Calls Try.prog 19 #[.slice A9 nn c9] W fun e w' => e = .returned (.bool true) ∧ Below W.heap.size W w' from fun W hr => by
    have h := HVAH.out A9 nn c9 rs W ⟨by have := HLN.out; omega, HCP.out.1, HCP.out.2, hr⟩
    rw [good_valid hgd] at h
    exact h)
  clear hgd hln hsl hcp hb hnn HNC
  go_upto_region 3 with (refine wpList_min_int rfl (.tmp 29) (.const (.int .i64 12)) #[3, 3] rfl (nw : Int) 12 (mr : Int) rfl rfl hmin ?_)
  clear hmin hslr
  replace HM := Lib.hid (show Lows w [tmL Ar mr rr, tmL A9 nn rs, blkL w.heap.size 27 t.cells] w2 from HM.out.cons (tmL Ar mr rr) (by
    have h := HRW.out.below HM.out.bel
    exact ⟨(show RdRow _ w.heap.size Ar 34 mr (tmsV rr) from by rw [← HAR.out.1, ← HAR.out.2, ← tmsV_take]; exact h.1.ahead mr cw HMR.out.1).mono HM.out.size, fun r hr => h.2 r (by rw [← HAR.out.2] at hr; exact List.mem_of_mem_take hr)⟩))
  have fa := tm_at (HM.out.blk 2 rfl).all
  rw [HTA.out] at fa
  go_wp2_with fail
  refine (HMO.out w2).mono ?_
  rintro e w3 ⟨rfl, rfl⟩
  have HZ := Lib.hid (Blk.new w2 27 timerZ)
  go_upto_region 4 with (first | ((with_reducible refine at_op (.build 25 #[(0, .tmp 36)]) rfl ?_); refine wpList_build_as rfl 25 [(0, .tmp 36)] rfl ky ?_ ?_; exact HBY.out) | ((with_reducible refine at_op (.build 27 #[(0, .tmp 34), (1, .tmp 37), (2, .tmp 41)]) rfl ?_); refine wpList_build_as rfl 27 [(0, .tmp 34), (1, .tmp 37), (2, .tmp 41)] rfl uc ?_ ?_; exact HBT.out) | ((with_reducible refine at_op (.store 27 (.tmp 14) (.tmp 42)) rfl ?_); refine wpList_store_obj rfl 27 (.tmp 14) (.tmp 42) rfl w2.heap.size 0 u.cells rfl (by show Value.agg uc = _; rw [HUC.out]) 27 timerZ HZ.out (timer_cellsOf u HOU.out) (by rw [TimerM.cells_length HOU.out, timerZ_length]; omega) (timer_one u) ?_; intro w4 hb4 hg4))
  rw [setL_all timerZ u.cells (by rw [TimerM.cells_length HOU.out, timerZ_length])] at hb4
  replace HM := Lib.hid (show Lows w [blkL w2.heap.size 27 u.cells, tmL Ar mr rr, tmL A9 nn rs, blkL w.heap.size 27 t.cells] w4 from (HM.out.below (below_fresh hg4)).cons (blkL w2.heap.size 27 u.cells) hb4)
  clear hb4 hg4 HZ fa ep1 ep2 eq1 eq2 eq3 eq4
  generalize w2.heap.size = gu at HM ⊢
  go_upto_region 5 with fail
  have HM5 := Lib.hid (HM.out.alloc 23 #[.slice A9 nn c9, .slice Ar mr cw] [.slice A9 nn c9, .slice Ar mr cw] rfl)
  clear HM
  generalize w4.alloc (.cells #[.slice A9 nn c9, .slice Ar mr cw] 23) = w5 at HM5 ⊢
  generalize w4.heap.size = gs at HM5 ⊢
  have HM := Lib.hid (show Lows w [blkL gs 23 [.slice A9 nn c9, .slice Ar mr cw], blkL gu 27 u.cells, tmL Ar mr rr, tmL A9 nn rs, blkL w.heap.size 27 t.cells] w5 from HM5.out)
  have HI := Lib.hid (show ∀ i, i < 2 → ∃ (Al : Option Addr) (nl cl : Nat) (ls : List TimerM), nl ≤ 15 ∧ CapWh nl cl ∧ ∀ W, Lows w [blkL gs 23 [.slice A9 nn c9, .slice Ar mr cw], blkL gu 27 u.cells, tmL Ar mr rr, tmL A9 nn rs, blkL w.heap.size 27 t.cells] W → W.cell? ⟨gs, i, none⟩ = some (.slice Al nl cl) ∧ TmRd W W.heap.size Al nl ls from fun i hi => by
    rcases (show i = 0 ∨ i = 1 by omega) with rfl | rfl
    · exact ⟨A9, nn, c9, rs, HLN.out, HCP.out, fun W h => ⟨(h.blk 0 rfl).cell 0, h.get (f := tmL A9 nn rs) 3 rfl⟩⟩
    · exact ⟨Ar, mr, cw, rr, by have := HMR.out.2; omega, ⟨Nat.le_trans HMR.out.1 HCW.out.1, HCW.out.2⟩, fun W h => ⟨(h.blk 0 rfl).cell 1, h.get (f := tmL Ar mr rr) 2 rfl⟩⟩)
  clear HM5 HRW
  go_loopw [47] (fun v wr => ∃ i : Nat, i ≤ 2 ∧ v = .int .i64 (i : Int) ∧ Lows w [blkL gs 23 [.slice A9 nn c9, .slice Ar mr cw], blkL gu 27 u.cells, tmL Ar mr rr, tmL A9 nn rs, blkL w.heap.size 27 t.cells] wr) (fun v _ => 2 - (intOf v).toNat)
  case atStart => exact ⟨0, Nat.zero_le _, rfl, HM.out⟩
  case round =>
    clear HM
    obtain ⟨i, hi, rfl, hM⟩ := hrel
    have HM := Lib.hid hM
    clear hM
    by_cases hi2 : i < 2
    · have d1 : decide ((i : Int) < 2) = true := by simp; omega
      obtain ⟨Al, nl, cl, ls, hnl, hcl, hl⟩ := HI.out i hi2
      have HCL := Lib.hid hcl
      have HNL := Lib.hid hnl
      have hcell := (hl wr HM.out).1
      replace HM := Lib.hid (show Lows w [tmL Al nl ls, blkL gs 23 [.slice A9 nn c9, .slice Ar mr cw], blkL gu 27 u.cells, tmL Ar mr rr, tmL A9 nn rs, blkL w.heap.size 27 t.cells] wr from HM.out.cons (tmL Al nl ls) (hl wr HM.out).2)
      clear hcl hl hnl
      go_upto_region 7 with fail
      clear hcell
      go_upto_region 8 with (first | ((with_reducible refine at_op (.load 27 (.tmp 8)) rfl ?_); refine wpList_load_obj rfl 27 (.tmp 8) rfl w.heap.size 0 rfl t.cells (HM.out.blk 5 rfl).all _ Try.underlying27 rfl (timer_cellsOf t HOT.out) ?_; rw [HTC.out]) | ((with_reducible refine at_op (.load 27 (.tmp 14)) rfl ?_); refine wpList_load_obj rfl 27 (.tmp 14) rfl gu 0 rfl u.cells (HM.out.blk 2 rfl).all _ Try.underlying27 rfl (timer_cellsOf u HOU.out) ?_; rw [HUC.out]) | ((with_reducible refine at_op (.buildSlice 23 2 #[(0, .tmp 51), (1, .tmp 52)]) rfl ?_); refine wpList_buildRows rfl 23 27 2 [(0, .tmp 51), (1, .tmp 52)] rfl (tmsV [t, u]) rfl HE.out 34 Try.underlying23 ik HKI.out.1 HKI.out.2.2.1 _ HKI.out.2.1 (by omega) (by omega) (by omega) (fun r hr => tms_34 HOKS.out r hr) ?_))
      have HM5 := Lib.hid (show Lows w (blkL wr.heap.size 27 (tmsV [t, u]).flatten :: [tmL Al nl ls, blkL gs 23 [.slice A9 nn c9, .slice Ar mr cw], blkL gu 27 u.cells, tmL Ar mr rr, tmL A9 nn rs, blkL w.heap.size 27 t.cells]) (wr.alloc (.cells (tmsV [t, u]).flatten.toArray 27)) from HM.out.alloc 27 _ (tmsV [t, u]).flatten rfl)
      clear HM
      generalize wr.alloc (.cells (tmsV [t, u]).flatten.toArray 27) = w6 at HM5 ⊢
      generalize wr.heap.size = gy at HM5 ⊢
      have HM := Lib.hid (show Lows w [blkL gy 27 (tmsV [t, u]).flatten, tmL Al nl ls, blkL gs 23 [.slice A9 nn c9, .slice Ar mr cw], blkL gu 27 u.cells, tmL Ar mr rr, tmL A9 nn rs, blkL w.heap.size 27 t.cells] w6 from HM5.out)
      have HYJ := Lib.hid (show ∀ j, j < 2 → ∃ y : TimerM, y.ok ∧ ∀ W, Lows w [blkL gy 27 (tmsV [t, u]).flatten, tmL Al nl ls, blkL gs 23 [.slice A9 nn c9, .slice Ar mr cw], blkL gu 27 u.cells, tmL Ar mr rr, tmL A9 nn rs, blkL w.heap.size 27 t.cells] W → At W gy (j * 34) y.cells from fun j hj => by
        rcases (show j = 0 ∨ j = 1 by omega) with rfl | rfl
        · exact ⟨t, HOT.out, fun W h => tms_at (h.blk 0 rfl) HOKS.out rfl⟩
        · exact ⟨u, HOU.out, fun W h => tms_at (h.blk 0 rfl) HOKS.out rfl⟩)
      clear HM5
      go_loopw [55] (fun v wy => ∃ j : Nat, j ≤ 2 ∧ v = .int .i64 (j : Int) ∧ Lows w [blkL gy 27 (tmsV [t, u]).flatten, tmL Al nl ls, blkL gs 23 [.slice A9 nn c9, .slice Ar mr cw], blkL gu 27 u.cells, tmL Ar mr rr, tmL A9 nn rs, blkL w.heap.size 27 t.cells] wy) (fun v _ => 2 - (intOf v).toNat)
      case atStart => exact ⟨0, Nat.zero_le _, rfl, HM.out⟩
      case round =>
        clear HM
        obtain ⟨j, hj, rfl, hM⟩ := hrel
        have HM := Lib.hid hM
        clear hM
        by_cases hj2 : j < 2
        · have d1 : decide ((j : Int) < 2) = true := by simp; omega
          obtain ⟨y, hyo, hyl⟩ := HYJ.out j hj2
          have HYO := Lib.hid hyo
          have HLA := Lib.hid (hyl _ HM.out)
          obtain ⟨yc, hyc⟩ : ∃ z, y.cells.toArray = z := ⟨_, rfl⟩
          obtain ⟨yk, hyk⟩ : ∃ z, (y.peer.map u8v).toArray = z := ⟨_, rfl⟩
          obtain ⟨yd, hyd⟩ : ∃ z, y.kind = z := ⟨_, rfl⟩
          obtain ⟨yt, hyt⟩ : ∃ z, y.tm = z := ⟨_, rfl⟩
          obtain ⟨z3, hz3⟩ : ∃ z, IntKind.i64.wrap (yt - 1) = z := ⟨_, rfl⟩
          have hzr : inI64 z3 := by rw [← hz3, IntKind.wrap_i64]; unfold inI64; omega
          have HZ3 := Lib.hid hzr
          have HEZ := Lib.hid hz3
          have HYC := Lib.hid hyc
          have HYK := Lib.hid hyk
          have HYD := Lib.hid hyd
          have HYT := Lib.hid hyt
          obtain ⟨s1, hs1⟩ : ∃ z, setT ls y = z := ⟨_, rfl⟩
          obtain ⟨ms, hms⟩ : ∃ z, s1.length = z := ⟨_, rfl⟩
          obtain ⟨c1, hc1⟩ : ∃ z, cancelT ls y.peer y.kind = z := ⟨_, rfl⟩
          obtain ⟨mc, hmc⟩ : ∃ z, c1.length = z := ⟨_, rfl⟩
          obtain ⟨p1, hp1⟩ : ∃ z, cancelP ls y.peer = z := ⟨_, rfl⟩
          obtain ⟨mp, hmp⟩ : ∃ z, p1.length = z := ⟨_, rfl⟩
          have hlen : ls.length = nl := (HM.out.get (f := tmL Al nl ls) 1 rfl).len
          have hnl := HNL.out
          have HMS := Lib.hid (show ms ≤ 16 from by rw [← hms, ← hs1]; exact Nat.le_trans (setT_le _ _) (by omega))
          have HMC := Lib.hid (show mc ≤ 16 from by rw [← hmc, ← hc1]; exact Nat.le_trans (cancelT_le _ _ _) (by omega))
          have HMP := Lib.hid (show mp ≤ 16 from by rw [← hmp, ← hp1]; exact Nat.le_trans (cancelP_le _ _) (by omega))
          have a1 := set_use HSTH.out hs1 hms (n := nl) (by omega) hyo
          have a2 := set_use refSetT_any hs1 hms (n := nl) (by omega) hyo
          rw [hyc] at a1 a2
          have a3 := cancel_use HCAH.out hc1 hmc (n := nl) (by omega) hyo.2.1 hyo.2.2
          have a4 := cancel_use refCancelT_any hc1 hmc (n := nl) (by omega) hyo.2.1 hyo.2.2
          rw [hyk, hyd] at a3 a4
          have a5 := cancelP_use HCPH.out hp1 hmp (n := nl) (by omega) hyo.2.1
          have a6 := cancelP_use refCancelP_any hp1 hmp (n := nl) (by omega) hyo.2.1
          rw [hyk] at a5 a6
          have a7 := fun W hr => HHAH.out Al nl cl ls y.peer y.kind W hyo.2.1 hyo.2.2 ⟨by omega, HCL.out.1, HCL.out.2, hr⟩
          have a8 := fun W hr => refHasT_any Al nl cl ls y.peer y.kind W hyo.2.1 hyo.2.2 ⟨by omega, HCL.out.1, HCL.out.2, hr⟩
          obtain ⟨hv, hhv⟩ : ∃ z, hasT ls y.peer y.kind = z := ⟨_, rfl⟩
          rw [hhv, hyk, hyd] at a7 a8
          have HS1 := Lib.hid a1
          have HS2 := Lib.hid a2
          have HC1 := Lib.hid a3
          have HC2 := Lib.hid a4
          have HP1 := Lib.hid a5
          have HP2 := Lib.hid a6
          have HH1 := Lib.hid a7
          have HH2 := Lib.hid a8
          clear a1 a2 a3 a4 a5 a6 a7 a8 hs1 hms hc1 hmc hp1 hmp hhv hyc hyk hyd hyt hz3 hzr hlen hnl hyo hyl
          obtain ⟨wy, hwy⟩ : ∃ z, wr = z := ⟨_, rfl⟩
          rw [hwy] at HM HLA ⊢
          clear hwy
          have HZ := Lib.hid (Blk.new wy 27 timerZ)
          go_upto_region 10 with (first | ((with_reducible refine at_op (.load 27 (.tmp 57)) rfl ?_); refine wpList_load_obj rfl 27 (.tmp 57) rfl gy _ rfl y.cells HLA.out _ Try.underlying27 rfl (timer_cellsOf y HYO.out) ?_; rw [HYC.out]) | ((with_reducible refine at_op (.store 27 (.tmp 18) (.tmp 58)) rfl ?_); refine wpList_store_obj rfl 27 (.tmp 18) (.tmp 58) rfl wy.heap.size 0 y.cells rfl (by show Value.agg yc = _; rw [HYC.out]) 27 timerZ HZ.out (timer_cellsOf y HYO.out) (by rw [TimerM.cells_length HYO.out, timerZ_length]; omega) (timer_one y) ?_; intro w9 hb4 hg4))
          rw [setL_all timerZ y.cells (by rw [TimerM.cells_length HYO.out, timerZ_length])] at hb4
          replace HM := Lib.hid (show Lows w [blkL wy.heap.size 27 y.cells, blkL gy 27 (tmsV [t, u]).flatten, tmL Al nl ls, blkL gs 23 [.slice A9 nn c9, .slice Ar mr cw], blkL gu 27 u.cells, tmL Ar mr rr, tmL A9 nn rs, blkL w.heap.size 27 t.cells] w9 from (HM.out.below (below_fresh hg4)).cons (blkL wy.heap.size 27 y.cells) hb4)
          clear hb4 hg4 HZ HLA d1
          generalize wy.heap.size = P1 at HM ⊢
          refine wp_region_held_drew (S := fun W' => Lows w [blkL P1 27 y.cells, blkL gy 27 (tmsV [t, u]).flatten, tmL Al nl ls, blkL gs 23 [.slice A9 nn c9, .slice Ar mr cw], blkL gu 27 u.cells, tmL Ar mr rr, tmL A9 nn rs, blkL w.heap.size 27 t.cells] W') (by kernel_rfl) (HM.out.drew) (fun hHeld => ?_)
          replace HM := Lib.hid HM.out.drew
          generalize w9.drew = wd1 at HM hHeld ⊢
          refine take_first (v := ?_) 0 rfl (by kernel_rfl) (by kernel_rfl) (by kernel_rfl) (fun _ _ _ h => h) (Or.inl ⟨by rfl, ?_⟩) (by assumption) ?_
          rotate_left
          · (intro w hSw; (try dsimp only at hSw); go_simp; try with_reducible rfl)
          (try simp only [Act.put, List.setIfInBounds_toArray, List.set_cons_zero, List.set_cons_succ])
          refine take_first (v := .agg yc) 1 rfl (by kernel_rfl) (by kernel_rfl) (by kernel_rfl) (fun _ _ _ h => h) (by rw [← HYC.out]; exact yields_load_obj (by rfl) 27 (.tmp 18) rfl P1 0 rfl y.cells (fun w' hb => (Lows.blk hb 0 rfl).all) _ Try.underlying27 rfl (timer_cellsOf y HYO.out)) (by assumption) ?_
          (try simp only [Act.put, List.setIfInBounds_toArray, List.set_cons_zero, List.set_cons_succ])
          refine take_first (v := ?_) 3 rfl (by kernel_rfl) (by kernel_rfl) (by kernel_rfl) (fun _ _ _ h => h) (Or.inl ⟨by rfl, ?_⟩) (by assumption) ?_
          rotate_left
          · (intro w hSw; (try dsimp only at hSw); go_simp; try with_reducible rfl)
          (try simp only [Act.put, List.setIfInBounds_toArray, List.set_cons_zero, List.set_cons_succ])
          refine take_first (v := .agg yc) 4 rfl (by kernel_rfl) (by kernel_rfl) (by kernel_rfl) (fun _ _ _ h => h) (by rw [← HYC.out]; exact yields_load_obj (by rfl) 27 (.tmp 18) rfl P1 0 rfl y.cells (fun w' hb => (Lows.blk hb 0 rfl).all) _ Try.underlying27 rfl (timer_cellsOf y HYO.out)) (by assumption) ?_
          (try simp only [Act.put, List.setIfInBounds_toArray, List.set_cons_zero, List.set_cons_succ])
          refine step_one 2 rfl (by kernel_rfl) (fun K hK => ?_)
          clear hHeld
          go_simp
          refine (HS1.out Al cl _ HCL.out (HM.out.get (f := tmL Al nl ls) 2 rfl)).mono ?_
          rintro e wy2 ⟨B1, b1, rfl, hc9, hr9, -, hb⟩
          replace HM := Lib.hid (show Lows w [tmL B1 ms s1, blkL P1 27 y.cells, blkL gy 27 (tmsV [t, u]).flatten, tmL Al nl ls, blkL gs 23 [.slice A9 nn c9, .slice Ar mr cw], blkL gu 27 u.cells, tmL Ar mr rr, tmL A9 nn rs, blkL w.heap.size 27 t.cells] wy2 from (HM.out.below hb).cons (tmL B1 ms s1) (hr9))
          clear hb
          clear hc9 hr9
          go_wp2_with fail
          refine hK.out _ _ (HM.out.tail 0) (fun hHeld => ?_)
          clear hK K
          (try simp only [Act.put, List.setIfInBounds_toArray, List.set_cons_zero, List.set_cons_succ])
          refine wpAnyH_stronger (T := fun W' => Lows w [tmL B1 ms s1, blkL P1 27 y.cells, blkL gy 27 (tmsV [t, u]).flatten, tmL Al nl ls, blkL gs 23 [.slice A9 nn c9, .slice Ar mr cw], blkL gu 27 u.cells, tmL Ar mr rr, tmL A9 nn rs, blkL w.heap.size 27 t.cells] W') (fun _ h' => (h'.tail 0)) _ _ _ _ ?_
          replace hHeld := HM.out
          refine step_one 5 rfl (by kernel_rfl) (fun K hK => ?_)
          clear hHeld
          go_simp
          refine (HS2.out Al cl _ HCL.out (HM.out.get (f := tmL Al nl ls) 3 rfl)).mono ?_
          rintro e wy3 ⟨B2, b2, rfl, hc9, hr9, -, hb⟩
          replace HM := Lib.hid (show Lows w [tmL B2 ms s1, tmL B1 ms s1, blkL P1 27 y.cells, blkL gy 27 (tmsV [t, u]).flatten, tmL Al nl ls, blkL gs 23 [.slice A9 nn c9, .slice Ar mr cw], blkL gu 27 u.cells, tmL Ar mr rr, tmL A9 nn rs, blkL w.heap.size 27 t.cells] wy3 from (HM.out.below hb).cons (tmL B2 ms s1) (hr9))
          clear hb
          clear hc9 hr9
          go_wp2_with fail
          refine hK.out _ _ (HM.out.tail 0) (fun hHeld => ?_)
          clear hK K
          (try simp only [Act.put, List.setIfInBounds_toArray, List.set_cons_zero, List.set_cons_succ])
          refine wpAnyH_stronger (T := fun W' => Lows w [tmL B2 ms s1, tmL B1 ms s1, blkL P1 27 y.cells, blkL gy 27 (tmsV [t, u]).flatten, tmL Al nl ls, blkL gs 23 [.slice A9 nn c9, .slice Ar mr cw], blkL gu 27 u.cells, tmL Ar mr rr, tmL A9 nn rs, blkL w.heap.size 27 t.cells] W') (fun _ h' => (h'.tail 0)) _ _ _ _ ?_
          replace hHeld := HM.out
          refine step_one 6 rfl (by kernel_rfl) (fun K hK => ?_)
          clear hHeld
          go_simp
          refine (same_any B1 B2 ms b1 b2 s1 (by have := HMS.out; omega) _ (HM.out.get (f := tmL B1 ms s1) 1 rfl) (HM.out.get (f := tmL B2 ms s1) 0 rfl)).mono ?_
          rintro e wy4 ⟨rfl, hb⟩
          replace HM := Lib.hid (show Lows w [tmL B2 ms s1, tmL B1 ms s1, blkL P1 27 y.cells, blkL gy 27 (tmsV [t, u]).flatten, tmL Al nl ls, blkL gs 23 [.slice A9 nn c9, .slice Ar mr cw], blkL gu 27 u.cells, tmL Ar mr rr, tmL A9 nn rs, blkL w.heap.size 27 t.cells] wy4 from HM.out.below hb)
          clear hb
          go_wp2_with fail
          refine hK.out _ _ (HM.out) (fun hHeld => ?_)
          clear hK K
          (try simp only [Act.put, List.setIfInBounds_toArray, List.set_cons_zero, List.set_cons_succ])
          refine take_first (v := ?_) 7 rfl (by kernel_rfl) (by kernel_rfl) (by kernel_rfl) (fun _ _ _ h => h) (Or.inl ⟨by rfl, ?_⟩) (by assumption) ?_
          rotate_left
          · (intro w hSw; (try dsimp only at hSw); go_simp; try with_reducible rfl)
          (try simp only [Act.put, List.setIfInBounds_toArray, List.set_cons_zero, List.set_cons_succ])
          refine take_first (v := ?_) 8 rfl (by kernel_rfl) (by kernel_rfl) (by kernel_rfl) (fun _ _ _ h => h) (Or.inl ⟨by rfl, ?_⟩) (by assumption) ?_
          rotate_left
          · (intro w hSw; (try dsimp only at hSw); go_simp; try with_reducible rfl)
          (try simp only [Act.put, List.setIfInBounds_toArray, List.set_cons_zero, List.set_cons_succ])
          refine take_first (v := ?_) 9 rfl (by kernel_rfl) (by kernel_rfl) (by kernel_rfl) (fun _ _ _ h => h) (Or.inl ⟨by rfl, ?_⟩) (by assumption) ?_
          rotate_left
          · (intro w hSw; (try dsimp only at hSw); go_simp; try with_reducible rfl)
          (try simp only [Act.put, List.setIfInBounds_toArray, List.set_cons_zero, List.set_cons_succ])
          refine take_first (v := ?_) 10 rfl (by kernel_rfl) (by kernel_rfl) (by kernel_rfl) (fun _ _ _ h => h) (Or.inl ⟨by rfl, ?_⟩) (by assumption) ?_
          rotate_left
          · (intro w hSw; (try dsimp only at hSw); go_simp; try with_reducible rfl)
          (try simp only [Act.put, List.setIfInBounds_toArray, List.set_cons_zero, List.set_cons_succ])
          refine take_first (v := .agg yk) 11 rfl (by kernel_rfl) (by kernel_rfl) (by kernel_rfl) (fun _ _ _ h => h) (by rw [← HYK.out]; exact yields_load_obj (by rfl) 25 (.tmp 69) rfl P1 1 rfl (y.peer.map u8v) (fun w' hb => peer_at (Lows.blk hb 2 rfl).all) _ Try.underlying25 rfl (key_cellsOf y.peer HYO.out.2.1)) (by assumption) ?_
          (try simp only [Act.put, List.setIfInBounds_toArray, List.set_cons_zero, List.set_cons_succ])
          refine take_first (v := ?_) 12 rfl (by kernel_rfl) (by kernel_rfl) (by kernel_rfl) (fun _ _ _ h => h) (Or.inl ⟨by rfl, ?_⟩) (by assumption) ?_
          rotate_left
          · (intro w hSw; (try dsimp only at hSw); go_simp; try with_reducible rfl)
          (try simp only [Act.put, List.setIfInBounds_toArray, List.set_cons_zero, List.set_cons_succ])
          refine take_first (v := ?_) 13 rfl (by kernel_rfl) (by kernel_rfl) (by kernel_rfl) (fun _ _ _ h => h) (Or.inl ⟨by rfl, ?_⟩) (by assumption) ?_
          rotate_left
          · (intro w hSw; (try dsimp only at hSw); have fb := kind_at (Lows.blk hSw 2 rfl).all HYO.out; rw [HYD.out] at fb; go_simp; try with_reducible rfl)
          (try simp only [Act.put, List.setIfInBounds_toArray, List.set_cons_zero, List.set_cons_succ])
          refine take_first (v := ?_) 15 rfl (by kernel_rfl) (by kernel_rfl) (by kernel_rfl) (fun _ _ _ h => h) (Or.inl ⟨by rfl, ?_⟩) (by assumption) ?_
          rotate_left
          · (intro w hSw; (try dsimp only at hSw); go_simp; try with_reducible rfl)
          (try simp only [Act.put, List.setIfInBounds_toArray, List.set_cons_zero, List.set_cons_succ])
          refine take_first (v := ?_) 16 rfl (by kernel_rfl) (by kernel_rfl) (by kernel_rfl) (fun _ _ _ h => h) (Or.inl ⟨by rfl, ?_⟩) (by assumption) ?_
          rotate_left
          · (intro w hSw; (try dsimp only at hSw); go_simp; try with_reducible rfl)
          (try simp only [Act.put, List.setIfInBounds_toArray, List.set_cons_zero, List.set_cons_succ])
          refine take_first (v := .agg yk) 17 rfl (by kernel_rfl) (by kernel_rfl) (by kernel_rfl) (fun _ _ _ h => h) (by rw [← HYK.out]; exact yields_load_obj (by rfl) 25 (.tmp 75) rfl P1 1 rfl (y.peer.map u8v) (fun w' hb => peer_at (Lows.blk hb 2 rfl).all) _ Try.underlying25 rfl (key_cellsOf y.peer HYO.out.2.1)) (by assumption) ?_
          (try simp only [Act.put, List.setIfInBounds_toArray, List.set_cons_zero, List.set_cons_succ])
          refine take_first (v := ?_) 18 rfl (by kernel_rfl) (by kernel_rfl) (by kernel_rfl) (fun _ _ _ h => h) (Or.inl ⟨by rfl, ?_⟩) (by assumption) ?_
          rotate_left
          · (intro w hSw; (try dsimp only at hSw); go_simp; try with_reducible rfl)
          (try simp only [Act.put, List.setIfInBounds_toArray, List.set_cons_zero, List.set_cons_succ])
          refine take_first (v := ?_) 19 rfl (by kernel_rfl) (by kernel_rfl) (by kernel_rfl) (fun _ _ _ h => h) (Or.inl ⟨by rfl, ?_⟩) (by assumption) ?_
          rotate_left
          · (intro w hSw; (try dsimp only at hSw); have fb := kind_at (Lows.blk hSw 2 rfl).all HYO.out; rw [HYD.out] at fb; go_simp; try with_reducible rfl)
          (try simp only [Act.put, List.setIfInBounds_toArray, List.set_cons_zero, List.set_cons_succ])
          refine step_one 14 rfl (by kernel_rfl) (fun K hK => ?_)
          clear hHeld
          go_simp
          refine (HC1.out Al cl _ HCL.out (HM.out.get (f := tmL Al nl ls) 4 rfl)).mono ?_
          rintro e wy5 ⟨B3, b3, rfl, hc9, hr9, -, hb⟩
          replace HM := Lib.hid (show Lows w [tmL B3 mc c1, tmL B2 ms s1, tmL B1 ms s1, blkL P1 27 y.cells, blkL gy 27 (tmsV [t, u]).flatten, tmL Al nl ls, blkL gs 23 [.slice A9 nn c9, .slice Ar mr cw], blkL gu 27 u.cells, tmL Ar mr rr, tmL A9 nn rs, blkL w.heap.size 27 t.cells] wy5 from (HM.out.below hb).cons (tmL B3 mc c1) (hr9))
          clear hb
          clear hc9 hr9
          go_wp2_with fail
          refine hK.out _ _ (HM.out.tail 0) (fun hHeld => ?_)
          clear hK K
          (try simp only [Act.put, List.setIfInBounds_toArray, List.set_cons_zero, List.set_cons_succ])
          refine wpAnyH_stronger (T := fun W' => Lows w [tmL B3 mc c1, tmL B2 ms s1, tmL B1 ms s1, blkL P1 27 y.cells, blkL gy 27 (tmsV [t, u]).flatten, tmL Al nl ls, blkL gs 23 [.slice A9 nn c9, .slice Ar mr cw], blkL gu 27 u.cells, tmL Ar mr rr, tmL A9 nn rs, blkL w.heap.size 27 t.cells] W') (fun _ h' => (h'.tail 0)) _ _ _ _ ?_
          replace hHeld := HM.out
          refine step_one 20 rfl (by kernel_rfl) (fun K hK => ?_)
          clear hHeld
          go_simp
          refine (HC2.out Al cl _ HCL.out (HM.out.get (f := tmL Al nl ls) 5 rfl)).mono ?_
          rintro e wy6 ⟨B4, b4, rfl, hc9, hr9, -, hb⟩
          replace HM := Lib.hid (show Lows w [tmL B4 mc c1, tmL B3 mc c1, tmL B2 ms s1, tmL B1 ms s1, blkL P1 27 y.cells, blkL gy 27 (tmsV [t, u]).flatten, tmL Al nl ls, blkL gs 23 [.slice A9 nn c9, .slice Ar mr cw], blkL gu 27 u.cells, tmL Ar mr rr, tmL A9 nn rs, blkL w.heap.size 27 t.cells] wy6 from (HM.out.below hb).cons (tmL B4 mc c1) (hr9))
          clear hb
          clear hc9 hr9
          go_wp2_with fail
          refine hK.out _ _ (HM.out.tail 0) (fun hHeld => ?_)
          clear hK K
          (try simp only [Act.put, List.setIfInBounds_toArray, List.set_cons_zero, List.set_cons_succ])
          refine wpAnyH_stronger (T := fun W' => Lows w [tmL B4 mc c1, tmL B3 mc c1, tmL B2 ms s1, tmL B1 ms s1, blkL P1 27 y.cells, blkL gy 27 (tmsV [t, u]).flatten, tmL Al nl ls, blkL gs 23 [.slice A9 nn c9, .slice Ar mr cw], blkL gu 27 u.cells, tmL Ar mr rr, tmL A9 nn rs, blkL w.heap.size 27 t.cells] W') (fun _ h' => (h'.tail 0)) _ _ _ _ ?_
          replace hHeld := HM.out
          refine step_one 21 rfl (by kernel_rfl) (fun K hK => ?_)
          clear hHeld
          go_simp
          refine (same_any B3 B4 mc b3 b4 c1 (by have := HMC.out; omega) _ (HM.out.get (f := tmL B3 mc c1) 1 rfl) (HM.out.get (f := tmL B4 mc c1) 0 rfl)).mono ?_
          rintro e wy7 ⟨rfl, hb⟩
          replace HM := Lib.hid (show Lows w [tmL B4 mc c1, tmL B3 mc c1, tmL B2 ms s1, tmL B1 ms s1, blkL P1 27 y.cells, blkL gy 27 (tmsV [t, u]).flatten, tmL Al nl ls, blkL gs 23 [.slice A9 nn c9, .slice Ar mr cw], blkL gu 27 u.cells, tmL Ar mr rr, tmL A9 nn rs, blkL w.heap.size 27 t.cells] wy7 from HM.out.below hb)
          clear hb
          go_wp2_with fail
          refine hK.out _ _ (HM.out) (fun hHeld => ?_)
          clear hK K
          (try simp only [Act.put, List.setIfInBounds_toArray, List.set_cons_zero, List.set_cons_succ])
          refine take_first (v := ?_) 22 rfl (by kernel_rfl) (by kernel_rfl) (by kernel_rfl) (fun _ _ _ h => h) (Or.inl ⟨by rfl, ?_⟩) (by assumption) ?_
          rotate_left
          · (intro w hSw; (try dsimp only at hSw); go_simp; try with_reducible rfl)
          (try simp only [Act.put, List.setIfInBounds_toArray, List.set_cons_zero, List.set_cons_succ])
          refine take_first (v := ?_) 23 rfl (by kernel_rfl) (by kernel_rfl) (by kernel_rfl) (fun _ _ _ h => h) (Or.inl ⟨by rfl, ?_⟩) (by assumption) ?_
          rotate_left
          · (intro w hSw; (try dsimp only at hSw); go_simp; try with_reducible rfl)
          (try simp only [Act.put, List.setIfInBounds_toArray, List.set_cons_zero, List.set_cons_succ])
          refine take_first (v := ?_) 24 rfl (by kernel_rfl) (by kernel_rfl) (by kernel_rfl) (fun _ _ _ h => h) (Or.inl ⟨by rfl, ?_⟩) (by assumption) ?_
          rotate_left
          · (intro w hSw; (try dsimp only at hSw); go_simp; try with_reducible rfl)
          (try simp only [Act.put, List.setIfInBounds_toArray, List.set_cons_zero, List.set_cons_succ])
          refine take_first (v := ?_) 25 rfl (by kernel_rfl) (by kernel_rfl) (by kernel_rfl) (fun _ _ _ h => h) (Or.inl ⟨by rfl, ?_⟩) (by assumption) ?_
          rotate_left
          · (intro w hSw; (try dsimp only at hSw); go_simp; try with_reducible rfl)
          (try simp only [Act.put, List.setIfInBounds_toArray, List.set_cons_zero, List.set_cons_succ])
          refine take_first (v := ?_) 26 rfl (by kernel_rfl) (by kernel_rfl) (by kernel_rfl) (fun _ _ _ h => h) (Or.inl ⟨by rfl, ?_⟩) (by assumption) ?_
          rotate_left
          · (intro w hSw; (try dsimp only at hSw); go_simp; try with_reducible rfl)
          (try simp only [Act.put, List.setIfInBounds_toArray, List.set_cons_zero, List.set_cons_succ])
          refine take_first (v := .agg yk) 27 rfl (by kernel_rfl) (by kernel_rfl) (by kernel_rfl) (fun _ _ _ h => h) (by rw [← HYK.out]; exact yields_load_obj (by rfl) 25 (.tmp 85) rfl P1 1 rfl (y.peer.map u8v) (fun w' hb => peer_at (Lows.blk hb 4 rfl).all) _ Try.underlying25 rfl (key_cellsOf y.peer HYO.out.2.1)) (by assumption) ?_
          (try simp only [Act.put, List.setIfInBounds_toArray, List.set_cons_zero, List.set_cons_succ])
          refine take_first (v := ?_) 29 rfl (by kernel_rfl) (by kernel_rfl) (by kernel_rfl) (fun _ _ _ h => h) (Or.inl ⟨by rfl, ?_⟩) (by assumption) ?_
          rotate_left
          · (intro w hSw; (try dsimp only at hSw); go_simp; try with_reducible rfl)
          (try simp only [Act.put, List.setIfInBounds_toArray, List.set_cons_zero, List.set_cons_succ])
          refine take_first (v := ?_) 30 rfl (by kernel_rfl) (by kernel_rfl) (by kernel_rfl) (fun _ _ _ h => h) (Or.inl ⟨by rfl, ?_⟩) (by assumption) ?_
          rotate_left
          · (intro w hSw; (try dsimp only at hSw); go_simp; try with_reducible rfl)
          (try simp only [Act.put, List.setIfInBounds_toArray, List.set_cons_zero, List.set_cons_succ])
          refine take_first (v := .agg yk) 31 rfl (by kernel_rfl) (by kernel_rfl) (by kernel_rfl) (fun _ _ _ h => h) (by rw [← HYK.out]; exact yields_load_obj (by rfl) 25 (.tmp 89) rfl P1 1 rfl (y.peer.map u8v) (fun w' hb => peer_at (Lows.blk hb 4 rfl).all) _ Try.underlying25 rfl (key_cellsOf y.peer HYO.out.2.1)) (by assumption) ?_
          (try simp only [Act.put, List.setIfInBounds_toArray, List.set_cons_zero, List.set_cons_succ])
          refine step_one 28 rfl (by kernel_rfl) (fun K hK => ?_)
          clear hHeld
          go_simp
          refine (HP1.out Al cl _ HCL.out (HM.out.get (f := tmL Al nl ls) 6 rfl)).mono ?_
          rintro e wy8 ⟨B5, b5, rfl, hc9, hr9, -, hb⟩
          replace HM := Lib.hid (show Lows w [tmL B5 mp p1, tmL B4 mc c1, tmL B3 mc c1, tmL B2 ms s1, tmL B1 ms s1, blkL P1 27 y.cells, blkL gy 27 (tmsV [t, u]).flatten, tmL Al nl ls, blkL gs 23 [.slice A9 nn c9, .slice Ar mr cw], blkL gu 27 u.cells, tmL Ar mr rr, tmL A9 nn rs, blkL w.heap.size 27 t.cells] wy8 from (HM.out.below hb).cons (tmL B5 mp p1) (hr9))
          clear hb
          clear hc9 hr9
          go_wp2_with fail
          refine hK.out _ _ (HM.out.tail 0) (fun hHeld => ?_)
          clear hK K
          (try simp only [Act.put, List.setIfInBounds_toArray, List.set_cons_zero, List.set_cons_succ])
          refine wpAnyH_stronger (T := fun W' => Lows w [tmL B5 mp p1, tmL B4 mc c1, tmL B3 mc c1, tmL B2 ms s1, tmL B1 ms s1, blkL P1 27 y.cells, blkL gy 27 (tmsV [t, u]).flatten, tmL Al nl ls, blkL gs 23 [.slice A9 nn c9, .slice Ar mr cw], blkL gu 27 u.cells, tmL Ar mr rr, tmL A9 nn rs, blkL w.heap.size 27 t.cells] W') (fun _ h' => (h'.tail 0)) _ _ _ _ ?_
          replace hHeld := HM.out
          refine step_one 32 rfl (by kernel_rfl) (fun K hK => ?_)
          clear hHeld
          go_simp
          refine (HP2.out Al cl _ HCL.out (HM.out.get (f := tmL Al nl ls) 7 rfl)).mono ?_
          rintro e wy9 ⟨B6, b6, rfl, hc9, hr9, -, hb⟩
          replace HM := Lib.hid (show Lows w [tmL B6 mp p1, tmL B5 mp p1, tmL B4 mc c1, tmL B3 mc c1, tmL B2 ms s1, tmL B1 ms s1, blkL P1 27 y.cells, blkL gy 27 (tmsV [t, u]).flatten, tmL Al nl ls, blkL gs 23 [.slice A9 nn c9, .slice Ar mr cw], blkL gu 27 u.cells, tmL Ar mr rr, tmL A9 nn rs, blkL w.heap.size 27 t.cells] wy9 from (HM.out.below hb).cons (tmL B6 mp p1) (hr9))
          clear hb
          clear hc9 hr9
          go_wp2_with fail
          refine hK.out _ _ (HM.out.tail 0) (fun hHeld => ?_)
          clear hK K
          (try simp only [Act.put, List.setIfInBounds_toArray, List.set_cons_zero, List.set_cons_succ])
          refine wpAnyH_stronger (T := fun W' => Lows w [tmL B6 mp p1, tmL B5 mp p1, tmL B4 mc c1, tmL B3 mc c1, tmL B2 ms s1, tmL B1 ms s1, blkL P1 27 y.cells, blkL gy 27 (tmsV [t, u]).flatten, tmL Al nl ls, blkL gs 23 [.slice A9 nn c9, .slice Ar mr cw], blkL gu 27 u.cells, tmL Ar mr rr, tmL A9 nn rs, blkL w.heap.size 27 t.cells] W') (fun _ h' => (h'.tail 0)) _ _ _ _ ?_
          replace hHeld := HM.out
          refine step_one 33 rfl (by kernel_rfl) (fun K hK => ?_)
          clear hHeld
          go_simp
          refine (same_any B5 B6 mp b5 b6 p1 (by have := HMP.out; omega) _ (HM.out.get (f := tmL B5 mp p1) 1 rfl) (HM.out.get (f := tmL B6 mp p1) 0 rfl)).mono ?_
          rintro e wy10 ⟨rfl, hb⟩
          replace HM := Lib.hid (show Lows w [tmL B6 mp p1, tmL B5 mp p1, tmL B4 mc c1, tmL B3 mc c1, tmL B2 ms s1, tmL B1 ms s1, blkL P1 27 y.cells, blkL gy 27 (tmsV [t, u]).flatten, tmL Al nl ls, blkL gs 23 [.slice A9 nn c9, .slice Ar mr cw], blkL gu 27 u.cells, tmL Ar mr rr, tmL A9 nn rs, blkL w.heap.size 27 t.cells] wy10 from HM.out.below hb)
          clear hb
          go_wp2_with fail
          refine hK.out _ _ (HM.out) (fun hHeld => ?_)
          clear hK K
          (try simp only [Act.put, List.setIfInBounds_toArray, List.set_cons_zero, List.set_cons_succ])
          refine take_first (v := ?_) 34 rfl (by kernel_rfl) (by kernel_rfl) (by kernel_rfl) (fun _ _ _ h => h) (Or.inl ⟨by rfl, ?_⟩) (by assumption) ?_
          rotate_left
          · (intro w hSw; (try dsimp only at hSw); go_simp; try with_reducible rfl)
          (try simp only [Act.put, List.setIfInBounds_toArray, List.set_cons_zero, List.set_cons_succ])
          refine take_first (v := ?_) 35 rfl (by kernel_rfl) (by kernel_rfl) (by kernel_rfl) (fun _ _ _ h => h) (Or.inl ⟨by rfl, ?_⟩) (by assumption) ?_
          rotate_left
          · (intro w hSw; (try dsimp only at hSw); go_simp; try with_reducible rfl)
          (try simp only [Act.put, List.setIfInBounds_toArray, List.set_cons_zero, List.set_cons_succ])
          refine take_first (v := ?_) 36 rfl (by kernel_rfl) (by kernel_rfl) (by kernel_rfl) (fun _ _ _ h => h) (Or.inl ⟨by rfl, ?_⟩) (by assumption) ?_
          rotate_left
          · (intro w hSw; (try dsimp only at hSw); go_simp; try with_reducible rfl)
          (try simp only [Act.put, List.setIfInBounds_toArray, List.set_cons_zero, List.set_cons_succ])
          refine take_first (v := ?_) 37 rfl (by kernel_rfl) (by kernel_rfl) (by kernel_rfl) (fun _ _ _ h => h) (Or.inl ⟨by rfl, ?_⟩) (by assumption) ?_
          rotate_left
          · (intro w hSw; (try dsimp only at hSw); go_simp; try with_reducible rfl)
          (try simp only [Act.put, List.setIfInBounds_toArray, List.set_cons_zero, List.set_cons_succ])
          refine take_first (v := ?_) 38 rfl (by kernel_rfl) (by kernel_rfl) (by kernel_rfl) (fun _ _ _ h => h) (Or.inl ⟨by rfl, ?_⟩) (by assumption) ?_
          rotate_left
          · (intro w hSw; (try dsimp only at hSw); go_simp; try with_reducible rfl)
          (try simp only [Act.put, List.setIfInBounds_toArray, List.set_cons_zero, List.set_cons_succ])
          refine take_first (v := .agg yk) 39 rfl (by kernel_rfl) (by kernel_rfl) (by kernel_rfl) (fun _ _ _ h => h) (by rw [← HYK.out]; exact yields_load_obj (by rfl) 25 (.tmp 97) rfl P1 1 rfl (y.peer.map u8v) (fun w' hb => peer_at (Lows.blk hb 6 rfl).all) _ Try.underlying25 rfl (key_cellsOf y.peer HYO.out.2.1)) (by assumption) ?_
          (try simp only [Act.put, List.setIfInBounds_toArray, List.set_cons_zero, List.set_cons_succ])
          refine take_first (v := ?_) 40 rfl (by kernel_rfl) (by kernel_rfl) (by kernel_rfl) (fun _ _ _ h => h) (Or.inl ⟨by rfl, ?_⟩) (by assumption) ?_
          rotate_left
          · (intro w hSw; (try dsimp only at hSw); go_simp; try with_reducible rfl)
          (try simp only [Act.put, List.setIfInBounds_toArray, List.set_cons_zero, List.set_cons_succ])
          refine take_first (v := ?_) 41 rfl (by kernel_rfl) (by kernel_rfl) (by kernel_rfl) (fun _ _ _ h => h) (Or.inl ⟨by rfl, ?_⟩) (by assumption) ?_
          rotate_left
          · (intro w hSw; (try dsimp only at hSw); have fb := kind_at (Lows.blk hSw 6 rfl).all HYO.out; rw [HYD.out] at fb; go_simp; try with_reducible rfl)
          (try simp only [Act.put, List.setIfInBounds_toArray, List.set_cons_zero, List.set_cons_succ])
          refine take_first (v := ?_) 43 rfl (by kernel_rfl) (by kernel_rfl) (by kernel_rfl) (fun _ _ _ h => h) (Or.inl ⟨by rfl, ?_⟩) (by assumption) ?_
          rotate_left
          · (intro w hSw; (try dsimp only at hSw); go_simp; try with_reducible rfl)
          (try simp only [Act.put, List.setIfInBounds_toArray, List.set_cons_zero, List.set_cons_succ])
          refine take_first (v := ?_) 44 rfl (by kernel_rfl) (by kernel_rfl) (by kernel_rfl) (fun _ _ _ h => h) (Or.inl ⟨by rfl, ?_⟩) (by assumption) ?_
          rotate_left
          · (intro w hSw; (try dsimp only at hSw); go_simp; try with_reducible rfl)
          (try simp only [Act.put, List.setIfInBounds_toArray, List.set_cons_zero, List.set_cons_succ])
          refine take_first (v := .agg yk) 45 rfl (by kernel_rfl) (by kernel_rfl) (by kernel_rfl) (fun _ _ _ h => h) (by rw [← HYK.out]; exact yields_load_obj (by rfl) 25 (.tmp 103) rfl P1 1 rfl (y.peer.map u8v) (fun w' hb => peer_at (Lows.blk hb 6 rfl).all) _ Try.underlying25 rfl (key_cellsOf y.peer HYO.out.2.1)) (by assumption) ?_
          (try simp only [Act.put, List.setIfInBounds_toArray, List.set_cons_zero, List.set_cons_succ])
          refine take_first (v := ?_) 46 rfl (by kernel_rfl) (by kernel_rfl) (by kernel_rfl) (fun _ _ _ h => h) (Or.inl ⟨by rfl, ?_⟩) (by assumption) ?_
          rotate_left
          · (intro w hSw; (try dsimp only at hSw); go_simp; try with_reducible rfl)
          (try simp only [Act.put, List.setIfInBounds_toArray, List.set_cons_zero, List.set_cons_succ])
          refine take_first (v := ?_) 47 rfl (by kernel_rfl) (by kernel_rfl) (by kernel_rfl) (fun _ _ _ h => h) (Or.inl ⟨by rfl, ?_⟩) (by assumption) ?_
          rotate_left
          · (intro w hSw; (try dsimp only at hSw); have fb := kind_at (Lows.blk hSw 6 rfl).all HYO.out; rw [HYD.out] at fb; go_simp; try with_reducible rfl)
          (try simp only [Act.put, List.setIfInBounds_toArray, List.set_cons_zero, List.set_cons_succ])
          refine step_one 42 rfl (by kernel_rfl) (fun K hK => ?_)
          clear hHeld
          go_simp
          refine (HH1.out _ (HM.out.get (f := tmL Al nl ls) 8 rfl)).mono ?_
          rintro e wy11 ⟨rfl, hb⟩
          replace HM := Lib.hid (show Lows w [tmL B6 mp p1, tmL B5 mp p1, tmL B4 mc c1, tmL B3 mc c1, tmL B2 ms s1, tmL B1 ms s1, blkL P1 27 y.cells, blkL gy 27 (tmsV [t, u]).flatten, tmL Al nl ls, blkL gs 23 [.slice A9 nn c9, .slice Ar mr cw], blkL gu 27 u.cells, tmL Ar mr rr, tmL A9 nn rs, blkL w.heap.size 27 t.cells] wy11 from HM.out.below hb)
          clear hb
          go_wp2_with fail
          refine hK.out _ _ (HM.out) (fun hHeld => ?_)
          clear hK K
          (try simp only [Act.put, List.setIfInBounds_toArray, List.set_cons_zero, List.set_cons_succ])
          refine step_one 48 rfl (by kernel_rfl) (fun K hK => ?_)
          clear hHeld
          go_simp
          refine (HH2.out _ (HM.out.get (f := tmL Al nl ls) 8 rfl)).mono ?_
          rintro e wy12 ⟨rfl, hb⟩
          replace HM := Lib.hid (show Lows w [tmL B6 mp p1, tmL B5 mp p1, tmL B4 mc c1, tmL B3 mc c1, tmL B2 ms s1, tmL B1 ms s1, blkL P1 27 y.cells, blkL gy 27 (tmsV [t, u]).flatten, tmL Al nl ls, blkL gs 23 [.slice A9 nn c9, .slice Ar mr cw], blkL gu 27 u.cells, tmL Ar mr rr, tmL A9 nn rs, blkL w.heap.size 27 t.cells] wy12 from HM.out.below hb)
          clear hb
          go_wp2_with fail
          refine hK.out _ _ (HM.out) (fun hHeld => ?_)
          clear hK K
          (try simp only [Act.put, List.setIfInBounds_toArray, List.set_cons_zero, List.set_cons_succ])
          refine take_first (v := ?_) 49 rfl (by kernel_rfl) (by kernel_rfl) (by kernel_rfl) (fun _ _ _ h => h) (Or.inl ⟨by rfl, ?_⟩) (by assumption) ?_
          rotate_left
          · (intro w hSw; (try dsimp only at hSw); go_simp; try with_reducible rfl)
          (try simp only [Act.put, List.setIfInBounds_toArray, List.set_cons_zero, List.set_cons_succ])
          refine take_first (v := ?_) 50 rfl (by kernel_rfl) (by kernel_rfl) (by kernel_rfl) (fun _ _ _ h => h) (Or.inl ⟨by rfl, ?_⟩) (by assumption) ?_
          rotate_left
          · (intro w hSw; (try dsimp only at hSw); go_simp; try with_reducible rfl)
          (try simp only [Act.put, List.setIfInBounds_toArray, List.set_cons_zero, List.set_cons_succ])
          refine wpAnyH_done (by kernel_rfl) ?_ _
          clear hHeld
          replace HM := Lib.hid (show Lows w [blkL P1 27 y.cells, blkL gy 27 (tmsV [t, u]).flatten, tmL Al nl ls, blkL gs 23 [.slice A9 nn c9, .slice Ar mr cw], blkL gu 27 u.cells, tmL Ar mr rr, tmL A9 nn rs, blkL w.heap.size 27 t.cells] wy12 from HM.out |>.tail 0 |>.tail 0 |>.tail 0 |>.tail 0 |>.tail 0 |>.tail 0)
          have ft := tm_at (HM.out.blk 0 rfl).all
          rw [HYT.out] at ft
          have ez1 := HEZ.out
          go_upto_region 13 with fail
          clear ft ez1
          have HM5 := Lib.hid (HM.out.alloc 2 #[.int .i64 tz, .int .i64 yt, .int .i64 z3] [.int .i64 tz, .int .i64 yt, .int .i64 z3] rfl)
          clear HM
          generalize wy12.alloc (.cells #[.int .i64 tz, .int .i64 yt, .int .i64 z3] 2) = wn at HM5 ⊢
          generalize wy12.heap.size = gn at HM5 ⊢
          have HM := Lib.hid (show Lows w [blkL gn 2 [.int .i64 tz, .int .i64 yt, .int .i64 z3], blkL P1 27 y.cells, blkL gy 27 (tmsV [t, u]).flatten, tmL Al nl ls, blkL gs 23 [.slice A9 nn c9, .slice Ar mr cw], blkL gu 27 u.cells, tmL Ar mr rr, tmL A9 nn rs, blkL w.heap.size 27 t.cells] wn from HM5.out)
          have HJ := Lib.hid (show ∀ j, j < 3 → ∃ z : Int, inI64 z ∧ ∀ W, Lows w [blkL gn 2 [.int .i64 tz, .int .i64 yt, .int .i64 z3], blkL P1 27 y.cells, blkL gy 27 (tmsV [t, u]).flatten, tmL Al nl ls, blkL gs 23 [.slice A9 nn c9, .slice Ar mr cw], blkL gu 27 u.cells, tmL Ar mr rr, tmL A9 nn rs, blkL w.heap.size 27 t.cells] W → W.cell? ⟨gn, j, none⟩ = some (.int .i64 z) from fun j hj => by
            rcases (show j = 0 ∨ j = 1 ∨ j = 2 by omega) with rfl | rfl | rfl
            · exact ⟨tz, HTZ.out, fun W h => (h.blk 0 rfl).cell 0⟩
            · exact ⟨yt, HYT.out ▸ HYO.out.1, fun W h => (h.blk 0 rfl).cell 1⟩
            · exact ⟨z3, HZ3.out, fun W h => (h.blk 0 rfl).cell 2⟩)
          clear HM5
          go_loopw [118] (fun v wz => ∃ j : Nat, j ≤ 3 ∧ v = .int .i64 (j : Int) ∧ Lows w [blkL gn 2 [.int .i64 tz, .int .i64 yt, .int .i64 z3], blkL P1 27 y.cells, blkL gy 27 (tmsV [t, u]).flatten, tmL Al nl ls, blkL gs 23 [.slice A9 nn c9, .slice Ar mr cw], blkL gu 27 u.cells, tmL Ar mr rr, tmL A9 nn rs, blkL w.heap.size 27 t.cells] wz) (fun v _ => 3 - (intOf v).toNat)
          case atStart => exact ⟨0, Nat.zero_le _, rfl, HM.out⟩
          case round =>
            clear HM
            obtain ⟨a, ha, rfl, hM⟩ := hrel
            have HM := Lib.hid hM
            clear hM
            by_cases ha3 : a < 3
            · have d1 : decide ((a : Int) < 3) = true := by simp; omega
              obtain ⟨z, hz, hcell⟩ := HJ.out a ha3
              have hcl := hcell _ HM.out
              have hdo := dueT_ok (HM.out.get (f := tmL Al nl ls) 3 rfl).2 z
              have v1 := fun W hr => HDUH.out Al nl cl ls z W hz ⟨by have := HNL.out; omega, HCL.out.1, HCL.out.2, hr⟩
              have v2 := fun W hr => refDueT_any Al nl cl ls z W hz ⟨by have := HNL.out; omega, HCL.out.1, HCL.out.2, hr⟩
              obtain ⟨dq, hdq⟩ : ∃ x, (dueT ls z).1 = x := ⟨_, rfl⟩
              obtain ⟨db, hdb⟩ : ∃ x, (dueT ls z).2 = x := ⟨_, rfl⟩
              rw [hdq] at hdo v1 v2
              rw [hdb] at v1 v2
              obtain ⟨dc, hdc⟩ : ∃ x, dq.cells.toArray = x := ⟨_, rfl⟩
              rw [hdc] at v1 v2
              have HD1 := Lib.hid v1
              have HD2 := Lib.hid v2
              have HDO := Lib.hid hdo
              have HDC := Lib.hid hdc
              have HDQ := Lib.hid (show ∀ W : World, (Op.equalIn 10000 27 (.agg dc) (.agg dc)).run Try.prog W = .ok true W from fun W => by rw [← hdc]; exact timer_eqd dq dq hdo hdo W true (by simp))
              clear v1 v2 hdo hdq hdb hdc hcell
              go_upto_region 15 with fail
              clear hcl
              go_wp2_with fail
              refine (HD1.out _ (HM.out.get (f := tmL Al nl ls) 3 rfl)).mono ?_
              rintro e wc ⟨rfl, hb⟩
              replace HM := Lib.hid (HM.out.below hb)
              clear hb
              have HZ := Lib.hid (Blk.new wc 27 timerZ)
              go_upto_region 16 with ((with_reducible refine at_op (.store 27 (.tmp 21) (.tmp 126)) rfl ?_); refine wpList_store_obj rfl 27 (.tmp 21) (.tmp 126) rfl wc.heap.size 0 dq.cells rfl (by show Value.agg dc = _; rw [HDC.out]) 27 timerZ HZ.out (timer_cellsOf _ HDO.out) (by rw [TimerM.cells_length HDO.out, timerZ_length]; omega) (timer_one _) ?_; intro w5 hb5 hg5)
              rw [setL_all _ _ (by rw [TimerM.cells_length HDO.out, timerZ_length])] at hb5
              replace HM := Lib.hid ((HM.out.below (below_fresh hg5)).cons (blkL wc.heap.size 27 dq.cells) hb5)
              clear hb5 hg5 HZ
              generalize wc.heap.size = g1 at HM ⊢
              go_wp2_with fail
              refine (HD2.out _ (HM.out.get (f := tmL Al nl ls) 4 rfl)).mono ?_
              rintro e wd ⟨rfl, hb⟩
              replace HM := Lib.hid (HM.out.below hb)
              clear hb
              have HZ := Lib.hid (Blk.new wd 27 timerZ)
              go_upto_region 17 with ((with_reducible refine at_op (.store 27 (.tmp 23) (.tmp 132)) rfl ?_); refine wpList_store_obj rfl 27 (.tmp 23) (.tmp 132) rfl wd.heap.size 0 dq.cells rfl (by show Value.agg dc = _; rw [HDC.out]) 27 timerZ HZ.out (timer_cellsOf _ HDO.out) (by rw [TimerM.cells_length HDO.out, timerZ_length]; omega) (timer_one _) ?_; intro w5 hb5 hg5)
              rw [setL_all _ _ (by rw [TimerM.cells_length HDO.out, timerZ_length])] at hb5
              replace HM := Lib.hid ((HM.out.below (below_fresh hg5)).cons (blkL wd.heap.size 27 dq.cells) hb5)
              clear hb5 hg5 HZ
              generalize wd.heap.size = g2 at HM ⊢
              go_wp2_with (first | ((with_reducible refine at_op (.load 27 (.tmp 21)) rfl ?_); refine wpList_load_obj rfl 27 (.tmp 21) rfl g1 0 rfl dq.cells (HM.out.blk 1 rfl).all _ Try.underlying27 rfl (timer_cellsOf _ HDO.out) ?_; rw [HDC.out]) | ((with_reducible refine at_op (.load 27 (.tmp 23)) rfl ?_); refine wpList_load_obj rfl 27 (.tmp 23) rfl g2 0 rfl dq.cells (HM.out.blk 0 rfl).all _ Try.underlying27 rfl (timer_cellsOf _ HDO.out) ?_; rw [HDC.out]) | ((with_reducible refine at_op (.binOp .neq 27 (.tmp 134) (.tmp 135) 27) rfl ?_); refine wpList_neq_agg (by rfl) 27 27 134 135 rfl dc dc true rfl rfl timer_noguard (HDQ.out _) ?_))
              replace HM := Lib.hid ((HM.out.tail 0).tail 0)
              go_roundw
              case rel => exact ⟨a + 1, by omega, by go_num, HM.out⟩
              case measure => simp [intOf]; omega
            · obtain rfl : a = 3 := by omega
              replace HM := Lib.hid (show Lows w [blkL gy 27 (tmsV [t, u]).flatten, tmL Al nl ls, blkL gs 23 [.slice A9 nn c9, .slice Ar mr cw], blkL gu 27 u.cells, tmL Ar mr rr, tmL A9 nn rs, blkL w.heap.size 27 t.cells] _ from (HM.out.tail 0).tail 0)
              go_wp2_with fail
              go_roundw
              case rel => exact ⟨j + 1, by omega, by go_num, HM.out⟩
              case measure => simp [intOf]; omega
        · obtain rfl : j = 2 := by omega
          have v1 := HVAH.out Al nl cl ls
          have v2 := refValidT_any Al nl cl ls
          obtain ⟨vl, hvl⟩ : ∃ z, validT ls = z := ⟨_, rfl⟩
          rw [hvl] at v1 v2
          have HV1 := Lib.hid v1
          have HV2 := Lib.hid v2
          clear v1 v2 hvl
          go_wp2_with fail
          refine (HV1.out _ ⟨by have := HNL.out; omega, HCL.out.1, HCL.out.2, (HM.out.get (f := tmL Al nl ls) 1 rfl)⟩).mono ?_
          rintro e wp ⟨rfl, hb⟩
          replace HM := Lib.hid (HM.out.below hb)
          clear hb
          go_wp2_with fail
          refine (HV2.out _ ⟨by have := HNL.out; omega, HCL.out.1, HCL.out.2, (HM.out.get (f := tmL Al nl ls) 1 rfl)⟩).mono ?_
          rintro e wq ⟨rfl, hb⟩
          replace HM := Lib.hid (show Lows w [blkL gs 23 [.slice A9 nn c9, .slice Ar mr cw], blkL gu 27 u.cells, tmL Ar mr rr, tmL A9 nn rs, blkL w.heap.size 27 t.cells] wq from ((HM.out.below hb).tail 0).tail 0)
          clear hb
          go_wp2_with fail
          go_roundw
          case rel => exact ⟨i + 1, by omega, by go_num, HM.out⟩
          case measure => simp [intOf]; omega
    · obtain rfl : i = 2 := by omega
      go_upto_region 24 with fail
      refine wp_region_held_drew (S := fun W' => Lows w [blkL gs 23 [.slice A9 nn c9, .slice Ar mr cw], blkL gu 27 u.cells, tmL Ar mr rr, tmL A9 nn rs, blkL w.heap.size 27 t.cells] W') (by kernel_rfl) (HM.out.drew) (fun hHeld => ?_)
      replace HM := Lib.hid HM.out.drew
      generalize wr.drew = wd1 at HM hHeld ⊢
      refine take_first (v := .agg tc) 0 rfl (by kernel_rfl) (by kernel_rfl) (by kernel_rfl) (fun _ _ _ h => h) (by rw [← HTC.out]; exact yields_load_obj (by rfl) 27 (.tmp 8) rfl w.heap.size 0 rfl t.cells (fun w' hb => (Lows.blk hb 4 rfl).all) _ Try.underlying27 rfl (timer_cellsOf t HOT.out)) (by assumption) ?_
      (try simp only [Act.put, List.setIfInBounds_toArray, List.set_cons_zero, List.set_cons_succ])
      refine take_first (v := .agg uc) 1 rfl (by kernel_rfl) (by kernel_rfl) (by kernel_rfl) (fun _ _ _ h => h) (by rw [← HUC.out]; exact yields_load_obj (by rfl) 27 (.tmp 14) rfl gu 0 rfl u.cells (fun w' hb => (Lows.blk hb 1 rfl).all) _ Try.underlying27 rfl (timer_cellsOf u HOU.out)) (by assumption) ?_
      (try simp only [Act.put, List.setIfInBounds_toArray, List.set_cons_zero, List.set_cons_succ])
      refine take_first (v := .agg tc) 3 rfl (by kernel_rfl) (by kernel_rfl) (by kernel_rfl) (fun _ _ _ h => h) (by rw [← HTC.out]; exact yields_load_obj (by rfl) 27 (.tmp 8) rfl w.heap.size 0 rfl t.cells (fun w' hb => (Lows.blk hb 4 rfl).all) _ Try.underlying27 rfl (timer_cellsOf t HOT.out)) (by assumption) ?_
      (try simp only [Act.put, List.setIfInBounds_toArray, List.set_cons_zero, List.set_cons_succ])
      refine take_first (v := .agg uc) 4 rfl (by kernel_rfl) (by kernel_rfl) (by kernel_rfl) (fun _ _ _ h => h) (by rw [← HUC.out]; exact yields_load_obj (by rfl) 27 (.tmp 14) rfl gu 0 rfl u.cells (fun w' hb => (Lows.blk hb 1 rfl).all) _ Try.underlying27 rfl (timer_cellsOf u HOU.out)) (by assumption) ?_
      (try simp only [Act.put, List.setIfInBounds_toArray, List.set_cons_zero, List.set_cons_succ])
      refine step_one 2 rfl (by kernel_rfl) (fun K hK => ?_)
      clear hHeld
      go_simp
      refine (HL1.out _).mono ?_
      rintro e wy2 ⟨rfl, hb⟩
      replace HM := Lib.hid (show Lows w [blkL gs 23 [.slice A9 nn c9, .slice Ar mr cw], blkL gu 27 u.cells, tmL Ar mr rr, tmL A9 nn rs, blkL w.heap.size 27 t.cells] wy2 from HM.out.below hb)
      clear hb
      go_wp2_with fail
      refine hK.out _ _ (HM.out) (fun hHeld => ?_)
      clear hK K
      (try simp only [Act.put, List.setIfInBounds_toArray, List.set_cons_zero, List.set_cons_succ])
      refine step_one 5 rfl (by kernel_rfl) (fun K hK => ?_)
      clear hHeld
      go_simp
      refine (HL2.out _).mono ?_
      rintro e wy3 ⟨rfl, hb⟩
      replace HM := Lib.hid (show Lows w [blkL gs 23 [.slice A9 nn c9, .slice Ar mr cw], blkL gu 27 u.cells, tmL Ar mr rr, tmL A9 nn rs, blkL w.heap.size 27 t.cells] wy3 from HM.out.below hb)
      clear hb
      go_wp2_with fail
      refine hK.out _ _ (HM.out) (fun hHeld => ?_)
      clear hK K
      (try simp only [Act.put, List.setIfInBounds_toArray, List.set_cons_zero, List.set_cons_succ])
      refine take_first (v := ?_) 6 rfl (by kernel_rfl) (by kernel_rfl) (by kernel_rfl) (fun _ _ _ h => h) (Or.inl ⟨by rfl, ?_⟩) (by assumption) ?_
      rotate_left
      · (intro w hSw; (try dsimp only at hSw); go_simp; try with_reducible rfl)
      (try simp only [Act.put, List.setIfInBounds_toArray, List.set_cons_zero, List.set_cons_succ])
      refine take_first (v := ?_) 7 rfl (by kernel_rfl) (by kernel_rfl) (by kernel_rfl) (fun _ _ _ h => h) (Or.inl ⟨by rfl, ?_⟩) (by assumption) ?_
      rotate_left
      · (intro w hSw; (try dsimp only at hSw); go_simp; try with_reducible rfl)
      (try simp only [Act.put, List.setIfInBounds_toArray, List.set_cons_zero, List.set_cons_succ])
      refine take_first (v := .agg uc) 8 rfl (by kernel_rfl) (by kernel_rfl) (by kernel_rfl) (fun _ _ _ h => h) (by rw [← HUC.out]; exact yields_load_obj (by rfl) 27 (.tmp 14) rfl gu 0 rfl u.cells (fun w' hb => (Lows.blk hb 1 rfl).all) _ Try.underlying27 rfl (timer_cellsOf u HOU.out)) (by assumption) ?_
      (try simp only [Act.put, List.setIfInBounds_toArray, List.set_cons_zero, List.set_cons_succ])
      refine take_first (v := .agg tc) 9 rfl (by kernel_rfl) (by kernel_rfl) (by kernel_rfl) (fun _ _ _ h => h) (by rw [← HTC.out]; exact yields_load_obj (by rfl) 27 (.tmp 8) rfl w.heap.size 0 rfl t.cells (fun w' hb => (Lows.blk hb 4 rfl).all) _ Try.underlying27 rfl (timer_cellsOf t HOT.out)) (by assumption) ?_
      (try simp only [Act.put, List.setIfInBounds_toArray, List.set_cons_zero, List.set_cons_succ])
      refine take_first (v := .agg uc) 11 rfl (by kernel_rfl) (by kernel_rfl) (by kernel_rfl) (fun _ _ _ h => h) (by rw [← HUC.out]; exact yields_load_obj (by rfl) 27 (.tmp 14) rfl gu 0 rfl u.cells (fun w' hb => (Lows.blk hb 1 rfl).all) _ Try.underlying27 rfl (timer_cellsOf u HOU.out)) (by assumption) ?_
      (try simp only [Act.put, List.setIfInBounds_toArray, List.set_cons_zero, List.set_cons_succ])
      refine take_first (v := .agg tc) 12 rfl (by kernel_rfl) (by kernel_rfl) (by kernel_rfl) (fun _ _ _ h => h) (by rw [← HTC.out]; exact yields_load_obj (by rfl) 27 (.tmp 8) rfl w.heap.size 0 rfl t.cells (fun w' hb => (Lows.blk hb 4 rfl).all) _ Try.underlying27 rfl (timer_cellsOf t HOT.out)) (by assumption) ?_
      (try simp only [Act.put, List.setIfInBounds_toArray, List.set_cons_zero, List.set_cons_succ])
      refine step_one 10 rfl (by kernel_rfl) (fun K hK => ?_)
      clear hHeld
      go_simp
      refine (HL3.out _).mono ?_
      rintro e wy4 ⟨rfl, hb⟩
      replace HM := Lib.hid (show Lows w [blkL gs 23 [.slice A9 nn c9, .slice Ar mr cw], blkL gu 27 u.cells, tmL Ar mr rr, tmL A9 nn rs, blkL w.heap.size 27 t.cells] wy4 from HM.out.below hb)
      clear hb
      go_wp2_with fail
      refine hK.out _ _ (HM.out) (fun hHeld => ?_)
      clear hK K
      (try simp only [Act.put, List.setIfInBounds_toArray, List.set_cons_zero, List.set_cons_succ])
      refine step_one 13 rfl (by kernel_rfl) (fun K hK => ?_)
      clear hHeld
      go_simp
      refine (HL4.out _).mono ?_
      rintro e wy5 ⟨rfl, hb⟩
      replace HM := Lib.hid (show Lows w [blkL gs 23 [.slice A9 nn c9, .slice Ar mr cw], blkL gu 27 u.cells, tmL Ar mr rr, tmL A9 nn rs, blkL w.heap.size 27 t.cells] wy5 from HM.out.below hb)
      clear hb
      go_wp2_with fail
      refine hK.out _ _ (HM.out) (fun hHeld => ?_)
      clear hK K
      (try simp only [Act.put, List.setIfInBounds_toArray, List.set_cons_zero, List.set_cons_succ])
      refine take_first (v := ?_) 14 rfl (by kernel_rfl) (by kernel_rfl) (by kernel_rfl) (fun _ _ _ h => h) (Or.inl ⟨by rfl, ?_⟩) (by assumption) ?_
      rotate_left
      · (intro w hSw; (try dsimp only at hSw); go_simp; try with_reducible rfl)
      (try simp only [Act.put, List.setIfInBounds_toArray, List.set_cons_zero, List.set_cons_succ])
      refine take_first (v := ?_) 15 rfl (by kernel_rfl) (by kernel_rfl) (by kernel_rfl) (fun _ _ _ h => h) (Or.inl ⟨by rfl, ?_⟩) (by assumption) ?_
      rotate_left
      · (intro w hSw; (try dsimp only at hSw); go_simp; try with_reducible rfl)
      (try simp only [Act.put, List.setIfInBounds_toArray, List.set_cons_zero, List.set_cons_succ])
      refine take_first (v := ?_) 16 rfl (by kernel_rfl) (by kernel_rfl) (by kernel_rfl) (fun _ _ _ h => h) (Or.inl ⟨by rfl, ?_⟩) (by assumption) ?_
      rotate_left
      · (intro w hSw; (try dsimp only at hSw); go_simp; try with_reducible rfl)
      (try simp only [Act.put, List.setIfInBounds_toArray, List.set_cons_zero, List.set_cons_succ])
      refine take_first (v := ?_) 17 rfl (by kernel_rfl) (by kernel_rfl) (by kernel_rfl) (fun _ _ _ h => h) (Or.inl ⟨by rfl, ?_⟩) (by assumption) ?_
      rotate_left
      · (intro w hSw; (try dsimp only at hSw); go_simp; try with_reducible rfl)
      (try simp only [Act.put, List.setIfInBounds_toArray, List.set_cons_zero, List.set_cons_succ])
      refine step_one 18 rfl (by kernel_rfl) (fun K hK => ?_)
      clear hHeld
      go_simp
      refine (HVX.out _ (HM.out.get (f := tmL A9 nn rs) 3 rfl)).mono ?_
      rintro e wy6 ⟨rfl, hb⟩
      replace HM := Lib.hid (show Lows w [blkL gs 23 [.slice A9 nn c9, .slice Ar mr cw], blkL gu 27 u.cells, tmL Ar mr rr, tmL A9 nn rs, blkL w.heap.size 27 t.cells] wy6 from HM.out.below hb)
      clear hb
      go_wp2_with fail
      refine hK.out _ _ (HM.out) (fun hHeld => ?_)
      clear hK K
      (try simp only [Act.put, List.setIfInBounds_toArray, List.set_cons_zero, List.set_cons_succ])
      refine take_first (v := ?_) 19 rfl (by kernel_rfl) (by kernel_rfl) (by kernel_rfl) (fun _ _ _ h => h) (Or.inl ⟨by rfl, ?_⟩) (by assumption) ?_
      rotate_left
      · (intro w hSw; (try dsimp only at hSw); go_simp; try with_reducible rfl)
      (try simp only [Act.put, List.setIfInBounds_toArray, List.set_cons_zero, List.set_cons_succ])
      refine take_first (v := ?_) 20 rfl (by kernel_rfl) (by kernel_rfl) (by kernel_rfl) (fun _ _ _ h => h) (Or.inl ⟨by rfl, ?_⟩) (by assumption) ?_
      rotate_left
      · (intro w hSw; (try dsimp only at hSw); go_simp; try with_reducible rfl)
      (try simp only [Act.put, List.setIfInBounds_toArray, List.set_cons_zero, List.set_cons_succ])
      refine step_one 21 rfl (by kernel_rfl) (fun K hK => ?_)
      clear hHeld
      go_simp
      refine (HBG.out _).mono ?_
      rintro e wy7 ⟨rfl, hb⟩
      replace HM := Lib.hid (show Lows w [blkL gs 23 [.slice A9 nn c9, .slice Ar mr cw], blkL gu 27 u.cells, tmL Ar mr rr, tmL A9 nn rs, blkL w.heap.size 27 t.cells] wy7 from HM.out.below hb)
      clear hb
      go_wp2_with fail
      refine hK.out _ _ (HM.out) (fun hHeld => ?_)
      clear hK K
      (try simp only [Act.put, List.setIfInBounds_toArray, List.set_cons_zero, List.set_cons_succ])
      refine take_first (v := ?_) 22 rfl (by kernel_rfl) (by kernel_rfl) (by kernel_rfl) (fun _ _ _ h => h) (Or.inl ⟨by rfl, ?_⟩) (by assumption) ?_
      rotate_left
      · (intro w hSw; (try dsimp only at hSw); go_simp; try with_reducible rfl)
      (try simp only [Act.put, List.setIfInBounds_toArray, List.set_cons_zero, List.set_cons_succ])
      refine take_first (v := ?_) 23 rfl (by kernel_rfl) (by kernel_rfl) (by kernel_rfl) (fun _ _ _ h => h) (Or.inl ⟨by rfl, ?_⟩) (by assumption) ?_
      rotate_left
      · (intro w hSw; (try dsimp only at hSw); go_simp; try with_reducible rfl)
      (try simp only [Act.put, List.setIfInBounds_toArray, List.set_cons_zero, List.set_cons_succ])
      refine wpAnyH_done (by kernel_rfl) ?_ _
      clear hHeld
      have HF := Lib.hid HM.out.bel
      clear HM
      go_wp2
      go_ret
      exact ⟨rfl, HF.out⟩
end Go.Proofs.Ytffeecaidkeepaa
namespace Go.Proofs.Ytffeecaidkeepaa
open Go.RowKit

/-- the sign of a comparison -/
def cmpV (x y : Int) : Int := if x < y then -1 else if y < x then 1 else 0
set_option maxRecDepth 100000 in
set_option maxHeartbeats 8000000 in
theorem cmp64_any (x y : Int) (w : World) : Calls Try.prog 42 #[.int .i64 x, .int .i64 y] w fun e w' => e = .returned (.int .i64 (cmpV x y)) ∧ Below w.heap.size w w' := by
  have hx : (x != x) = false := by simp
  have hy : (y != y) = false := by simp
  have HB := Lib.hid (Below.refl w.heap.size w)
  by_cases h1 : x < y
  · have e1 : decide (x < y) = true := by simpa using h1
    have HR := Lib.hid (show cmpV x y = -1 from by rw [cmpV, if_pos h1])
    clear h1
    go_enter Try.func42, Try.ntmps42
    go_wp2
    go_ret
    exact ⟨by rw [HR.out]; rfl, HB.out⟩
  · have e1 : decide (x < y) = false := by simpa using h1
    by_cases h2 : y < x
    · have e2 : decide (x > y) = true := by simpa using h2
      have e3 : decide (y < x) = true := e2
      have HR := Lib.hid (show cmpV x y = 1 from by rw [cmpV, if_neg h1, if_pos h2])
      clear h1 h2
      go_enter Try.func42, Try.ntmps42
      go_wp2
      go_ret
      exact ⟨by rw [HR.out]; rfl, HB.out⟩
    · have e2 : decide (x > y) = false := by simpa using h2
      have e3 : decide (y < x) = false := e2
      have HR := Lib.hid (show cmpV x y = 0 from by rw [cmpV, if_neg h1, if_neg h2])
      clear h1 h2
      go_enter Try.func42, Try.ntmps42
      go_wp2
      go_ret
      exact ⟨by rw [HR.out]; rfl, HB.out⟩
set_option maxRecDepth 100000 in
set_option maxHeartbeats 8000000 in
theorem cmpI_any (x y : Int) (w : World) : Calls Try.prog 44 #[.int .i64 x, .int .i64 y] w fun e w' => e = .returned (.int .i64 (cmpV x y)) ∧ Below w.heap.size w w' := by
  have hx : (x != x) = false := by simp
  have hy : (y != y) = false := by simp
  have HB := Lib.hid (Below.refl w.heap.size w)
  by_cases h1 : x < y
  · have e1 : decide (x < y) = true := by simpa using h1
    have HR := Lib.hid (show cmpV x y = -1 from by rw [cmpV, if_pos h1])
    clear h1
    go_enter Try.func44, Try.ntmps44
    go_wp2
    go_ret
    exact ⟨by rw [HR.out]; rfl, HB.out⟩
  · have e1 : decide (x < y) = false := by simpa using h1
    by_cases h2 : y < x
    · have e2 : decide (x > y) = true := by simpa using h2
      have e3 : decide (y < x) = true := e2
      have HR := Lib.hid (show cmpV x y = 1 from by rw [cmpV, if_neg h1, if_pos h2])
      clear h1 h2
      go_enter Try.func44, Try.ntmps44
      go_wp2
      go_ret
      exact ⟨by rw [HR.out]; rfl, HB.out⟩
    · have e2 : decide (x > y) = false := by simpa using h2
      have e3 : decide (y < x) = false := e2
      have HR := Lib.hid (show cmpV x y = 0 from by rw [cmpV, if_neg h1, if_neg h2])
      clear h1 h2
      go_enter Try.func44, Try.ntmps44
      go_wp2
      go_ret
      exact ⟨by rw [HR.out]; rfl, HB.out⟩
end Go.Proofs.Ytffeecaidkeepaa
namespace Go.Proofs.Ytffeecaidkeepaa
open Go.RowKit

def i64v (x : Int) : Value := .int .i64 x
/-- the first number that is not 0 -/
def orV (l : List Int) : Int := (l.find? fun x => !(x == 0)).getD 0
theorem orV_none {l : List Int} (h : ∀ (q : Nat) x, l[q]? = some x → x = 0) : orV l = 0 := by
  have e : l.find? (fun x => !(x == 0)) = none := List.find?_eq_none.2 fun x hx => by
    obtain ⟨i, hi, rfl⟩ := List.getElem_of_mem hx
    rw [h i _ (List.getElem?_eq_getElem hi)]
    decide
  rw [orV, e]
  rfl
theorem orV_some {l : List Int} {j : Nat} {x : Int} (hx : l[j]? = some x) (h1 : x ≠ 0) (h : ∀ (q : Nat) x, q < j → l[q]? = some x → x = 0) : orV l = x := by
  have e : l.find? (fun x => !(x == 0)) = some x := by
    rw [List.find?_eq_some_iff_getElem]
    obtain ⟨hi, rfl⟩ := List.getElem?_eq_some_iff.1 hx
    exact ⟨by simpa using h1, j, hi, rfl, fun q hq => by rw [h q _ hq (List.getElem?_eq_getElem (by omega))]; rfl⟩
  rw [orV, e]
  rfl
set_option maxRecDepth 100000 in
set_option maxHeartbeats 8000000 in
theorem cmpOr_any (g n c : Nat) (hn : n ≤ 100) (l : List Int) (hl : l.length = n) (t : TypeId) (w : World) (hb : Blk w g t (l.map i64v)) : Calls Try.prog 41 #[.slice (some ⟨g, 0, none⟩) n c] w fun e w' => e = .returned (.int .i64 (orV l)) ∧ Below w.heap.size w w' := by
  have HB := Lib.hid hb
  have HL := Lib.hid hl
  clear hb hl
  go_enter Try.func41, Try.ntmps41
  go_wp2_with fail
  go_loopw [8] (fun v wr => ∃ j : Nat, j ≤ n ∧ v = .int .i64 (j : Int) ∧ (∀ (q : Nat) x, q < j → l[q]? = some x → x = 0) ∧ Below w.heap.size w wr) (fun v _ => n - (intOf v).toNat)
  case atStart => exact ⟨0, Nat.zero_le _, rfl, fun q _ h => absurd h (Nat.not_lt_zero _), Below.refl _ _⟩
  case round =>
    obtain ⟨j, hj, rfl, hno, hW⟩ := hrel
    have HW := Lib.hid hW
    have HNO := Lib.hid hno
    clear hW hno
    by_cases hjn : j < n
    · have d1 : decide ((j : Int) < (n : Int)) = true := by simp; omega
      obtain ⟨x, hx⟩ : ∃ x, l[j]? = some x := ⟨l[j]'(by rw [HL.out]; exact hjn), List.getElem?_eq_getElem _⟩
      have fx : wr.cell? ⟨g, j, none⟩ = some (.int .i64 x) := by
        rw [(HB.out.below HW.out HB.out.lt).cell j, List.getElem?_map, hx]; rfl
      have HX := Lib.hid hx
      clear hx
      by_cases h0 : x = 0
      · have e1 : (x != 0) = false := by rw [h0]; rfl
        have HZ := Lib.hid h0
        clear h0
        go_wp2_with fail
        go_roundw
        case rel => exact ⟨j + 1, by omega, by go_num, fun q y hq hy => by
          rcases Nat.lt_or_ge q j with h | h
          · exact HNO.out q y h hy
          · obtain rfl : q = j := by omega
            have e := HX.out.symm.trans hy
            injection e with e
            rw [← e]
            exact HZ.out, HW.out⟩
        case measure => simp [intOf]; omega
      · have e1 : (x != 0) = true := by rw [bne_iff_ne]; exact h0
        have HR := Lib.hid (orV_some HX.out h0 HNO.out)
        clear h0
        go_wp2_with fail
        go_ret
        exact ⟨by rw [HR.out]; rfl, HW.out⟩
    · obtain rfl : j = n := by omega
      have d1 : decide ((j : Int) < (j : Int)) = false := by simp
      have HR := Lib.hid (orV_none fun q x hx => HNO.out q x (by rw [← HL.out]; exact (List.getElem?_eq_some_iff.1 hx).1) hx)
      have HF := Lib.hid HW.out
      clear HW HNO
      go_wp2
      go_ret
      exact ⟨by rw [HR.out]; rfl, HF.out⟩
end Go.Proofs.Ytffeecaidkeepaa
namespace Go.Proofs.Ytffeecaidkeepaa
open Go.RowKit

end Go.Proofs.Ytffeecaidkeepaa
namespace Go.Proofs.Ytffeecaidkeepaa
open Go.RowKit

theorem loadBytes_rd {P : Program} : ∀ (l : List UInt8) (w : World) (b off : Nat) (acc : ByteArray), (∀ j (h : j < l.length), w.cell? ⟨b, off + j, none⟩ = some (.int .u8 (l[j].toNat : Int))) →
    (Extern.Bytes.loadBytes ⟨b, off, none⟩ l.length acc).run P w = .ok ⟨acc.data ++ l.toArray⟩ w
  | [], w, b, off, acc, _ => by simp [Extern.Bytes.loadBytes]
  | x :: l, w, b, off, acc, h => by
    have h0 := h 0 (by simp)
    rw [Nat.add_zero] at h0
    have ih := loadBytes_rd (P := P) l w b (off + 1) (acc.push x) (fun j hj => by
      have := h (j + 1) (by simp; omega)
      rw [show off + 1 + j = off + (j + 1) by omega]
      simpa using this)
    have e1 : (Addr.add ⟨b, off, none⟩ 1) = ⟨b, off + 1, none⟩ := by simp [Go.WideShapes.add_plain]
    simp only [List.length_cons, Extern.Bytes.loadBytes, Sem.run_bind, run_load, h0, Result.andThen]
    simp only [List.getElem_cons_zero, Int.toNat_natCast, Nat.toUInt8_eq, UInt8.ofNat_toNat, e1]
    rw [ih]
    congr 1
    simp [ByteArray.push]
theorem bytesOf_rd {P : Program} {w : World} {B n c : Nat} {A : Option Addr} {l : List UInt8} (h : Rd w B A n l) : (Extern.Bytes.bytesOf (.slice A n c)).run P w = .ok ⟨l.toArray⟩ w := by
  rcases Nat.eq_zero_or_pos n with h0 | h0
  · have : l = [] := List.eq_nil_of_length_eq_zero (by rw [h.1, h0])
    subst this
    subst h0
    cases A with
    | none => simp [Extern.Bytes.bytesOf]; rfl
    | some a => simp [Extern.Bytes.bytesOf, Extern.Bytes.loadBytes]; rfl
  · obtain ⟨b, off, rfl, _, hc⟩ := h.at_ h0
    have := loadBytes_rd (P := P) l w b off .empty hc
    rw [h.1] at this
    simp [Extern.Bytes.bytesOf, this]
set_option maxRecDepth 100000 in
theorem compare_any (n m c d B B' : Nat) (A A' : Option Addr) (a b : List UInt8) (w : World) (ha : Rd w B A n a) (hb : Rd w B' A' m b) :
    Calls Try.prog 43 #[.slice A n c, .slice A' m d] w fun e w' => e = .returned (.int .i64 (Lib.compareBytes a b)) ∧ w = w' := by
  have hx : (callFunc 47 #[.slice A n c, .slice A' m d]).run Try.prog w = .ok (.value (.int .i64 (Lib.compareBytes a b))) w := by
    rw [run_callFunc_extern Try.func47 (by kernel_rfl) (by kernel_rfl) (by kernel_rfl) (e := Extern.BytealgCompare.compare) (by kernel_rfl)]
    have e1 : (Extern.BytealgCompare.compare #[.slice A n c, .slice A' m d]).run Try.prog w = .ok (.int .i64 (Lib.compareBytes a b)) w := by
      change Sem.run Try.prog (do pure (goInt (Extern.BytealgCompare.cmp (← Extern.Bytes.bytesOf (.slice A n c)) (← Extern.Bytes.bytesOf (.slice A' m d))))) w = _
      simp only [Sem.run_bind, Sem.run_pure, bytesOf_rd ha, bytesOf_rd hb, Result.andThen, Lib.cmp_eq]
      rfl
    rw [e1]
    rfl
  go_enter Try.func43, Try.ntmps43
  go_wp2
  go_ret
  exact ⟨rfl, rfl⟩
end Go.Proofs.Ytffeecaidkeepaa
namespace Go.Proofs.Ytffeecaidkeepaa
open Go.RowKit

theorem compare_less : ∀ (a b : List UInt8), decide (Lib.compareBytes a b < 0) = Op.bytesLess a b
  | [], [] => rfl
  | [], _ :: _ => rfl
  | _ :: _, [] => rfl
  | x :: a, y :: b => by
    have ih := compare_less a b
    unfold Lib.compareBytes Op.bytesLess
    by_cases h1 : x < y
    · rw [if_pos h1]; simp [h1]
    · by_cases h2 : y < x
      · have hne : (x == y) = false := by
          rw [beq_eq_false_iff_ne]
          intro e
          subst e
          exact h1 h2
        rw [if_neg h1, if_pos h2, hne]
        simp [h1]
      · have he : x = y := by
          apply UInt8.toNat.inj
          rw [UInt8.lt_iff_toNat_lt] at h1 h2
          omega
        subst he
        rw [if_neg h1, if_neg h2, ih]
        simp [h1]
end Go.Proofs.Ytffeecaidkeepaa
