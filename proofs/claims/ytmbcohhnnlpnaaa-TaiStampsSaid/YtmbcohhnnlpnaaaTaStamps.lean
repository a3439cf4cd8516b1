/-
  TaiStamps returns true for every input, and changes nothing that was there: the walk, over what is asked of tai.Of and Tick. No statement is proved here.
-/
import Derived.Test.YtmbcohhnnlpnaaaTaTickC
import Derived.Test.YtmbcohhnnlpnaaaTaBegun
import Derived.Test.YtmbcohhnnlpnaaaTaRTick
import Derived.Test.YtmbcohhnnlpnaaaModOf64
import Derived.Test.YtmbcohhnnlpnaaaBuildRows
namespace Go.Proofs.Ytmbcohhnnlpnaaa
open Go.RowKit

theorem ta_xor (a b : UInt8) : bits BinOp.xor IntKind.u8 (a.toNat : Int) (b.toNat : Int) = ((a ^^^ b).toNat : Int) := by
  rw [UInt8.toNat_xor, u8_xor_nat _ _ a.toNat_lt b.toNat_lt]
theorem ta_byte {w : World} {g : Nat} {t : TypeId} {l : List UInt8} (h : Blk w g t (l.map u8v)) (i : Nat) (hi : i < l.length) : w.cell? ⟨g, i, none⟩ = some (.int .u8 ((l.getD i 0).toNat : Int)) := by
  rw [h.cell i, List.getElem?_map, List.getElem?_eq_getElem hi]
  simp [u8v, List.getD, hi]
theorem rows3_eq {r1 r2 r3 : List Value} {c1 c2 c3 : Array Value} (h1 : r1.toArray = c1) (h2 : r2.toArray = c2) (h3 : r3.toArray = c3) : (([r1, r2, r3].zipIdx 0).map fun x => (x.2, Value.agg x.1.toArray)) = [(0, .agg c1), (1, .agg c2), (2, .agg c3)] := by
  subst h1 h2 h3
  rfl
set_option linter.unusedSimpArgs false in
theorem ta_three (a b c : List UInt8) (ha : a.length = 12) (hb : b.length = 12) (hc : c.length = 12) (k : Nat) (hk : k < 3) : ((((a ++ (b ++ c)).map u8v).drop (k * 12)).take 12) = (if k = 0 then a else if k = 1 then b else c).map u8v := by
  rw [← List.map_drop, ← List.map_take]
  congr 1
  match k, hk with
  | 0, _ => simp [List.take_append, ha]
  | 1, _ => simp [List.drop_append, List.take_append, ha, hb]
  | 2, _ => simp [List.drop_append, ha, hb, hc, List.take_of_length_le, List.drop_of_length_le]
  | k + 3, h => exact absurd h (by omega)

set_option maxRecDepth 100000 in
set_option maxHeartbeats 16000000 in
theorem ta_stamps_walk (HO : TaOfC) (HT : TaTickC) (w : World) (t : Int) (s : List UInt8) (n1 n2 : Nat) (ht : -9223372036854775808 ≤ t ∧ t ≤ 9223372036854775807) (hs : s.length = 12) (hn1 : n1 ≤ 255) (hn2 : n2 ≤ 255) :
    Calls Try.prog 3 #[.int .i64 t, .agg (s.map u8v).toArray, .int .u8 (n1 : Int), .int .u8 (n2 : Int)] w fun e w' => e = .returned (.bool true) ∧ Below w.heap.size w w' := by
  obtain ⟨i0, hi, hz0, hz1, hz2⟩ := info_parts Try.info5
  have HIN := Lib.hid (And.intro hi hz1)
  obtain ⟨ix, hix, hsx, zx, hzx⟩ : ∃ i, Try.prog.info? 23 = some i ∧ i.size = 12 ∧ ∃ z, i.zero = some z := by
    have h : (Try.prog.info? 23).map (fun i => (i.size, i.zero.isSome)) = some (12, true) := by kernel_rfl
    cases hi : Try.prog.info? 23 with
    | none => rw [hi] at h; cases h
    | some i =>
      rw [hi] at h
      simp only [Option.map_some, Option.some.injEq, Prod.mk.injEq] at h
      obtain ⟨z, hz⟩ := Option.isSome_iff_exists.1 h.2
      exact ⟨i, rfl, h.1, z, hz⟩
  have HIX := Lib.hid (And.intro hix (And.intro hsx hzx))
  have HOC := Lib.hid HO
  have HTC := Lib.hid HT
  have HBG := Lib.hid (ta_begun_any HO)
  obtain ⟨cs, hcs⟩ : ∃ x, (s.map u8v).toArray = x := ⟨_, rfl⟩
  rw [hcs]
  have HCS := Lib.hid hcs
  have HM := Lib.hid (show Mem w [blkE w.heap.size 23 (s.map u8v)] (w.alloc (.cells cs 23)) from (Mem.nil w).alloc rfl 23 cs (s.map u8v) hcs.symm)
  have HS := Lib.hid hs
  obtain ⟨z, hz⟩ : ∃ z : Int, t % ((1099511627779 : Nat) : Int) = z := ⟨_, rfl⟩
  have MA := Lib.hid (fun w' : World => mod64_any t 1099511627779 (by omega) (by omega) w')
  rw [hz] at MA
  obtain ⟨s2, hs2⟩ : ∃ x : Int, z - 1 = x := ⟨_, rfl⟩
  have hs2b : -9223372036854775808 ≤ s2 ∧ s2 ≤ 9223372036854775807 := by omega
  have q1 : IntKind.i64.wrap (z - 1) = s2 := by rw [hs2]; exact IntWalk.i64_in _ (by omega)
  obtain ⟨i, hii⟩ : ∃ i, n1 % 12 = i := ⟨_, rfl⟩
  have hi12 : i < 12 := by omega
  obtain ⟨D, hD⟩ : ∃ D : UInt8, (n2 : Int) = (D.toNat : Int) := ⟨UInt8.ofNat n2, by rw [UInt8.toNat_ofNat', Nat.mod_eq_of_lt (by omega)]⟩
  have HNM := Lib.hid (show ((n1 : Int) % 12 = (i : Int)) ∧ ((n1 : Int)).tmod 12 = (i : Int) ∧ IntKind.i64.wrap (n1 : Int) = (n1 : Int) ∧ (i : Int) < 12 ∧ IntKind.i64.wrap (i : Int) = (i : Int) from ⟨by omega, by rw [Int.tmod_eq_emod_of_nonneg (by omega)]; omega, IntWalk.i64_in _ (by omega), by omega, IntWalk.i64_in _ (by omega)⟩)
  rw [hD]
  clear hcs hs hz hs2 hii hD hn2 HO HT hi hz0 hz1 hz2 hix hsx hzx
  go_enter Try.func3, Try.ntmps3
  go_upto_region 1 with fail
  generalize w.alloc (.cells cs 23) = w1 at HM ⊢
  go_wp2_with fail
  rw [show (1099511627779 : Int) = ((1099511627779 : Nat) : Int) from rfl]
  refine (MA.out _).mono ?_
  rintro e w2 ⟨rfl, rfl⟩
  clear MA
  go_wp2_with fail
  clear q1
  replace HM := Lib.hid (show Mem w [blkE w1.heap.size 2 [Value.int .i64 t, .int .i64 s2], blkE w.heap.size 23 (s.map u8v)] (w1.alloc (.cells #[Value.int .i64 t, .int .i64 s2] 2)) from HM.out.alloc rfl 2 #[Value.int .i64 t, .int .i64 s2] [Value.int .i64 t, .int .i64 s2] rfl)
  have HI := Lib.hid (show ∀ a, a < 2 → ∃ x : Int, (-9223372036854775808 ≤ x ∧ x ≤ 9223372036854775807) ∧ ∀ W : World, Blk W w1.heap.size 2 [Value.int .i64 t, .int .i64 s2] → W.cell? ⟨w1.heap.size, a, none⟩ = some (.int .i64 x) by
    intro a ha
    match a, ha with
    | 0, _ => exact ⟨t, ht, fun W hb => by rw [hb.cell]; rfl⟩
    | 1, _ => exact ⟨s2, hs2b, fun W hb => by rw [hb.cell]; rfl⟩
    | a + 2, ha => exact absurd ha (by omega))
  clear ht hs2b
  generalize w1.alloc (.cells #[Value.int .i64 t, .int .i64 s2] 2) = w3 at HM ⊢
  generalize w1.heap.size = Q at HM HI ⊢
  go_loopw [25] (fun c wr => ∃ a : Nat, a ≤ 2 ∧ c = .int .i64 (a : Int) ∧ Mem w [blkE Q 2 [Value.int .i64 t, .int .i64 s2], blkE w.heap.size 23 (s.map u8v)] wr) (fun c _ => 2 - (intOf c).toNat)
  case atStart => exact ⟨0, by omega, rfl, HM.out⟩
  case round =>
    clear HM
    obtain ⟨a, ha, rfl, hM⟩ := hrel
    have HM := Lib.hid hM
    clear hM
    by_cases ha2 : a < 2
    · have da : decide ((a : Int) < 2) = true := by simp; omega
      obtain ⟨x, hx, hc⟩ := HI.out a ha2
      have fx := hc _ (HM.out.blk 0 rfl)
      clear hc
      have HSO := Lib.hid (stampL_length x)
      have RC := Lib.hid (fun w' : World => refOf_any x hx.1 hx.2 w')
      have OC := Lib.hid (fun w' : World => HOC.out x hx.1 hx.2 w')
      obtain ⟨so, hso⟩ : ∃ y, stampL x = y := ⟨_, rfl⟩
      rw [hso] at HSO RC OC
      obtain ⟨co, hco⟩ : ∃ y, (so.map u8v).toArray = y := ⟨_, rfl⟩
      rw [hco] at RC OC
      have HCO := Lib.hid hco
      clear hso hco
      go_upto_region 4 with fail
      clear fx da
      go_wp2_with fail
      refine (RC.out _).mono ?_
      rintro e w4 ⟨rfl, hb⟩
      replace HM := Lib.hid (HM.out.below hb)
      clear hb RC
      have HAL := Lib.hid (HM.out.alloc rfl 23 #[.int .u8 0, .int .u8 0, .int .u8 0, .int .u8 0, .int .u8 0, .int .u8 0, .int .u8 0, .int .u8 0, .int .u8 0, .int .u8 0, .int .u8 0, .int .u8 0] (aeZ 12) rfl)
      go_upto_region 5 with (refine wpList_store_blk rfl 23 (.tmp 11) (.tmp 30) rfl w4.heap.size (so.map u8v) rfl (by show Value.agg _ = _; rw [HCO.out]) 23 (aeZ 12) (HAL.out.blk 0 rfl) (stampCells so HSO.out) (by rw [List.length_map, HSO.out]; rfl) (u8v_one _) ?_; intro w5 hb3 hg3)
      replace HM := Lib.hid (show Mem w [blkE w4.heap.size 23 (so.map u8v), blkE Q 2 [Value.int .i64 t, .int .i64 s2], blkE w.heap.size 23 (s.map u8v)] w5 from HAL.out.put 0 rfl _ hg3 hb3)
      clear hb3 hg3 HAL
      generalize w4.heap.size = P1 at HM ⊢
      have HAL := Lib.hid (HM.out.alloc rfl 23 #[.int .u8 0, .int .u8 0, .int .u8 0, .int .u8 0, .int .u8 0, .int .u8 0, .int .u8 0, .int .u8 0, .int .u8 0, .int .u8 0, .int .u8 0, .int .u8 0] (aeZ 12) rfl)
      go_upto_region 6 with (first | (refine wpList_load_blk rfl 23 (.tmp 11) rfl P1 rfl 23 (so.map u8v) (HM.out.blk 0 rfl) 12 5 Try.underlying23 (stampCells so HSO.out) ?_; rw [HCO.out]) | (refine wpList_store_blk rfl 23 (.tmp 12) (.tmp 31) rfl w5.heap.size (so.map u8v) rfl (by show Value.agg _ = _; rw [HCO.out]) 23 (aeZ 12) (HAL.out.blk 0 rfl) (stampCells so HSO.out) (by rw [List.length_map, HSO.out]; rfl) (u8v_one _) ?_; intro w6 hb3 hg3))
      replace HM := Lib.hid (show Mem w [blkE w5.heap.size 23 (so.map u8v), blkE P1 23 ((so).map u8v), blkE Q 2 [Value.int .i64 t, .int .i64 s2], blkE w.heap.size 23 (s.map u8v)] w6 from HAL.out.put 0 rfl _ hg3 hb3)
      clear hb3 hg3 HAL
      generalize w5.heap.size = P2 at HM ⊢
      have fx := ta_byte (HM.out.blk 0 rfl) i (by rw [HSO.out]; exact hi12)
      have zx := (HM.out.blk 0 rfl).frozen i
      obtain ⟨B, hB⟩ : ∃ y, so.getD i 0 = y := ⟨_, rfl⟩
      rw [hB] at fx
      obtain ⟨V, hV⟩ : ∃ y, B ^^^ D = y := ⟨_, rfl⟩
      have x1 : bits BinOp.xor IntKind.u8 (B.toNat : Int) (D.toNat : Int) = (V.toNat : Int) := by rw [← hV]; exact ta_xor B D
      clear hB hV
      obtain ⟨m1, m2, m3, m4, m5⟩ := HNM.out
      go_upto_region 7 with fail
      clear fx zx x1 m1 m2 m3 m4 m5
      replace HM := Lib.hid (show Mem w [blkE P2 23 ((so.set i V).map u8v), blkE P1 23 ((so).map u8v), blkE Q 2 [Value.int .i64 t, .int .i64 s2], blkE w.heap.size 23 (s.map u8v)] (w6.setCell ⟨P2, i, none⟩ (.int .u8 (V.toNat : Int))) from by
        have h := HM.out.setCell 0 rfl i (u8v V)
        rw [← List.map_set] at h
        exact h)
      generalize w6.setCell ⟨P2, i, none⟩ (.int .u8 (V.toNat : Int)) = w7 at HM ⊢
      obtain ⟨b, hbb⟩ : ∃ y, so.set i V = y := ⟨_, rfl⟩
      rw [hbb] at HM
      have HBL := Lib.hid (show b.length = 12 by rw [← hbb, List.length_set]; exact HSO.out)
      clear hbb
      have ex := fun w' : World => run_key_eq (P := Try.prog) 23 5 12 Try.underlying23 Try.underlying5 i0 HIN.out.1 HIN.out.2 so so HSO.out HSO.out w'
      rw [show (so == so) = true by simp, HCO.out] at ex
      refine wp_region_held_drew (S := fun W' => Mem w [blkE P2 23 ((b).map u8v), blkE P1 23 ((so).map u8v), blkE Q 2 [Value.int .i64 t, .int .i64 s2], blkE w.heap.size 23 (s.map u8v)] W') (by kernel_rfl) ((HM.out).drew) (fun hHeld => ?_)
      replace HM := Lib.hid HM.out.drew
      generalize w7.drew = wd1 at HM hHeld ⊢
      refine take_first (v := ?_) 0 rfl (by kernel_rfl) (by kernel_rfl) (by kernel_rfl) (fun _ _ _ h => h) (Or.inl ⟨by rfl, ?_⟩) (by assumption) ?_
      rotate_left
      · (intro w hSw; (try dsimp only at hSw); go_simp; try with_reducible rfl)
      (try simp only [Act.put, List.setIfInBounds_toArray, List.set_cons_zero, List.set_cons_succ])
      refine take_first (v := (.agg co)) 2 rfl (by kernel_rfl) (by kernel_rfl) (by kernel_rfl) (fun _ _ _ h => h) (by rw [← HCO.out]; exact yields_load_blk (by rfl) 23 (.tmp 11) rfl P1 rfl 23 (so.map u8v) (fun _ h => Mem.blk h 1 rfl) 12 5 Try.underlying23 (stampCells so HSO.out)) (by assumption) ?_
      (try simp only [Act.put, List.setIfInBounds_toArray, List.set_cons_zero, List.set_cons_succ])
      refine step_one 1 rfl (by kernel_rfl) (fun K hK => ?_)
      clear hHeld
      go_simp
      refine (OC.out _).mono ?_
      rintro e wy2 ⟨rfl, hb⟩
      replace HM := Lib.hid (show Mem w [blkE P2 23 ((b).map u8v), blkE P1 23 ((so).map u8v), blkE Q 2 [Value.int .i64 t, .int .i64 s2], blkE w.heap.size 23 (s.map u8v)] wy2 from HM.out.below hb)
      clear hb
      go_wp2_with fail
      refine hK.out _ _ (HM.out) (fun hHeld => ?_)
      clear hK K
      (try simp only [Act.put, List.setIfInBounds_toArray, List.set_cons_zero, List.set_cons_succ])
      refine take_first (v := ?_) 3 rfl (by kernel_rfl) (by kernel_rfl) (by kernel_rfl) (fun _ _ _ h => h) (Or.inl ⟨by rfl, ?_⟩) (by assumption) ?_
      rotate_left
      · (intro w hSw; (try dsimp only at hSw); go_simp; try with_reducible rfl)
      (try simp only [Act.put, List.setIfInBounds_toArray, List.set_cons_zero, List.set_cons_succ])
      refine wpAnyH_done (by kernel_rfl) ?_ _
      clear hHeld ex OC
      generalize hwq : wy2 = wq at HM ⊢
      clear hwq
      obtain ⟨cb, hcb⟩ : ∃ y, (b.map u8v).toArray = y := ⟨_, rfl⟩
      have HCB := Lib.hid hcb
      clear hcb
      have HFL := Lib.hid (show [so.map u8v, b.map u8v, s.map u8v].flatten.toArray = (so.map u8v ++ (b.map u8v ++ s.map u8v)).toArray by simp)
      go_wp2_with (first | (refine wpList_load_blk rfl 23 (.tmp 11) rfl P1 rfl 23 (so.map u8v) (HM.out.blk 1 rfl) 12 5 Try.underlying23 (stampCells so HSO.out) ?_; rw [HCO.out]) | (refine wpList_load_blk rfl 23 (.tmp 12) rfl P2 rfl 23 (b.map u8v) (HM.out.blk 0 rfl) 12 5 Try.underlying23 (stampCells b HBL.out) ?_; rw [HCB.out]) | (refine wpList_load_blk rfl 23 (.tmp 5) rfl w.heap.size rfl 23 (s.map u8v) (HM.out.blk 3 rfl) 12 5 Try.underlying23 (stampCells s HS.out) ?_; rw [HCS.out]) | (refine wpList_buildRows rfl 27 23 3 [(0, .tmp 44), (1, .tmp 45), (2, .tmp 46)] rfl [so.map u8v, b.map u8v, s.map u8v] rfl (rows3_eq HCO.out HCB.out HCS.out).symm 12 Try.underlying27 ix HIX.out.1 HIX.out.2.1 zx HIX.out.2.2 (by omega) (by omega) (by omega) (by intro r hr; simp only [List.mem_cons, List.not_mem_nil, or_false] at hr; rcases hr with rfl | rfl | rfl <;> rw [List.length_map] <;> first | exact HSO.out | exact HBL.out | exact HS.out) ?_; rw [HFL.out]))
      generalize hwz : wq.alloc (.cells (so.map u8v ++ (b.map u8v ++ s.map u8v)).toArray 23) = wz
      replace HM := Lib.hid (show Mem w [blkE wq.heap.size 23 ((so ++ (b ++ s)).map u8v), blkE P2 23 ((b).map u8v), blkE P1 23 ((so).map u8v), blkE Q 2 [Value.int .i64 t, .int .i64 s2], blkE w.heap.size 23 (s.map u8v)] wz from by rw [← hwz]; exact HM.out.alloc rfl 23 _ _ (by simp))
      clear hwz HFL
      generalize wq.heap.size = Q2 at HM ⊢
      have HTH := Lib.hid (ta_three so b s HSO.out HBL.out HS.out)
      obtain ⟨l3, hl3⟩ : ∃ y, so ++ (b ++ s) = y := ⟨_, rfl⟩
      rw [hl3] at HM HTH
      clear hl3 HCB
      go_loopw [49] (fun c wr => ∃ k : Nat, k ≤ 3 ∧ c = .int .i64 (k : Int) ∧ Mem w [blkE Q2 23 ((l3).map u8v), blkE P2 23 ((b).map u8v), blkE P1 23 ((so).map u8v), blkE Q 2 [Value.int .i64 t, .int .i64 s2], blkE w.heap.size 23 (s.map u8v)] wr) (fun c _ => 3 - (intOf c).toNat)
      case atStart => exact ⟨0, by omega, rfl, HM.out⟩
      case round =>
        clear HM
        obtain ⟨k, hk, rfl, hM⟩ := hrel
        have HM := Lib.hid hM
        clear hM
        by_cases hk3 : k < 3
        · have dk : decide ((k : Int) < 3) = true := by simp; omega
          obtain ⟨y, hy⟩ : ∃ y, (if k = 0 then so else if k = 1 then b else s) = y := ⟨_, rfl⟩
          have HY := Lib.hid (show y.length = 12 by rw [← hy]; split; exact HSO.out; split; exact HBL.out; exact HS.out)
          have hrow := HTH.out k hk3
          rw [hy] at hrow
          have HRW := Lib.hid (fun (W : World) (h : Blk W Q2 23 (l3.map u8v)) => show ∀ j v, (y.map u8v)[j]? = some v → W.cell? ⟨Q2, k * 12 + j, none⟩ = some v from by rw [← hrow]; exact h.row (k * 12) 12)
          obtain ⟨cy, hcy⟩ : ∃ z, (y.map u8v).toArray = z := ⟨_, rfl⟩
          have HCY := Lib.hid hcy
          have TP := Lib.hid (fun w' : World => HTC.out y HY.out w')
          have TR := Lib.hid (fun w' : World => refTick_any y HY.out w')
          rw [hcy] at TP TR
          obtain ⟨p, hp⟩ : ∃ p, tickL y = p := ⟨_, rfl⟩
          rw [hp] at TP TR
          obtain ⟨p1, p2⟩ := p
          dsimp only at TP TR
          clear hcy hp hrow hy
          have HAL := Lib.hid (HM.out.alloc rfl 23 #[.int .u8 0, .int .u8 0, .int .u8 0, .int .u8 0, .int .u8 0, .int .u8 0, .int .u8 0, .int .u8 0, .int .u8 0, .int .u8 0, .int .u8 0, .int .u8 0] (aeZ 12) rfl)
          go_upto_region 12 with (first | (refine wpList_load_off rfl 23 (.tmp 51) rfl Q2 (k * 12) rfl (y.map u8v) (HRW.out _ (HM.out.blk 0 rfl)) 12 5 Try.underlying23 (stampCells y HY.out) ?_; rw [HCY.out]) | (refine wpList_store_blk rfl 23 (.tmp 14) (.tmp 52) rfl wr.heap.size (y.map u8v) rfl (by show Value.agg _ = _; rw [HCY.out]) 23 (aeZ 12) (HAL.out.blk 0 rfl) (stampCells y HY.out) (by rw [List.length_map, HY.out]; rfl) (u8v_one _) ?_; intro w8 hb3 hg3))
          replace HM := Lib.hid (show Mem w [blkE wr.heap.size 23 (y.map u8v), blkE Q2 23 ((l3).map u8v), blkE P2 23 ((b).map u8v), blkE P1 23 ((so).map u8v), blkE Q 2 [Value.int .i64 t, .int .i64 s2], blkE w.heap.size 23 (s.map u8v)] w8 from HAL.out.put 0 rfl _ hg3 hb3)
          clear hb3 hg3 HAL HRW dk
          go_wp2_with (refine wpList_load_blk rfl 23 (.tmp 14) rfl wr.heap.size rfl 23 (y.map u8v) (HM.out.blk 0 rfl) 12 5 Try.underlying23 (stampCells y HY.out) ?_; rw [HCY.out])
          refine (TP.out _).mono ?_
          rintro e w9 ⟨rfl, hb⟩
          replace HM := Lib.hid (HM.out.below hb)
          clear hb
          go_wp2_with (refine wpList_load_blk rfl 23 (.tmp 14) rfl wr.heap.size rfl 23 (y.map u8v) (HM.out.blk 0 rfl) 12 5 Try.underlying23 (stampCells y HY.out) ?_; rw [HCY.out])
          refine (TR.out _).mono ?_
          rintro e w10 ⟨rfl, hb⟩
          replace HM := Lib.hid (HM.out.below hb)
          have HF := Lib.hid (HM.out.erase 0)
          clear hb TP TR HM
          go_wp2
          refine ⟨⟨k + 1, by omega, by go_num, HF.out⟩, ?_⟩
          simp [intOf]
          omega
        · obtain rfl : k = 3 := by omega
          replace HM := Lib.hid (show Mem w [blkE Q 2 [Value.int .i64 t, .int .i64 s2], blkE w.heap.size 23 (s.map u8v)] _ from ((HM.out.erase 0).erase 0).erase 0)
          rw [show ((3 : Nat) : Int) = 3 from rfl]
          go_wp2_with fail
          refine ⟨⟨a + 1, by omega, by go_num, HM.out⟩, ?_⟩
          simp [intOf]
          omega
    · obtain rfl : a = 2 := by omega
      rw [show ((2 : Nat) : Int) = 2 from rfl]
      go_wp2_with fail
      refine (HBG.out _).mono ?_
      rintro e wz ⟨rfl, hbz⟩
      have HE := Lib.hid (HM.out.below hbz).bel
      clear hbz HM
      go_wp2_with fail
      go_ret
      exact ⟨rfl, HE.out⟩
end Go.Proofs.Ytmbcohhnnlpnaaa
