/-
  InnerChecks returns true for every input, and changes nothing that was there: the walk, over what is asked of inner.Check, Pad and Trim. No statement is proved here.
-/
import Derived.Test.YtdpdalkeafkhkaaInRet
import Derived.Test.YtdpdalkeafkhkaaInBegun
import Derived.Test.YtdpdalkeafkhkaaInMask
import Derived.Test.YtdpdalkeafkhkaaLow
import Derived.Test.YtdpdalkeafkhkaaAppZ
import Derived.Test.YtdpdalkeafkhkaaSliceOf
namespace Go.Proofs.Ytdpdalkeafkhkaa
open Go.RowKit

theorem map_rep0 (p : List UInt8) (z : Nat) : p.map u8v ++ List.replicate z (.int .u8 0) = (p ++ List.replicate z (0 : UInt8)).map u8v := by
  rw [List.map_append, List.map_replicate]
  rfl
set_option maxRecDepth 100000 in
set_option maxHeartbeats 8000000 in
set_option linter.unusedSimpArgs false in
theorem in_checks_walk (HKC0 : InCheckC) (HPD0 : InPadC) (HTC0 : InTrimC) (w : World) (Ab : Option Addr) (nb cb : Nat) (lb : List UInt8) (six : Bool) (n ia ib mo : Nat) (hnc : nb ≤ cb) (hcm : cb ≤ maxLen) (hr : Rd w w.heap.size Ab nb lb) (hn : n ≤ 65535) (hia : ia ≤ 255) (hib : ib ≤ 255) (hmo : mo ≤ 255) :
    Calls Try.prog 3 #[.slice Ab nb cb, .bool six, .int .u16 (n : Int), .int .u8 (ia : Int), .int .u8 (ib : Int), .int .u8 (mo : Int)] w fun e w' => e = .returned (.bool true) ∧ Below w.heap.size w w' := by
  obtain ⟨i0, hi, hz0, hz1, hz2⟩ := info_parts Try.info5
  have HBG := Lib.hid (in_begun_any HKC0 HPD0)
  have HKC := Lib.hid HKC0
  have HPD := Lib.hid HPD0
  have HTC := Lib.hid HTC0
  clear HKC0 HPD0 HTC0
  obtain ⟨k9, hk⟩ : ∃ k, min nb 80 = k := ⟨_, rfl⟩
  have HCU := Lib.hid (caseCut_any Ab nb cb 80 k9 (by omega) hnc hcm hk)
  have hk9 : k9 ≤ 80 ∧ k9 ≤ nb := by omega
  have HM := Lib.hid (show Lows w [rdL Ab k9 (lb.take k9)] w from (Lows.nil w).cons (rdL Ab k9 (lb.take k9)) (hr.take hk9.2))
  obtain ⟨f, hff⟩ : ∃ f : UInt8, f.toNat = mo := ⟨UInt8.ofNat mo, by rw [UInt8.toNat_ofNat']; exact Nat.mod_eq_of_lt (by omega)⟩
  subst hff
  obtain ⟨v, hv⟩ : ∃ v : UInt8, v.toNat = ib := ⟨UInt8.ofNat ib, by rw [UInt8.toNat_ofNat']; exact Nat.mod_eq_of_lt (by omega)⟩
  subst hv
  obtain ⟨x, hx⟩ : ∃ x, n % 2050 = x := ⟨_, rfl⟩
  have hxI : (n : Int) % 2050 = (x : Int) := by omega
  have hxt : ((n : Int)).tmod 2050 = (x : Int) := by rw [Int.tmod_eq_emod_of_nonneg (by omega)]; omega
  have PK := Lib.hid (in_packet_any six x (by omega) f)
  have hl := packM_length six x f
  have hm20 : 20 ≤ (packM six x f).length ∧ (packM six x f).length ≤ 2089 := by rw [hl]; split <;> omega
  clear hl
  generalize packM six x f = p at PK hm20
  obtain ⟨m, hm⟩ : ∃ m, p.length = m := ⟨_, rfl⟩
  rw [hm] at PK hm20
  have HPM := Lib.hid hm
  have HNUM := Lib.hid (And.intro hm20 (And.intro hia (And.intro hmo hk9)))
  have hnI : IntKind.i64.wrap (n : Int) = (n : Int) := IntWalk.i64_in _ (by omega)
  have hxw : IntKind.i64.wrap (x : Int) = (x : Int) := IntWalk.i64_in _ (by omega)
  clear hm hm20 hia hib hmo hx hk hr hk9
  go_enter Try.func3, Try.ntmps3
  go_upto_region 1 with fail
  go_wp2_with fail
  go_simp
  refine (PK.out _).mono ?_
  rintro e w1 ⟨g, rfl, hM⟩
  have HM1 := Lib.hid (show Lows w [rdL (some ⟨g, 0, none⟩) m p, rdL Ab k9 (lb.take k9)] w1 from (HM.out.below hM.bel).cons (rdL (some ⟨g, 0, none⟩) m p) (by have h := (hM.blk 0 rfl).rd 0 m (by rw [HPM.out]; omega); rw [List.drop_zero, List.take_of_length_le (by rw [HPM.out]; exact Nat.le_refl _)] at h; exact h.mono (hM.blk 0 rfl).lt))
  replace HM := HM1
  clear hM HM1 PK hxI hxt hnI hxw hn
  obtain ⟨⟨hm20, hm21⟩, hia, hmo, hk9⟩ := HNUM.out
  go_upto_region 2 with fail
  go_upto_region 3 with (refine wpList_append_rd _ rfl (.const (.slice none 0 0)) (.tmp 31) 22 rfl w1.heap.size 5 i0 (.int .u8 0) Try.underlying22 hi hz0 hz1 hz2 rfl (.slice none 0 0) 0 [] rfl (World.ownsRow_nil _ _ _ _) _ _ _ _ _ rfl (HM.out.rd 0 rfl) (by omega) (Nat.le_refl _) ?_; intro v1 w2 hown hg)
  rw [Nat.zero_add, List.nil_append] at hown
  obtain ⟨A2, c2, rfl, -⟩ := own_slice hown
  have hoa := own_addr hown
  obtain ⟨g2, rfl⟩ := hoa.2.2 (by omega)
  have HC2 := Lib.hid hoa
  have hb2 : Below w1.heap.size w1 w2 := (Below.refl _ _).grown hg (Nat.le_refl _) (by intro k hk; cases hk)
  have hg2 := (hown.lt g2 rfl).1
  obtain ⟨M, hM⟩ : ∃ M, min m 40 = M := ⟨_, rfl⟩
  have hmin : min (m : Int) 40 = (M : Int) := by omega
  obtain ⟨i, hii⟩ : ∃ i, ia % M = i := ⟨_, rfl⟩
  have him : i < m := by have := Nat.mod_lt ia (show 0 < M by omega); omega
  have hiI : (ia : Int) % (M : Int) = (i : Int) := by omega
  have hit : ((ia : Int)).tmod (M : Int) = (i : Int) := by rw [Int.tmod_eq_emod_of_nonneg (by omega)]; exact hiI
  have hiw : IntKind.i64.wrap (ia : Int) = (ia : Int) := IntWalk.i64_in _ (by omega)
  have hiw2 : IntKind.i64.wrap (i : Int) = (i : Int) := IntWalk.i64_in _ (by omega)
  have hpi : (p.map u8v)[i]? = some (.int .u8 ((p.getD i 0).toNat : Int)) := by
    rw [List.getElem?_map, List.getElem?_eq_getElem (by rw [HPM.out]; exact him)]
    simp [u8v, List.getD, HPM.out, him]
  have fx := (hown.cellAt i (by omega)).trans hpi
  have zx := hown.frozenAt i
  have hst := hown.stored i (.int .u8 (((p.getD i 0) ^^^ v).toNat : Int))
  have hxor := xor_bits (p.getD i 0) v
  have hset : (p.map u8v).set i (.int .u8 (((p.getD i 0) ^^^ v).toNat : Int)) = (p.set i (p.getD i 0 ^^^ v)).map u8v := by rw [List.map_set]; rfl
  rw [hset] at hst
  clear hset hpi hown hg hoa hii hM
  generalize p.getD i 0 = x0 at fx hst hxor
  generalize hy : x0 ^^^ v = y at hst hxor
  clear hy
  have HST := Lib.hid hst
  clear hst
  have hiM : (0 : Int) < (M : Int) := by omega
  have himI : (i : Int) < (m : Int) := by omega
  go_upto_region 4 with (refine wpList_min_int rfl (.tmp 37) (.const (.int .i64 40)) #[3, 3] rfl (m : Int) 40 (M : Int) rfl rfl hmin ?_)
  clear hmin hiI hit hiw2 fx zx hxor hiM himI
  generalize w2.setCell ⟨g2, i, none⟩ (.int .u8 (y.toNat : Int)) = w4 at HST ⊢
  have hb3 : Below w1.heap.size w1 w4 := hb2.grown HST.out.2 hb2.size (by intro k hk; injection hk with hk; omega)
  have hq0 : (p.set i y).length = m := by rw [List.length_set]; exact HPM.out
  generalize p.set i y = q at HST hq0
  have HM4 := Lib.hid (show Lows w [rdL (some ⟨g2, 0, none⟩) m q, rdL (some ⟨g, 0, none⟩) m p, rdL Ab k9 (lb.take k9)] w4 from (HM.out.below hb3).cons (rdL (some ⟨g2, 0, none⟩) m q) (Rd.of_own HST.out.1))
  replace HM := HM4
  clear HM4 hb3 hb2 hg2 HST him
  obtain ⟨m1, hm1⟩ : ∃ m1, m + 1 = m1 := ⟨_, rfl⟩
  have hm1I : (m : Int) + 1 = (m1 : Int) := by omega
  have hm1w : IntKind.i64.wrap (m1 : Int) = (m1 : Int) := IntWalk.i64_in _ (by omega)
  obtain ⟨j, hj⟩ : ∃ j, ia % m1 = j := ⟨_, rfl⟩
  have hjm : j ≤ m := by have := Nat.mod_lt ia (show 0 < m1 by omega); omega
  have hjI : (ia : Int) % (m1 : Int) = (j : Int) := by omega
  have hjt : ((ia : Int)).tmod (m1 : Int) = (j : Int) := by rw [Int.tmod_eq_emod_of_nonneg (by omega)]; exact hjI
  have hjw : IntKind.i64.wrap (j : Int) = (j : Int) := IntWalk.i64_in _ (by omega)
  obtain ⟨z, hz⟩ : ∃ z, f.toNat % 40 = z := ⟨_, rfl⟩
  have hzI : (f.toNat : Int) % 40 = (z : Int) := by omega
  have hzt : ((f.toNat : Int)).tmod 40 = (z : Int) := by rw [Int.tmod_eq_emod_of_nonneg (by omega)]; exact hzI
  have hfw : IntKind.i64.wrap (f.toNat : Int) = (f.toNat : Int) := IntWalk.i64_in _ (by omega)
  have hzw : IntKind.i64.wrap (z : Int) = (z : Int) := IntWalk.i64_in _ (by omega)
  obtain ⟨mz, hmz⟩ : ∃ mz, m + z = mz := ⟨_, rfl⟩
  have hz40 : z < 40 := by omega
  have hm1p : ¬ m1 = 0 := by omega
  have HSL := Lib.hid (slice_h (some ⟨g2, 0, none⟩) ⟨g2, 0, rfl⟩ m c2 j (by have := HC2.out.1; omega))
  refine wp_region_held_drew (S := fun W' => Lows w [rdL (some ⟨g2, 0, none⟩) m q, rdL (some ⟨g, 0, none⟩) m p, rdL Ab k9 (lb.take k9)] W') (by kernel_rfl) (HM.out.drew) (fun hHeld => ?_)
  replace HM := Lib.hid HM.out.drew
  generalize w4.drew = wd1 at HM hHeld ⊢
  refine take_first (v := ?_) 0 rfl (by kernel_rfl) (by kernel_rfl) (by kernel_rfl) (fun _ _ _ h => h) (Or.inl ⟨by rfl, ?_⟩) (by assumption) ?_
  rotate_left
  · (intro w hSw; (try dsimp only at hSw); go_simp; try with_reducible rfl)
  (try simp only [Act.put, List.setIfInBounds_toArray, List.set_cons_zero, List.set_cons_succ])
  refine take_first (v := ?_) 1 rfl (by kernel_rfl) (by kernel_rfl) (by kernel_rfl) (fun _ _ _ h => h) (Or.inl ⟨by rfl, ?_⟩) (by assumption) ?_
  rotate_left
  · (intro w hSw; (try dsimp only at hSw); go_simp; try with_reducible rfl)
  (try simp only [Act.put, List.setIfInBounds_toArray, List.set_cons_zero, List.set_cons_succ])
  refine take_first (v := ?_) 2 rfl (by kernel_rfl) (by kernel_rfl) (by kernel_rfl) (fun _ _ _ h => h) (Or.inl ⟨by rfl, ?_⟩) (by assumption) ?_
  rotate_left
  · (intro w hSw; (try dsimp only at hSw); go_simp; try with_reducible rfl)
  (try simp only [Act.put, List.setIfInBounds_toArray, List.set_cons_zero, List.set_cons_succ])
  refine take_first (v := ?_) 3 rfl (by kernel_rfl) (by kernel_rfl) (by kernel_rfl) (fun _ _ _ h => h) (Or.inl ⟨by rfl, ?_⟩) (by assumption) ?_
  rotate_left
  · (intro w hSw; (try dsimp only at hSw); go_simp; try with_reducible rfl)
  (try simp only [Act.put, List.setIfInBounds_toArray, List.set_cons_zero, List.set_cons_succ])
  refine take_first (v := ?_) 4 rfl (by kernel_rfl) (by kernel_rfl) (by kernel_rfl) (fun _ _ _ h => h) (Or.inl ⟨by rfl, ?_⟩) (by assumption) ?_
  rotate_left
  · (intro w hSw; (try dsimp only at hSw); go_simp; try with_reducible rfl)
  (try simp only [Act.put, List.setIfInBounds_toArray, List.set_cons_zero, List.set_cons_succ])
  refine take_first (v := ?_) 5 rfl (by kernel_rfl) (by kernel_rfl) (by kernel_rfl) (fun _ _ _ h => h) (Or.inl ⟨by rfl, ?_⟩) (by assumption) ?_
  rotate_left
  · (intro w hSw; (try dsimp only at hSw); go_simp; try with_reducible rfl)
  (try simp only [Act.put, List.setIfInBounds_toArray, List.set_cons_zero, List.set_cons_succ])
  refine take_first (v := ?_) 6 rfl (by kernel_rfl) (by kernel_rfl) (by kernel_rfl) (fun _ _ _ h => h) (Or.inl ⟨by rfl, ?_⟩) (by assumption) ?_
  rotate_left
  · (intro w hSw; (try dsimp only at hSw); go_simp; try with_reducible rfl)
  (try simp only [Act.put, List.setIfInBounds_toArray, List.set_cons_zero, List.set_cons_succ])
  refine take_first (v := ?_) 7 rfl (by kernel_rfl) (by kernel_rfl) (by kernel_rfl) (fun _ _ _ h => h) (Or.inl ⟨by rfl, ?_⟩) (by assumption) ?_
  rotate_left
  · (intro w hSw; (try dsimp only at hSw); go_simp; try with_reducible rfl)
  (try simp only [Act.put, List.setIfInBounds_toArray, List.set_cons_zero, List.set_cons_succ])
  refine take_first (v := ?_) 8 rfl (by kernel_rfl) (by kernel_rfl) (by kernel_rfl) (fun _ _ _ h => h) (Or.inl ⟨by rfl, ?_⟩) (by assumption) ?_
  rotate_left
  · (intro w hSw; (try dsimp only at hSw); go_simp; try with_reducible rfl)
  (try simp only [Act.put, List.setIfInBounds_toArray, List.set_cons_zero, List.set_cons_succ])
  refine take_first (v := ?_) 9 rfl (by kernel_rfl) (by kernel_rfl) (by kernel_rfl) (fun _ _ _ h => h) (Or.inl ⟨by rfl, ?_⟩) (by assumption) ?_
  rotate_left
  · (intro w hSw; (try dsimp only at hSw); have sl := HSL.out w; go_simp; try with_reducible rfl)
  (try simp only [Act.put, List.setIfInBounds_toArray, List.set_cons_zero, List.set_cons_succ])
  refine take_first (v := ?_) 10 rfl (by kernel_rfl) (by kernel_rfl) (by kernel_rfl) (fun _ _ _ h => h) (Or.inl ⟨by rfl, ?_⟩) (by assumption) ?_
  rotate_left
  · (intro w hSw; (try dsimp only at hSw); go_simp; try with_reducible rfl)
  (try simp only [Act.put, List.setIfInBounds_toArray, List.set_cons_zero, List.set_cons_succ])
  refine take_first (v := ?_) 12 rfl (by kernel_rfl) (by kernel_rfl) (by kernel_rfl) (fun _ _ _ h => h) (Or.inl ⟨by rfl, ?_⟩) (by assumption) ?_
  rotate_left
  · (intro w hSw; (try dsimp only at hSw); go_simp; try with_reducible rfl)
  (try simp only [Act.put, List.setIfInBounds_toArray, List.set_cons_zero, List.set_cons_succ])
  refine take_first (v := ?_) 13 rfl (by kernel_rfl) (by kernel_rfl) (by kernel_rfl) (fun _ _ _ h => h) (Or.inl ⟨by rfl, ?_⟩) (by assumption) ?_
  rotate_left
  · (intro w hSw; (try dsimp only at hSw); go_simp; try with_reducible rfl)
  (try simp only [Act.put, List.setIfInBounds_toArray, List.set_cons_zero, List.set_cons_succ])
  refine take_first (v := ?_) 14 rfl (by kernel_rfl) (by kernel_rfl) (by kernel_rfl) (fun _ _ _ h => h) (Or.inl ⟨by rfl, ?_⟩) (by assumption) ?_
  rotate_left
  · (intro w hSw; (try dsimp only at hSw); go_simp; try with_reducible rfl)
  (try simp only [Act.put, List.setIfInBounds_toArray, List.set_cons_zero, List.set_cons_succ])
  refine take_first (v := ?_) 16 rfl (by kernel_rfl) (by kernel_rfl) (by kernel_rfl) (fun _ _ _ h => h) (Or.inl ⟨by rfl, ?_⟩) (by assumption) ?_
  rotate_left
  · (intro w hSw; (try dsimp only at hSw); go_simp; try with_reducible rfl)
  (try simp only [Act.put, List.setIfInBounds_toArray, List.set_cons_zero, List.set_cons_succ])
  refine take_first (v := ?_) 20 rfl (by kernel_rfl) (by kernel_rfl) (by kernel_rfl) (fun _ _ _ h => h) (Or.inl ⟨by rfl, ?_⟩) (by assumption) ?_
  rotate_left
  · (intro w hSw; (try dsimp only at hSw); go_simp; try with_reducible rfl)
  (try simp only [Act.put, List.setIfInBounds_toArray, List.set_cons_zero, List.set_cons_succ])
  refine step_one 11 rfl (by kernel_rfl) (fun K hK => ?_)
  clear hHeld
  refine step_append_rd _ (by rfl) (.const (.slice none 0 0)) (.tmp 55) 22 rfl wd1.heap.size 5 i0 (.int .u8 0) Try.underlying22 hi hz0 hz1 hz2 rfl (.slice none 0 0) 0 [] rfl (World.ownsRow_nil _ _ _ _) _ (some ⟨g, 0, none⟩) m m p rfl (HM.out.rd 1 rfl) (by omega) (Nat.le_refl _) ?_
  intro v3 wy2 hown hg
  have HMD := HM
  have hb3 : Below wd1.heap.size wd1 wy2 := (Below.refl _ _).grown hg (Nat.le_refl _) (by intro k hk; cases hk)
  have hb3s := hb3.size
  rw [Nat.zero_add, List.nil_append] at hown
  obtain ⟨A3, c3, rfl, -⟩ := own_slice hown
  obtain ⟨g3, rfl⟩ := (own_addr hown).2.2 (by omega)
  have hg3 := (hown.lt g3 rfl).1
  have HO3 := Lib.hid hown
  replace HM := Lib.hid (show Lows w [rdL (some ⟨g2, 0, none⟩) m q, rdL (some ⟨g, 0, none⟩) m p, rdL Ab k9 (lb.take k9)] wy2 from HMD.out.below hb3)
  clear hg hown
  refine hK.out _ _ (HM.out) (fun hHeld => ?_)
  clear hK K
  (try simp only [Act.put, List.setIfInBounds_toArray, List.set_cons_zero, List.set_cons_succ])
  refine step_one 15 rfl (by kernel_rfl) (fun K hK => ?_)
  clear hHeld
  refine step_append_zeros _ (by rfl) (.tmp 56) (.tmp 59) 22 3 rfl wd1.heap.size 5 i0 .i64 .i64 Try.underlying22 Try.underlying3 hi hz0 hz1 hz2 g3 m c3 (p.map u8v) rfl HO3.out z rfl (by omega) hb3s ?_
  intro v4 wy3 hown hg
  have hb4 : Below wd1.heap.size wd1 wy3 := hb3.grown hg hb3s (by intro k hk; injection hk with hk; omega)
  rw [hmz, map_rep0] at hown
  obtain ⟨A4, c4, rfl, -⟩ := own_slice hown
  have hoa := own_addr hown
  obtain ⟨g4, rfl⟩ := hoa.2.2 (by omega)
  have HC4 := Lib.hid hoa
  replace HM := Lib.hid (show Lows w [rdL (some ⟨g4, 0, none⟩) mz (p ++ List.replicate z 0), rdL (some ⟨g2, 0, none⟩) m q, rdL (some ⟨g, 0, none⟩) m p, rdL Ab k9 (lb.take k9)] wy3 from (HMD.out.below hb4).cons (rdL (some ⟨g4, 0, none⟩) mz (p ++ List.replicate z 0)) (Rd.of_own hown))
  clear hg hown HO3 hb3 hb4 hb3s hg3 HMD hoa
  refine hK.out _ _ (HM.out.tail 0) (fun hHeld => ?_)
  clear hK K
  (try simp only [Act.put, List.setIfInBounds_toArray, List.set_cons_zero, List.set_cons_succ])
  refine wpAnyH_stronger (T := fun W' => Lows w [rdL (some ⟨g4, 0, none⟩) mz (p ++ List.replicate z 0), rdL (some ⟨g2, 0, none⟩) m q, rdL (some ⟨g, 0, none⟩) m p, rdL Ab k9 (lb.take k9)] W') (fun _ h' => (h'.tail 0)) _ _ _ _ ?_
  replace hHeld := HM.out
  refine step_one 17 rfl (by kernel_rfl) (fun K hK => ?_)
  clear hHeld
  go_simp
  refine (HCU.out _).mono ?_
  rintro e wy4 ⟨rfl, hb⟩
  replace HM := Lib.hid (show Lows w [rdL (some ⟨g4, 0, none⟩) mz (p ++ List.replicate z 0), rdL (some ⟨g2, 0, none⟩) m q, rdL (some ⟨g, 0, none⟩) m p, rdL Ab k9 (lb.take k9)] wy4 from HM.out.below hb)
  clear hb
  go_wp2_with fail
  refine hK.out _ _ (HM.out) (fun hHeld => ?_)
  clear hK K
  (try simp only [Act.put, List.setIfInBounds_toArray, List.set_cons_zero, List.set_cons_succ])
  refine step_one 18 rfl (by kernel_rfl) (fun K hK => ?_)
  clear hHeld
  go_simp
  have hm9 := HM.out.alloc 22 #[.slice (some ⟨g, 0, none⟩) m m, .slice (some ⟨g2, 0, none⟩) m c2, .slice (some ⟨g2, 0, none⟩) j c2, .slice (some ⟨g4, 0, none⟩) mz c4, .slice Ab k9 cb] ([.slice (some ⟨g, 0, none⟩) m m, .slice (some ⟨g2, 0, none⟩) m c2, .slice (some ⟨g2, 0, none⟩) j c2, .slice (some ⟨g4, 0, none⟩) mz c4, .slice Ab k9 cb]) rfl
  generalize wy4.alloc (.cells #[.slice (some ⟨g, 0, none⟩) m m, .slice (some ⟨g2, 0, none⟩) m c2, .slice (some ⟨g2, 0, none⟩) j c2, .slice (some ⟨g4, 0, none⟩) mz c4, .slice Ab k9 cb] 22) = wy5 at hm9 ⊢
  generalize wy4.heap.size = g5 at hm9 ⊢
  replace HM := Lib.hid (show Lows w [blkL g5 22 ([.slice (some ⟨g, 0, none⟩) m m, .slice (some ⟨g2, 0, none⟩) m c2, .slice (some ⟨g2, 0, none⟩) j c2, .slice (some ⟨g4, 0, none⟩) mz c4, .slice Ab k9 cb]), rdL (some ⟨g4, 0, none⟩) mz (p ++ List.replicate z 0), rdL (some ⟨g2, 0, none⟩) m q, rdL (some ⟨g, 0, none⟩) m p, rdL Ab k9 (lb.take k9)] wy5 from hm9)
  clear hm9
  refine hK.out _ _ (HM.out.tail 0) (fun hHeld => ?_)
  clear hK K
  (try simp only [Act.put, List.setIfInBounds_toArray, List.set_cons_zero, List.set_cons_succ])
  refine wpAnyH_stronger (T := fun W' => Lows w [blkL g5 22 ([.slice (some ⟨g, 0, none⟩) m m, .slice (some ⟨g2, 0, none⟩) m c2, .slice (some ⟨g2, 0, none⟩) j c2, .slice (some ⟨g4, 0, none⟩) mz c4, .slice Ab k9 cb]), rdL (some ⟨g4, 0, none⟩) mz (p ++ List.replicate z 0), rdL (some ⟨g2, 0, none⟩) m q, rdL (some ⟨g, 0, none⟩) m p, rdL Ab k9 (lb.take k9)] W') (fun _ h' => (h'.tail 0)) _ _ _ _ ?_
  replace hHeld := HM.out
  refine take_first (v := ?_) 19 rfl (by kernel_rfl) (by kernel_rfl) (by kernel_rfl) (fun _ _ _ h => h) (Or.inl ⟨by rfl, ?_⟩) (by assumption) ?_
  rotate_left
  · (intro w hSw; (try dsimp only at hSw); go_simp; try with_reducible rfl)
  (try simp only [Act.put, List.setIfInBounds_toArray, List.set_cons_zero, List.set_cons_succ])
  refine wpAnyH_done (by kernel_rfl) ?_ _
  clear hHeld
  generalize hwq : wy5 = wq at HM ⊢
  clear hwq
  have HI := Lib.hid (show ∀ k, k < 5 → ∃ A n c l, n ≤ c ∧ c ≤ maxLen ∧ n ≤ 100000 ∧ ∀ W, Lows w [blkL g5 22 ([.slice (some ⟨g, 0, none⟩) m m, .slice (some ⟨g2, 0, none⟩) m c2, .slice (some ⟨g2, 0, none⟩) j c2, .slice (some ⟨g4, 0, none⟩) mz c4, .slice Ab k9 cb]), rdL (some ⟨g4, 0, none⟩) mz (p ++ List.replicate z 0), rdL (some ⟨g2, 0, none⟩) m q, rdL (some ⟨g, 0, none⟩) m p, rdL Ab k9 (lb.take k9)] W → W.cell? ⟨g5, k, none⟩ = some (.slice A n c) ∧ Rd W W.heap.size A n l from by
    intro k hk
    match k, hk with
    | 0, _ => exact ⟨(some ⟨g, 0, none⟩), m, m, p, Nat.le_refl _, by unfold maxLen; omega, by omega, fun W hM => ⟨(hM.blk 0 rfl).cell 0, hM.rd 3 rfl⟩⟩
    | 1, _ => exact ⟨(some ⟨g2, 0, none⟩), m, c2, q, HC2.out.1, HC2.out.2.1, by omega, fun W hM => ⟨(hM.blk 0 rfl).cell 1, hM.rd 2 rfl⟩⟩
    | 2, _ => exact ⟨(some ⟨g2, 0, none⟩), j, c2, (q.take j), by have := HC2.out.1; omega, HC2.out.2.1, by omega, fun W hM => ⟨(hM.blk 0 rfl).cell 2, (hM.rd 2 rfl).take hjm⟩⟩
    | 3, _ => exact ⟨(some ⟨g4, 0, none⟩), mz, c4, (p ++ List.replicate z 0), HC4.out.1, HC4.out.2.1, by omega, fun W hM => ⟨(hM.blk 0 rfl).cell 3, hM.rd 1 rfl⟩⟩
    | 4, _ => exact ⟨Ab, k9, cb, lb.take k9, by omega, hcm, by omega, fun W hM => ⟨(hM.blk 0 rfl).cell 4, hM.rd 4 rfl⟩⟩
    | k + 5, hk => exact absurd hk (by omega))
  clear HC2 HC4 HCU hjI hjt hzI hzt hm1 hm1I hm1w hm1p hj hz hjw hfw hzw hiw hm20 hm21 hz40 hjm hmz hk9 hcm hnc hia hmo HSL
  go_wp2_with fail
  go_loopw [65] (fun iv wr => ∃ k : Nat, k ≤ 5 ∧ iv = .int .i64 (k : Int) ∧ Lows w [blkL g5 22 ([.slice (some ⟨g, 0, none⟩) m m, .slice (some ⟨g2, 0, none⟩) m c2, .slice (some ⟨g2, 0, none⟩) j c2, .slice (some ⟨g4, 0, none⟩) mz c4, .slice Ab k9 cb]), rdL (some ⟨g4, 0, none⟩) mz (p ++ List.replicate z 0), rdL (some ⟨g2, 0, none⟩) m q, rdL (some ⟨g, 0, none⟩) m p, rdL Ab k9 (lb.take k9)] wr) (fun iv _ => 5 - (intOf iv).toNat)
  case atStart => exact ⟨0, by omega, rfl, HM.out⟩
  case round =>
    clear HM
    obtain ⟨k, hk, rfl, hM⟩ := hrel
    have HM := Lib.hid hM
    clear hM
    by_cases hk5 : k < 5
    · obtain ⟨A, n, c, l, h1, h2, h3, hW⟩ := HI.out k hk5
      have fx := (hW _ HM.out).1
      have hrw := (hW _ HM.out).2
      replace HM := Lib.hid (show Lows w [rdL A n l, blkL g5 22 ([.slice (some ⟨g, 0, none⟩) m m, .slice (some ⟨g2, 0, none⟩) m c2, .slice (some ⟨g2, 0, none⟩) j c2, .slice (some ⟨g4, 0, none⟩) mz c4, .slice Ab k9 cb]), rdL (some ⟨g4, 0, none⟩) mz (p ++ List.replicate z 0), rdL (some ⟨g2, 0, none⟩) m q, rdL (some ⟨g, 0, none⟩) m p, rdL Ab k9 (lb.take k9)] wr from HM.out.cons (rdL A n l) hrw)
      have dk : decide ((k : Int) < 5) = true := by simp; omega
      have HKA := Lib.hid (HKC.out A n c l h1 h2 h3)
      have HRA := Lib.hid (refCheck_any A n c l h1 h3)
      have HTA := Lib.hid (HTC.out A n c l h1 h2 h3)
      have HUA := Lib.hid (refTrim_any A n c l h1 h2 h3)
      have HPA := Lib.hid (HPD.out A n c l h1 h2 h3)
      have HQA := Lib.hid (fun W (h : Rd W W.heap.size A n l) => refPad_any W.heap.size c A n l (by omega) W (Nat.le_refl _) h)
      have hok := (checkB_ok l).1
      have he5 := (checkB_ok l).2.1
      generalize checkB l = ck at HKA HRA hok he5
      obtain ⟨ii, ec⟩ := ck
      dsimp only at HKA HRA hok he5
      have hsm := info_same ii hok
      obtain ⟨ci, hci⟩ : ∃ z, ii.cells.toArray = z := ⟨_, rfl⟩
      rw [hci] at HKA HRA hsm
      have HCI := Lib.hid hci
      have HSM := Lib.hid hsm
      have HCO := Lib.hid (info_cellsOf ii hok)
      have HIL := Lib.hid (InfoM.cells_length hok)
      generalize trimB l = tt at HTA HUA
      obtain ⟨tl, te⟩ := tt
      dsimp only at HTA HUA
      generalize padB l = pl at HPA HQA
      clear hci hsm hW hrw h1 h2 h3 hk
      go_upto_region 7 with fail
      go_wp2_with fail
      refine (HKA.out _ (HM.out.rd 0 rfl)).mono ?_
      rintro e wi7 ⟨rfl, hb⟩
      replace HM := Lib.hid (HM.out.below hb)
      clear hb
      have hA : Blk (wi7.alloc (.cells #[.bool false, .int .u8 0, .int .u8 0, .int .u8 0, .int .u8 0, .int .u8 0, .int .u8 0, .int .u8 0, .int .u8 0, .int .u8 0, .int .u8 0, .int .u8 0, .int .u8 0, .int .u8 0, .int .u8 0, .int .u8 0, .int .u8 0, .bool false, .int .u8 0, .int .u8 0, .int .u8 0, .int .u8 0, .int .u8 0, .int .u8 0, .int .u8 0, .int .u8 0, .int .u8 0, .int .u8 0, .int .u8 0, .int .u8 0, .int .u8 0, .int .u8 0, .int .u8 0, .int .u8 0, .int .i64 0] 31)) wi7.heap.size 31 info0.cells := Blk.new wi7 31 info0.cells
      go_upto_region 8 with (refine wpList_store_blk rfl 31 (.tmp 17) (.tmp 72) rfl wi7.heap.size ii.cells rfl (by show Value.agg ci = _; rw [HCI.out]) 31 info0.cells hA HCO.out (by rw [HIL.out]; rfl) (InfoM.one _) ?_; intro wj7 hb hg)
      replace HM := Lib.hid (show Lows w [blkL wi7.heap.size 31 ii.cells, rdL A n l, blkL g5 22 ([.slice (some ⟨g, 0, none⟩) m m, .slice (some ⟨g2, 0, none⟩) m c2, .slice (some ⟨g2, 0, none⟩) j c2, .slice (some ⟨g4, 0, none⟩) mz c4, .slice Ab k9 cb]), rdL (some ⟨g4, 0, none⟩) mz (p ++ List.replicate z 0), rdL (some ⟨g2, 0, none⟩) m q, rdL (some ⟨g, 0, none⟩) m p, rdL Ab k9 (lb.take k9)] wj7 from HM.out.stored (arr := #[.bool false, .int .u8 0, .int .u8 0, .int .u8 0, .int .u8 0, .int .u8 0, .int .u8 0, .int .u8 0, .int .u8 0, .int .u8 0, .int .u8 0, .int .u8 0, .int .u8 0, .int .u8 0, .int .u8 0, .int .u8 0, .int .u8 0, .bool false, .int .u8 0, .int .u8 0, .int .u8 0, .int .u8 0, .int .u8 0, .int .u8 0, .int .u8 0, .int .u8 0, .int .u8 0, .int .u8 0, .int .u8 0, .int .u8 0, .int .u8 0, .int .u8 0, .int .u8 0, .int .u8 0, .int .i64 0]) hg hb)
      clear hA hb hg
      generalize wi7.heap.size = P1 at HM ⊢
      go_wp2_with fail
      refine (HRA.out _ (HM.out.rd 1 rfl)).mono ?_
      rintro e wi8 ⟨rfl, hb⟩
      replace HM := Lib.hid (HM.out.below hb)
      clear hb
      have hA : Blk (wi8.alloc (.cells #[.bool false, .int .u8 0, .int .u8 0, .int .u8 0, .int .u8 0, .int .u8 0, .int .u8 0, .int .u8 0, .int .u8 0, .int .u8 0, .int .u8 0, .int .u8 0, .int .u8 0, .int .u8 0, .int .u8 0, .int .u8 0, .int .u8 0, .bool false, .int .u8 0, .int .u8 0, .int .u8 0, .int .u8 0, .int .u8 0, .int .u8 0, .int .u8 0, .int .u8 0, .int .u8 0, .int .u8 0, .int .u8 0, .int .u8 0, .int .u8 0, .int .u8 0, .int .u8 0, .int .u8 0, .int .i64 0] 31)) wi8.heap.size 31 info0.cells := Blk.new wi8 31 info0.cells
      go_upto_region 9 with (refine wpList_store_blk rfl 31 (.tmp 19) (.tmp 77) rfl wi8.heap.size ii.cells rfl (by show Value.agg ci = _; rw [HCI.out]) 31 info0.cells hA HCO.out (by rw [HIL.out]; rfl) (InfoM.one _) ?_; intro wj8 hb hg)
      replace HM := Lib.hid (show Lows w [blkL wi8.heap.size 31 ii.cells, blkL P1 31 ii.cells, rdL A n l, blkL g5 22 ([.slice (some ⟨g, 0, none⟩) m m, .slice (some ⟨g2, 0, none⟩) m c2, .slice (some ⟨g2, 0, none⟩) j c2, .slice (some ⟨g4, 0, none⟩) mz c4, .slice Ab k9 cb]), rdL (some ⟨g4, 0, none⟩) mz (p ++ List.replicate z 0), rdL (some ⟨g2, 0, none⟩) m q, rdL (some ⟨g, 0, none⟩) m p, rdL Ab k9 (lb.take k9)] wj8 from HM.out.stored (arr := #[.bool false, .int .u8 0, .int .u8 0, .int .u8 0, .int .u8 0, .int .u8 0, .int .u8 0, .int .u8 0, .int .u8 0, .int .u8 0, .int .u8 0, .int .u8 0, .int .u8 0, .int .u8 0, .int .u8 0, .int .u8 0, .int .u8 0, .bool false, .int .u8 0, .int .u8 0, .int .u8 0, .int .u8 0, .int .u8 0, .int .u8 0, .int .u8 0, .int .u8 0, .int .u8 0, .int .u8 0, .int .u8 0, .int .u8 0, .int .u8 0, .int .u8 0, .int .u8 0, .int .u8 0, .int .i64 0]) hg hb)
      clear hA hb hg
      generalize wi8.heap.size = P2 at HM ⊢
      go_wp2_with fail
      refine (HTA.out _ (HM.out.rd 2 rfl)).mono ?_
      rintro e wi9 ⟨A9, c9, rfl, hr, hb⟩
      replace HM := Lib.hid (show Lows w [rdL A9 tl.length tl, blkL P2 31 ii.cells, blkL P1 31 ii.cells, rdL A n l, blkL g5 22 ([.slice (some ⟨g, 0, none⟩) m m, .slice (some ⟨g2, 0, none⟩) m c2, .slice (some ⟨g2, 0, none⟩) j c2, .slice (some ⟨g4, 0, none⟩) mz c4, .slice Ab k9 cb]), rdL (some ⟨g4, 0, none⟩) mz (p ++ List.replicate z 0), rdL (some ⟨g2, 0, none⟩) m q, rdL (some ⟨g, 0, none⟩) m p, rdL Ab k9 (lb.take k9)] wi9 from (HM.out.below hb).cons (rdL A9 tl.length tl) hr)
      clear hr hb
      go_upto_region 10 with fail
      go_wp2_with fail
      refine (HUA.out _ (HM.out.rd 3 rfl)).mono ?_
      rintro e wi10 ⟨A8, c8, rfl, hr, hb⟩
      replace HM := Lib.hid (show Lows w [rdL A8 tl.length tl, rdL A9 tl.length tl, blkL P2 31 ii.cells, blkL P1 31 ii.cells, rdL A n l, blkL g5 22 ([.slice (some ⟨g, 0, none⟩) m m, .slice (some ⟨g2, 0, none⟩) m c2, .slice (some ⟨g2, 0, none⟩) j c2, .slice (some ⟨g4, 0, none⟩) mz c4, .slice Ab k9 cb]), rdL (some ⟨g4, 0, none⟩) mz (p ++ List.replicate z 0), rdL (some ⟨g2, 0, none⟩) m q, rdL (some ⟨g, 0, none⟩) m p, rdL Ab k9 (lb.take k9)] wi10 from (HM.out.below hb).cons (rdL A8 tl.length tl) hr)
      clear hr hb
      go_upto_region 11 with fail
      refine wp_region_held_drew (S := fun W' => Lows w [rdL A8 tl.length tl, rdL A9 tl.length tl, blkL P2 31 ii.cells, blkL P1 31 ii.cells, rdL A n l, blkL g5 22 ([.slice (some ⟨g, 0, none⟩) m m, .slice (some ⟨g2, 0, none⟩) m c2, .slice (some ⟨g2, 0, none⟩) j c2, .slice (some ⟨g4, 0, none⟩) mz c4, .slice Ab k9 cb]), rdL (some ⟨g4, 0, none⟩) mz (p ++ List.replicate z 0), rdL (some ⟨g2, 0, none⟩) m q, rdL (some ⟨g, 0, none⟩) m p, rdL Ab k9 (lb.take k9)] W') (by kernel_rfl) (HM.out.drew) (fun hHeld => ?_)
      replace HM := Lib.hid HM.out.drew
      generalize wi10.drew = wd1 at HM hHeld ⊢
      refine take_first (v := .agg ci) 0 rfl (by kernel_rfl) (by kernel_rfl) (by kernel_rfl) (fun _ _ _ h => h) (by rw [← HCI.out]; exact yields_load_obj (by rfl) 31 (.tmp 17) rfl P1 0 rfl ii.cells (fun w' hb => (Lows.blk hb 3 rfl).all) _ Try.underlying31 rfl HCO.out) (by assumption) ?_
      (try simp only [Act.put, List.setIfInBounds_toArray, List.set_cons_zero, List.set_cons_succ])
      refine take_first (v := .agg ci) 1 rfl (by kernel_rfl) (by kernel_rfl) (by kernel_rfl) (fun _ _ _ h => h) (by rw [← HCI.out]; exact yields_load_obj (by rfl) 31 (.tmp 19) rfl P2 0 rfl ii.cells (fun w' hb => (Lows.blk hb 2 rfl).all) _ Try.underlying31 rfl HCO.out) (by assumption) ?_
      (try simp only [Act.put, List.setIfInBounds_toArray, List.set_cons_zero, List.set_cons_succ])
      refine take_first (v := ?_) 2 rfl (by kernel_rfl) (by kernel_rfl) (by kernel_rfl) (fun _ _ _ h => h) (Or.inl ⟨by rfl, ?_⟩) (by assumption) ?_
      rotate_left
      · (intro w hSw; (try dsimp only at hSw); refine (run_neq_agg _ _ 31 31 89 90 ?_ ci ci true w ?_ ?_ info_noguard (HSM.out w)).trans ?_ <;> first | with_reducible rfl | rfl)
      (try simp only [Act.put, List.setIfInBounds_toArray, List.set_cons_zero, List.set_cons_succ])
      refine take_first (v := ?_) 3 rfl (by kernel_rfl) (by kernel_rfl) (by kernel_rfl) (fun _ _ _ h => h) (Or.inl ⟨by rfl, ?_⟩) (by assumption) ?_
      rotate_left
      · (intro w hSw; (try dsimp only at hSw); go_simp; try with_reducible rfl)
      (try simp only [Act.put, List.setIfInBounds_toArray, List.set_cons_zero, List.set_cons_succ])
      refine take_first (v := ?_) 4 rfl (by kernel_rfl) (by kernel_rfl) (by kernel_rfl) (fun _ _ _ h => h) (Or.inl ⟨by rfl, ?_⟩) (by assumption) ?_
      rotate_left
      · (intro w hSw; (try dsimp only at hSw); go_simp; try with_reducible rfl)
      (try simp only [Act.put, List.setIfInBounds_toArray, List.set_cons_zero, List.set_cons_succ])
      refine take_first (v := ?_) 5 rfl (by kernel_rfl) (by kernel_rfl) (by kernel_rfl) (fun _ _ _ h => h) (Or.inl ⟨by rfl, ?_⟩) (by assumption) ?_
      rotate_left
      · (intro w hSw; (try dsimp only at hSw); go_simp; try with_reducible rfl)
      (try simp only [Act.put, List.setIfInBounds_toArray, List.set_cons_zero, List.set_cons_succ])
      refine take_first (v := ?_) 6 rfl (by kernel_rfl) (by kernel_rfl) (by kernel_rfl) (fun _ _ _ h => h) (Or.inl ⟨by rfl, ?_⟩) (by assumption) ?_
      rotate_left
      · (intro w hSw; (try dsimp only at hSw); go_simp; try with_reducible rfl)
      (try simp only [Act.put, List.setIfInBounds_toArray, List.set_cons_zero, List.set_cons_succ])
      refine take_first (v := ?_) 7 rfl (by kernel_rfl) (by kernel_rfl) (by kernel_rfl) (fun _ _ _ h => h) (Or.inl ⟨by rfl, ?_⟩) (by assumption) ?_
      rotate_left
      · (intro w hSw; (try dsimp only at hSw); go_simp; try with_reducible rfl)
      (try simp only [Act.put, List.setIfInBounds_toArray, List.set_cons_zero, List.set_cons_succ])
      refine take_first (v := ?_) 8 rfl (by kernel_rfl) (by kernel_rfl) (by kernel_rfl) (fun _ _ _ h => h) (Or.inl ⟨by rfl, ?_⟩) (by assumption) ?_
      rotate_left
      · (intro w hSw; (try dsimp only at hSw); go_simp; try with_reducible rfl)
      (try simp only [Act.put, List.setIfInBounds_toArray, List.set_cons_zero, List.set_cons_succ])
      refine take_first (v := ?_) 9 rfl (by kernel_rfl) (by kernel_rfl) (by kernel_rfl) (fun _ _ _ h => h) (Or.inl ⟨by rfl, ?_⟩) (by assumption) ?_
      rotate_left
      · (intro w hSw; (try dsimp only at hSw); go_simp; try with_reducible rfl)
      (try simp only [Act.put, List.setIfInBounds_toArray, List.set_cons_zero, List.set_cons_succ])
      refine take_first (v := ?_) 10 rfl (by kernel_rfl) (by kernel_rfl) (by kernel_rfl) (fun _ _ _ h => h) (Or.inl ⟨by rfl, ?_⟩) (by assumption) ?_
      rotate_left
      · (intro w hSw; (try dsimp only at hSw); have cv : (convert 22 9 (.slice A9 tl.length c9)).run Try.prog w = .ok (.string ⟨tl.toArray⟩) w := run_string_of_rd (P := Try.prog) 22 9 5 c9 Try.underlying22 Try.underlying5 Try.underlying9 (Lows.rd hSw 1 rfl); go_simp; try with_reducible rfl)
      (try simp only [Act.put, List.setIfInBounds_toArray, List.set_cons_zero, List.set_cons_succ])
      refine take_first (v := ?_) 11 rfl (by kernel_rfl) (by kernel_rfl) (by kernel_rfl) (fun _ _ _ h => h) (Or.inl ⟨by rfl, ?_⟩) (by assumption) ?_
      rotate_left
      · (intro w hSw; (try dsimp only at hSw); go_simp; try with_reducible rfl)
      (try simp only [Act.put, List.setIfInBounds_toArray, List.set_cons_zero, List.set_cons_succ])
      refine take_first (v := ?_) 12 rfl (by kernel_rfl) (by kernel_rfl) (by kernel_rfl) (fun _ _ _ h => h) (Or.inl ⟨by rfl, ?_⟩) (by assumption) ?_
      rotate_left
      · (intro w hSw; (try dsimp only at hSw); have cv : (convert 22 9 (.slice A8 tl.length c8)).run Try.prog w = .ok (.string ⟨tl.toArray⟩) w := run_string_of_rd (P := Try.prog) 22 9 5 c8 Try.underlying22 Try.underlying5 Try.underlying9 (Lows.rd hSw 0 rfl); go_simp; try with_reducible rfl)
      (try simp only [Act.put, List.setIfInBounds_toArray, List.set_cons_zero, List.set_cons_succ])
      refine take_first (v := ?_) 13 rfl (by kernel_rfl) (by kernel_rfl) (by kernel_rfl) (fun _ _ _ h => h) (Or.inl ⟨by rfl, ?_⟩) (by assumption) ?_
      rotate_left
      · (intro w hSw; (try dsimp only at hSw); go_simp; try with_reducible rfl)
      (try simp only [Act.put, List.setIfInBounds_toArray, List.set_cons_zero, List.set_cons_succ])
      refine take_first (v := ?_) 14 rfl (by kernel_rfl) (by kernel_rfl) (by kernel_rfl) (fun _ _ _ h => h) (Or.inl ⟨by rfl, ?_⟩) (by assumption) ?_
      rotate_left
      · (intro w hSw; (try dsimp only at hSw); go_simp; try with_reducible rfl)
      (try simp only [Act.put, List.setIfInBounds_toArray, List.set_cons_zero, List.set_cons_succ])
      refine take_first (v := ?_) 15 rfl (by kernel_rfl) (by kernel_rfl) (by kernel_rfl) (fun _ _ _ h => h) (Or.inl ⟨by rfl, ?_⟩) (by assumption) ?_
      rotate_left
      · (intro w hSw; (try dsimp only at hSw); go_simp; try with_reducible rfl)
      (try simp only [Act.put, List.setIfInBounds_toArray, List.set_cons_zero, List.set_cons_succ])
      refine take_first (v := ?_) 16 rfl (by kernel_rfl) (by kernel_rfl) (by kernel_rfl) (fun _ _ _ h => h) (Or.inl ⟨by rfl, ?_⟩) (by assumption) ?_
      rotate_left
      · (intro w hSw; (try dsimp only at hSw); go_simp; try with_reducible rfl)
      (try simp only [Act.put, List.setIfInBounds_toArray, List.set_cons_zero, List.set_cons_succ])
      refine take_first (v := ?_) 17 rfl (by kernel_rfl) (by kernel_rfl) (by kernel_rfl) (fun _ _ _ h => h) (Or.inl ⟨by rfl, ?_⟩) (by assumption) ?_
      rotate_left
      · (intro w hSw; (try dsimp only at hSw); go_simp; try with_reducible rfl)
      (try simp only [Act.put, List.setIfInBounds_toArray, List.set_cons_zero, List.set_cons_succ])
      refine take_first (v := ?_) 18 rfl (by kernel_rfl) (by kernel_rfl) (by kernel_rfl) (fun _ _ _ h => h) (Or.inl ⟨by rfl, ?_⟩) (by assumption) ?_
      rotate_left
      · (intro w hSw; (try dsimp only at hSw); go_simp; try with_reducible rfl)
      (try simp only [Act.put, List.setIfInBounds_toArray, List.set_cons_zero, List.set_cons_succ])
      refine take_first (v := ?_) 19 rfl (by kernel_rfl) (by kernel_rfl) (by kernel_rfl) (fun _ _ _ h => h) (Or.inl ⟨by rfl, ?_⟩) (by assumption) ?_
      rotate_left
      · (intro w hSw; (try dsimp only at hSw); go_simp; try with_reducible rfl)
      (try simp only [Act.put, List.setIfInBounds_toArray, List.set_cons_zero, List.set_cons_succ])
      refine take_first (v := ?_) 20 rfl (by kernel_rfl) (by kernel_rfl) (by kernel_rfl) (fun _ _ _ h => h) (Or.inl ⟨by rfl, ?_⟩) (by assumption) ?_
      rotate_left
      · (intro w hSw; (try dsimp only at hSw); go_simp; try with_reducible rfl)
      (try simp only [Act.put, List.setIfInBounds_toArray, List.set_cons_zero, List.set_cons_succ])
      refine take_first (v := ?_) 21 rfl (by kernel_rfl) (by kernel_rfl) (by kernel_rfl) (fun _ _ _ h => h) (Or.inl ⟨by rfl, ?_⟩) (by assumption) ?_
      rotate_left
      · (intro w hSw; (try dsimp only at hSw); go_simp; try with_reducible rfl)
      (try simp only [Act.put, List.setIfInBounds_toArray, List.set_cons_zero, List.set_cons_succ])
      refine take_first (v := ?_) 24 rfl (by kernel_rfl) (by kernel_rfl) (by kernel_rfl) (fun _ _ _ h => h) (Or.inl ⟨by rfl, ?_⟩) (by assumption) ?_
      rotate_left
      · (intro w hSw; (try dsimp only at hSw); go_simp; try with_reducible rfl)
      (try simp only [Act.put, List.setIfInBounds_toArray, List.set_cons_zero, List.set_cons_succ])
      refine step_one 22 rfl (by kernel_rfl) (fun K hK => ?_)
      clear hHeld
      go_simp
      refine (HPA.out _ (HM.out.rd 4 rfl)).mono ?_
      rintro e wy2 ⟨A7, c7, rfl, -, -, hr, hb⟩
      replace HM := Lib.hid (show Lows w [rdL A7 pl.length pl, rdL A8 tl.length tl, rdL A9 tl.length tl, blkL P2 31 ii.cells, blkL P1 31 ii.cells, rdL A n l, blkL g5 22 ([.slice (some ⟨g, 0, none⟩) m m, .slice (some ⟨g2, 0, none⟩) m c2, .slice (some ⟨g2, 0, none⟩) j c2, .slice (some ⟨g4, 0, none⟩) mz c4, .slice Ab k9 cb]), rdL (some ⟨g4, 0, none⟩) mz (p ++ List.replicate z 0), rdL (some ⟨g2, 0, none⟩) m q, rdL (some ⟨g, 0, none⟩) m p, rdL Ab k9 (lb.take k9)] wy2 from (HM.out.below hb).cons (rdL A7 pl.length pl) (hr))
      clear hb
      go_wp2_with fail
      refine hK.out _ _ (HM.out.tail 0) (fun hHeld => ?_)
      clear hK K
      (try simp only [Act.put, List.setIfInBounds_toArray, List.set_cons_zero, List.set_cons_succ])
      refine wpAnyH_stronger (T := fun W' => Lows w [rdL A7 pl.length pl, rdL A8 tl.length tl, rdL A9 tl.length tl, blkL P2 31 ii.cells, blkL P1 31 ii.cells, rdL A n l, blkL g5 22 ([.slice (some ⟨g, 0, none⟩) m m, .slice (some ⟨g2, 0, none⟩) m c2, .slice (some ⟨g2, 0, none⟩) j c2, .slice (some ⟨g4, 0, none⟩) mz c4, .slice Ab k9 cb]), rdL (some ⟨g4, 0, none⟩) mz (p ++ List.replicate z 0), rdL (some ⟨g2, 0, none⟩) m q, rdL (some ⟨g, 0, none⟩) m p, rdL Ab k9 (lb.take k9)] W') (fun _ h' => (h'.tail 0)) _ _ _ _ ?_
      replace hHeld := HM.out
      refine take_first (v := ?_) 23 rfl (by kernel_rfl) (by kernel_rfl) (by kernel_rfl) (fun _ _ _ h => h) (Or.inl ⟨by rfl, ?_⟩) (by assumption) ?_
      rotate_left
      · (intro w hSw; (try dsimp only at hSw); have cv : (convert 22 9 (.slice A7 pl.length c7)).run Try.prog w = .ok (.string ⟨pl.toArray⟩) w := run_string_of_rd (P := Try.prog) 22 9 5 c7 Try.underlying22 Try.underlying5 Try.underlying9 (Lows.rd hSw 0 rfl); go_simp; try with_reducible rfl)
      (try simp only [Act.put, List.setIfInBounds_toArray, List.set_cons_zero, List.set_cons_succ])
      refine step_one 25 rfl (by kernel_rfl) (fun K hK => ?_)
      clear hHeld
      go_simp
      refine (HQA.out _ (HM.out.rd 5 rfl)).mono ?_
      rintro e wy3 ⟨A6, c6, rfl, hr, hb⟩
      replace HM := Lib.hid (show Lows w [rdL A6 pl.length pl, rdL A7 pl.length pl, rdL A8 tl.length tl, rdL A9 tl.length tl, blkL P2 31 ii.cells, blkL P1 31 ii.cells, rdL A n l, blkL g5 22 ([.slice (some ⟨g, 0, none⟩) m m, .slice (some ⟨g2, 0, none⟩) m c2, .slice (some ⟨g2, 0, none⟩) j c2, .slice (some ⟨g4, 0, none⟩) mz c4, .slice Ab k9 cb]), rdL (some ⟨g4, 0, none⟩) mz (p ++ List.replicate z 0), rdL (some ⟨g2, 0, none⟩) m q, rdL (some ⟨g, 0, none⟩) m p, rdL Ab k9 (lb.take k9)] wy3 from (HM.out.below hb).cons (rdL A6 pl.length pl) (Rd.of_own hr))
      clear hb
      go_wp2_with fail
      refine hK.out _ _ (HM.out.tail 0) (fun hHeld => ?_)
      clear hK K
      (try simp only [Act.put, List.setIfInBounds_toArray, List.set_cons_zero, List.set_cons_succ])
      refine wpAnyH_stronger (T := fun W' => Lows w [rdL A6 pl.length pl, rdL A7 pl.length pl, rdL A8 tl.length tl, rdL A9 tl.length tl, blkL P2 31 ii.cells, blkL P1 31 ii.cells, rdL A n l, blkL g5 22 ([.slice (some ⟨g, 0, none⟩) m m, .slice (some ⟨g2, 0, none⟩) m c2, .slice (some ⟨g2, 0, none⟩) j c2, .slice (some ⟨g4, 0, none⟩) mz c4, .slice Ab k9 cb]), rdL (some ⟨g4, 0, none⟩) mz (p ++ List.replicate z 0), rdL (some ⟨g2, 0, none⟩) m q, rdL (some ⟨g, 0, none⟩) m p, rdL Ab k9 (lb.take k9)] W') (fun _ h' => (h'.tail 0)) _ _ _ _ ?_
      replace hHeld := HM.out
      refine take_first (v := ?_) 26 rfl (by kernel_rfl) (by kernel_rfl) (by kernel_rfl) (fun _ _ _ h => h) (Or.inl ⟨by rfl, ?_⟩) (by assumption) ?_
      rotate_left
      · (intro w hSw; (try dsimp only at hSw); have cv : (convert 22 9 (.slice A6 pl.length c6)).run Try.prog w = .ok (.string ⟨pl.toArray⟩) w := run_string_of_rd (P := Try.prog) 22 9 5 c6 Try.underlying22 Try.underlying5 Try.underlying9 (Lows.rd hSw 0 rfl); go_simp; try with_reducible rfl)
      (try simp only [Act.put, List.setIfInBounds_toArray, List.set_cons_zero, List.set_cons_succ])
      refine take_first (v := ?_) 27 rfl (by kernel_rfl) (by kernel_rfl) (by kernel_rfl) (fun _ _ _ h => h) (Or.inl ⟨by rfl, ?_⟩) (by assumption) ?_
      rotate_left
      · (intro w hSw; (try dsimp only at hSw); go_simp; try with_reducible rfl)
      (try simp only [Act.put, List.setIfInBounds_toArray, List.set_cons_zero, List.set_cons_succ])
      refine take_first (v := ?_) 28 rfl (by kernel_rfl) (by kernel_rfl) (by kernel_rfl) (fun _ _ _ h => h) (Or.inl ⟨by rfl, ?_⟩) (by assumption) ?_
      rotate_left
      · (intro w hSw; (try dsimp only at hSw); go_simp; try with_reducible rfl)
      (try simp only [Act.put, List.setIfInBounds_toArray, List.set_cons_zero, List.set_cons_succ])
      refine wpAnyH_done (by kernel_rfl) ?_ _
      have HB5 := Lib.hid (show Lows w [blkL g5 22 ([.slice (some ⟨g, 0, none⟩) m m, .slice (some ⟨g2, 0, none⟩) m c2, .slice (some ⟨g2, 0, none⟩) j c2, .slice (some ⟨g4, 0, none⟩) mz c4, .slice Ab k9 cb]), rdL (some ⟨g4, 0, none⟩) mz (p ++ List.replicate z 0), rdL (some ⟨g2, 0, none⟩) m q, rdL (some ⟨g, 0, none⟩) m p, rdL Ab k9 (lb.take k9)] wy3 from ((((((HM.out.tail 0).tail 0).tail 0).tail 0).tail 0).tail 0).tail 0)
      clear hHeld HM
      go_wp2_with fail
      go_roundw
      case rel => exact ⟨k + 1, by omega, by go_num, HB5.out⟩
      case measure => simp [intOf]; omega
    · obtain rfl : k = 5 := by omega
      have dk : decide ((5 : Int) < 5) = false := by simp
      go_wp2_with fail
      refine (HBG.out _).mono ?_
      rintro e wz ⟨rfl, hb⟩
      replace HM := Lib.hid (HM.out.below hb)
      clear hb
      go_wp2_with fail
      go_ret
      exact ⟨rfl, HM.out.bel⟩
end Go.Proofs.Ytdpdalkeafkhkaa
