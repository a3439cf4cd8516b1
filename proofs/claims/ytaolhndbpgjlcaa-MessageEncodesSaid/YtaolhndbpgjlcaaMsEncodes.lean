/-
  MessageEncodes returns true for every input, and changes nothing that was there: the walk. No statement is proved here.
-/
import Derived.Test.YtaolhndbpgjlcaaMsUse
import Derived.Test.YtaolhndbpgjlcaaCaseCut
import Derived.Test.YtaolhndbpgjlcaaMakeG
import Derived.Test.YtaolhndbpgjlcaaMsEnc
import Derived.Test.YtaolhndbpgjlcaaMsEncT
import Derived.Test.YtaolhndbpgjlcaaEnt
import Derived.Test.YtaolhndbpgjlcaaBuildRows
namespace Go.Proofs.Ytaolhndbpgjlcaa
open Go.RowKit

theorem rows2_eq {r1 r2 : List Value} {c1 c2 : Array Value} (h1 : r1.toArray = c1) (h2 : r2.toArray = c2) : (([r1, r2].zipIdx 0).map fun x => (x.2, Value.agg x.1.toArray)) = [(0, .agg c1), (1, .agg c2)] := by
  subst h1 h2
  rfl
theorem tranInfo : ∃ i, Try.prog.info? 40 = some i ∧ i.size = 3 ∧ ∃ z, i.zero = some z := by
  have h : (Try.prog.info? 40).map (fun i => (i.size, i.zero.isSome)) = some (3, true) := by kernel_rfl
  cases hi : Try.prog.info? 40 with
  | none => rw [hi] at h; cases h
  | some i =>
    rw [hi] at h
    simp only [Option.map_some, Option.some.injEq, Prod.mk.injEq] at h
    exact ⟨i, rfl, h.1, Option.isSome_iff_exists.1 h.2⟩
set_option maxRecDepth 100000 in
set_option maxHeartbeats 16000000 in
theorem ms_encodes_walk (HKN : MsKindC 22) (HEA : MsEncC 9 1) (HEB : MsEncC 11 2) (HEC : MsEncC 13 3) (HET : MsEncTC 7) (w : World) (m1 m2 m3 : MsgM) (r q : Nat) (A : Option Addr) (nb cb : Nat) (lb : List UInt8) (n : Nat) (hok1 : m1.ok 1) (hok2 : m2.ok 2) (hok3 : m3.ok 3) (hr32 : r < 4294967296) (hq64 : q < 18446744073709551616) (hnc : nb ≤ cb) (hcm : cb ≤ maxLen) (hrb : Rd w w.heap.size A nb lb) (hn : n ≤ 65535) :
    Calls Try.prog 3 #[.agg m1.cells.toArray, .agg m2.cells.toArray, .agg m3.cells.toArray, .agg (tranC r q A nb cb).toArray, .int .u16 (n : Int)] w fun e w' => e = .returned (.bool true) ∧ Below w.heap.size w w' := by
  obtain ⟨i0, hi, hz0, hz1, hz2⟩ := info_parts Try.info5
  have HBG := Lib.hid (ms_begun_any HET HKN)
  have HT := Lib.hid HET
  have HA := Lib.hid (HEA m1 hok1)
  have HB := Lib.hid (HEB m2 hok2)
  have HC := Lib.hid (HEC m3 hok3)
  have RA := Lib.hid (refEnc1 m1 hok1)
  have RB := Lib.hid (refEnc2 m2 hok2)
  have RC := Lib.hid (refEnc3 m3 hok3)
  have hl1 := MsgM.cells_length hok1
  have hl2 := MsgM.cells_length hok2
  have hl3 := MsgM.cells_length hok3
  have HU1 := Lib.hid (show (Try.prog.info? 30).map (·.size) = some m1.cells.length from by rw [hl1]; kernel_rfl)
  have HU2 := Lib.hid (show (Try.prog.info? 32).map (·.size) = some m2.cells.length from by rw [hl2]; kernel_rfl)
  have HU3 := Lib.hid (show (Try.prog.info? 36).map (·.size) = some m3.cells.length from by rw [hl3]; kernel_rfl)
  obtain ⟨cm1, hc1⟩ : ∃ z, m1.cells.toArray = z := ⟨_, rfl⟩
  obtain ⟨cm2, hc2⟩ : ∃ z, m2.cells.toArray = z := ⟨_, rfl⟩
  obtain ⟨cm3, hc3⟩ : ∃ z, m3.cells.toArray = z := ⟨_, rfl⟩
  obtain ⟨cd, hcd⟩ : ∃ z, (tranC r q A nb cb).toArray = z := ⟨_, rfl⟩
  rw [hc1] at HA RA
  rw [hc2] at HB RB
  rw [hc3] at HC RC
  rw [hc1, hc2, hc3, hcd]
  have HC1 := Lib.hid hc1
  have HC2 := Lib.hid hc2
  have HC3 := Lib.hid hc3
  have HM := Lib.hid (show Mem w [blkE (w.heap.size + 1 + 1 + 1) 40 (tranC r q A nb cb), blkE (w.heap.size + 1 + 1) 36 m3.cells, blkE (w.heap.size + 1) 32 m2.cells, blkE w.heap.size 30 m1.cells] ((((w.alloc (.cells cm1 30)).alloc (.cells cm2 32)).alloc (.cells cm3 36)).alloc (.cells cd 40)) from (((((Mem.nil w).alloc rfl 30 cm1 _ hc1.symm).alloc (by simp) 32 cm2 _ hc2.symm).alloc (by simp) 36 cm3 _ hc3.symm).alloc (by simp) 40 cd _ hcd.symm))
  obtain ⟨kd, hk⟩ : ∃ k, min nb 60 = k := ⟨_, rfl⟩
  have HCU := Lib.hid (caseCut_any A nb cb 60 kd (by omega) hnc hcm hk)
  have hkd : kd ≤ 60 ∧ kd ≤ cb := by omega
  have HR := Lib.hid (hrb.take (show kd ≤ nb by omega))
  obtain ⟨x, hx⟩ : ∃ x, n % 40 = x := ⟨_, rfl⟩
  have hxI : (n : Int) % 40 = (x : Int) := by omega
  have hxt : ((n : Int)).tmod 40 = (x : Int) := by rw [Int.tmod_eq_emod_of_nonneg (by omega)]; omega
  have hx40 : x < 40 := by omega
  obtain ⟨L, hL⟩ : ∃ L, 2060 + x = L := ⟨_, rfl⟩
  have HNUM := Lib.hid (And.intro hxI (And.intro hxt (And.intro hx40 (And.intro hL (And.intro hkd (And.intro hcm (And.intro hn (And.intro hr32 hq64))))))))
  clear HEA HEB HEC HET HKN hok1 hok2 hok3 hl1 hl2 hl3 hc1 hc2 hc3 hcd hk hnc hcm hrb hx hxI hxt hx40 hL hkd hn hr32 hq64
  go_enter Try.func3, Try.ntmps3
  go_upto_region 1 with fail
  generalize ((((w.alloc (.cells cm1 30)).alloc (.cells cm2 32)).alloc (.cells cm3 36)).alloc (.cells cd 40)) = w1 at HM ⊢
  have f2 : w1.cell? ⟨(w.heap.size + 1 + 1 + 1), 2, none⟩ = some (.slice A nb cb) := (HM.out.blk 0 rfl).cell 2
  go_wp2_with fail
  refine (HCU.out _).mono ?_
  rintro e w2 ⟨rfl, hb⟩
  replace HM := Lib.hid (HM.out.below hb)
  clear hb f2
  have f2 : w2.cell? ⟨(w.heap.size + 1 + 1 + 1), 2, none⟩ = some (.slice A nb cb) := (HM.out.blk 0 rfl).cell 2
  have z2 := (HM.out.blk 0 rfl).frozen 2
  have hM := HM.out.setCell 0 rfl 2 (.slice A kd cb)
  go_upto_region 2 with fail
  clear f2 z2
  generalize w2.setCell ⟨(w.heap.size + 1 + 1 + 1), 2, none⟩ (.slice A kd cb) = w3 at hM ⊢
  have hM2 : Mem w [blkE (w.heap.size + 1 + 1 + 1) 40 (tranC r q A kd cb), blkE (w.heap.size + 1 + 1) 36 m3.cells, blkE (w.heap.size + 1) 32 m2.cells, blkE w.heap.size 30 m1.cells] w3 := hM
  have HLW := Lib.hid (show Lows w [blkL (w.heap.size + 1 + 1 + 1) 40 (tranC r q A kd cb), blkL (w.heap.size + 1 + 1) 36 m3.cells, blkL (w.heap.size + 1) 32 m2.cells, blkL w.heap.size 30 m1.cells, rdL A kd (lb.take kd)] w3 from (((((((Lows.nil w).cons (rdL A kd (lb.take kd)) HR.out).below hM2.bel).cons (blkL _ _ _) (hM2.blk 3 rfl)).cons (blkL _ _ _) (hM2.blk 2 rfl)).cons (blkL _ _ _) (hM2.blk 1 rfl)).cons (blkL _ _ _) (hM2.blk 0 rfl)))
  clear hM hM2 HM HR HCU
  have HM := HLW
  clear HLW
  obtain ⟨hxI, hxt, hx40, hL, hkd, hcm, hn, hr32, hq64⟩ := HNUM.out
  have hnw : IntKind.i64.wrap (n : Int) = (n : Int) := IntWalk.i64_in _ (by omega)
  have hxw : IntKind.i64.wrap (x : Int) = (x : Int) := IntWalk.i64_in _ (by omega)
  have hLI : (2060 : Int) + (x : Int) = (L : Int) := by omega
  have hLw : IntKind.i64.wrap (L : Int) = (L : Int) := IntWalk.i64_in _ (by omega)
  have HL := HM
  clear HM
  have HM := Lib.hid (Mem.nil w3)
  go_cut [11] (fun p' wx => ∃ P11 Z, p' = .pointer (some ⟨P11, 0, none⟩) ∧ Lows w [blkL P11 40 (tranC r q (some ⟨Z, 0, none⟩) L L), rdL (some ⟨Z, 0, none⟩) L (List.replicate L 0), blkL (w.heap.size + 1 + 1 + 1) 40 (tranC r q A kd cb), blkL (w.heap.size + 1 + 1) 36 m3.cells, blkL (w.heap.size + 1) 32 m2.cells, blkL w.heap.size 30 m1.cells, rdL A kd (lb.take kd)] wx)
  case first =>
    refine wp_region_held_drew (S := fun W' => Mem w3 [] W') (by kernel_rfl) ((HM.out).drew) (fun hHeld => ?_)
    replace HM := Lib.hid HM.out.drew
    generalize w3.drew = wd1 at HM hHeld ⊢
    refine take_first (v := ?_) 0 rfl (by kernel_rfl) (by kernel_rfl) (by kernel_rfl) (fun _ _ _ h => h) (Or.inl ⟨by rfl, ?_⟩) (by assumption) ?_
    rotate_left
    · (intro w hSw; (try dsimp only at hSw); go_simp; try with_reducible rfl)
    (try simp only [Act.put, List.setIfInBounds_toArray, List.set_cons_zero, List.set_cons_succ])
    refine take_first (v := ?_) 1 rfl (by kernel_rfl) (by kernel_rfl) (by kernel_rfl) (fun _ _ _ h => h) (Or.inl ⟨by rfl, ?_⟩) (by assumption) ?_
    rotate_left
    · (intro w hSw; (try dsimp only at hSw); have fl := ((HL.out.below (Mem.bel hSw)).blk 0 rfl).cell 0; rw [show (tranC r q A kd cb)[0]? = some (.int .u32 (r : Int)) from rfl] at fl; go_simp; try with_reducible rfl)
    (try simp only [Act.put, List.setIfInBounds_toArray, List.set_cons_zero, List.set_cons_succ])
    refine take_first (v := ?_) 2 rfl (by kernel_rfl) (by kernel_rfl) (by kernel_rfl) (fun _ _ _ h => h) (Or.inl ⟨by rfl, ?_⟩) (by assumption) ?_
    rotate_left
    · (intro w hSw; (try dsimp only at hSw); go_simp; try with_reducible rfl)
    (try simp only [Act.put, List.setIfInBounds_toArray, List.set_cons_zero, List.set_cons_succ])
    refine take_first (v := ?_) 3 rfl (by kernel_rfl) (by kernel_rfl) (by kernel_rfl) (fun _ _ _ h => h) (Or.inl ⟨by rfl, ?_⟩) (by assumption) ?_
    rotate_left
    · (intro w hSw; (try dsimp only at hSw); have fl := ((HL.out.below (Mem.bel hSw)).blk 0 rfl).cell 1; rw [show (tranC r q A kd cb)[1]? = some (.int .u64 (q : Int)) from rfl] at fl; go_simp; try with_reducible rfl)
    (try simp only [Act.put, List.setIfInBounds_toArray, List.set_cons_zero, List.set_cons_succ])
    refine take_first (v := ?_) 4 rfl (by kernel_rfl) (by kernel_rfl) (by kernel_rfl) (fun _ _ _ h => h) (Or.inl ⟨by rfl, ?_⟩) (by assumption) ?_
    rotate_left
    · (intro w hSw; (try dsimp only at hSw); go_simp; try with_reducible rfl)
    (try simp only [Act.put, List.setIfInBounds_toArray, List.set_cons_zero, List.set_cons_succ])
    refine take_first (v := ?_) 5 rfl (by kernel_rfl) (by kernel_rfl) (by kernel_rfl) (fun _ _ _ h => h) (Or.inl ⟨by rfl, ?_⟩) (by assumption) ?_
    rotate_left
    · (intro w hSw; (try dsimp only at hSw); go_simp; try with_reducible rfl)
    (try simp only [Act.put, List.setIfInBounds_toArray, List.set_cons_zero, List.set_cons_succ])
    refine take_first (v := ?_) 6 rfl (by kernel_rfl) (by kernel_rfl) (by kernel_rfl) (fun _ _ _ h => h) (Or.inl ⟨by rfl, ?_⟩) (by assumption) ?_
    rotate_left
    · (intro w hSw; (try dsimp only at hSw); go_simp; try with_reducible rfl)
    (try simp only [Act.put, List.setIfInBounds_toArray, List.set_cons_zero, List.set_cons_succ])
    refine take_first (v := ?_) 7 rfl (by kernel_rfl) (by kernel_rfl) (by kernel_rfl) (fun _ _ _ h => h) (Or.inl ⟨by rfl, ?_⟩) (by assumption) ?_
    rotate_left
    · (intro w hSw; (try dsimp only at hSw); go_simp; try with_reducible rfl)
    (try simp only [Act.put, List.setIfInBounds_toArray, List.set_cons_zero, List.set_cons_succ])
    refine step_two 8 10 rfl rfl (by kernel_rfl) (fun K hK => ?_) (fun K hK => ?_)
    · clear hHeld
      refine step_make_full_g _ (by rfl) (.tmp 29) (.tmp 29) 38 rfl wd1.heap.size 5 i0 (.int .u8 0) 1 Try.underlying38 hi hz0 hz1 .i64 .i64 L rfl rfl (by rw [hz2]; omega) (by unfold maxLen; omega) (Nat.le_refl _) ?_
      intro wy2 hown hg
      rw [made_in] at hown
      have hm9 := HM.out.callRd ((Below.refl _ _).grown hg (Nat.le_refl _) (by simp)) hown
      generalize wy2.heap.size = zh at hm9
      generalize wd1.heap.size = Z at hm9 ⊢
      replace HM := Lib.hid (show Mem w3 [rdE Z zh (some ⟨Z, 0, none⟩) L (List.replicate L 0)] wy2 from hm9)
      clear hm9 hown hg
      refine hK.out _ _ ((HM.out.erase 0)) (fun hHeld => ?_)
      clear hK K
      (try simp only [Act.put, List.setIfInBounds_toArray, List.set_cons_zero, List.set_cons_succ])
      refine wpAnyH_stronger (T := fun W' => Mem w3 [rdE Z zh (some ⟨Z, 0, none⟩) L (List.replicate L 0)] W') (fun _ h' => h'.erase 0) _ _ _ _ ?_
      replace hHeld := HM.out
      refine take_first (v := .agg (tranC r q (some ⟨Z, 0, none⟩) L L).toArray) 9 rfl (by kernel_rfl) (by kernel_rfl) (by kernel_rfl) (fun _ _ _ h => h) (yields_build_obj (by rfl) 40 [(0, .tmp 23), (1, .tmp 25), (2, .tmp 30)] rfl (tranC r q (some ⟨Z, 0, none⟩) L L).toArray (tran_built r q (some ⟨Z, 0, none⟩) L L)) (by assumption) ?_
      (try simp only [Act.put, List.setIfInBounds_toArray, List.set_cons_zero, List.set_cons_succ])
      refine step_one 10 rfl (by kernel_rfl) (fun K hK => ?_)
      clear hHeld
      go_simp
      replace HM := Lib.hid (show Mem w3 [blkE wy2.heap.size 40 ([Value.int .u32 0, .int .u64 0, .slice none 0 0]), rdE Z zh (some ⟨Z, 0, none⟩) L (List.replicate L 0)] (wy2.alloc (.cells #[.int .u32 0, .int .u64 0, .slice none 0 0] 40)) from HM.out.alloc rfl 40 #[.int .u32 0, .int .u64 0, .slice none 0 0] ([Value.int .u32 0, .int .u64 0, .slice none 0 0]) rfl)
      generalize wy2.alloc (.cells #[.int .u32 0, .int .u64 0, .slice none 0 0] 40) = wy3 at HM ⊢
      generalize wy2.heap.size = P11 at HM ⊢
      refine hK.out _ _ ((HM.out.erase 0)) (fun hHeld => ?_)
      clear hK K
      (try simp only [Act.put, List.setIfInBounds_toArray, List.set_cons_zero, List.set_cons_succ])
      refine step_one 11 rfl (by kernel_rfl) (fun K hK => ?_)
      clear hHeld
      refine step_store_blk _ rfl 40 (.tmp 11) (.tmp 31) rfl P11 (tranC r q (some ⟨Z, 0, none⟩) L L) rfl (by rfl) 40 [Value.int .u32 0, .int .u64 0, .slice none 0 0] (HM.out.blk 0 rfl) (by kernel_rfl) (by rfl) tran_one ?_
      intro wy4 hb hg
      replace HM := Lib.hid (show Mem w3 [blkE P11 40 (tranC r q (some ⟨Z, 0, none⟩) L L), rdE Z zh (some ⟨Z, 0, none⟩) L (List.replicate L 0)] wy4 from HM.out.put 0 rfl _ hg hb)
      clear hb hg
      refine hK.out _ _ ((HM.out.erase 0)) (fun hHeld => ?_)
      clear hK K
      (try simp only [Act.put])
      refine wpAnyH_done (by kernel_rfl) ?_ _
      go_wp2_with fail
      go_meet
      exact ⟨P11, Z, rfl, (((HL.out.below HM.out.bel).cons (rdL (some ⟨Z, 0, none⟩) L (List.replicate L 0)) (HM.out.rd 1 rfl)).cons (blkL P11 40 (tranC r q (some ⟨Z, 0, none⟩) L L)) (HM.out.blk 0 rfl))⟩
    · clear hHeld
      go_simp
      replace HM := Lib.hid (show Mem w3 [blkE wd1.heap.size 40 ([Value.int .u32 0, .int .u64 0, .slice none 0 0])] (wd1.alloc (.cells #[.int .u32 0, .int .u64 0, .slice none 0 0] 40)) from HM.out.alloc rfl 40 #[.int .u32 0, .int .u64 0, .slice none 0 0] ([Value.int .u32 0, .int .u64 0, .slice none 0 0]) rfl)
      generalize wd1.alloc (.cells #[.int .u32 0, .int .u64 0, .slice none 0 0] 40) = wy2 at HM ⊢
      generalize wd1.heap.size = P11 at HM ⊢
      refine hK.out _ _ ((HM.out.erase 0)) (fun hHeld => ?_)
      clear hK K
      (try simp only [Act.put, List.setIfInBounds_toArray, List.set_cons_zero, List.set_cons_succ])
      refine step_one 8 rfl (by kernel_rfl) (fun K hK => ?_)
      clear hHeld
      refine step_make_full_g _ (by rfl) (.tmp 29) (.tmp 29) 38 rfl wy2.heap.size 5 i0 (.int .u8 0) 1 Try.underlying38 hi hz0 hz1 .i64 .i64 L rfl rfl (by rw [hz2]; omega) (by unfold maxLen; omega) (Nat.le_refl _) ?_
      intro wy3 hown hg
      rw [made_in] at hown
      have hm9 := HM.out.callRd ((Below.refl _ _).grown hg (Nat.le_refl _) (by simp)) hown
      generalize wy3.heap.size = zh at hm9
      generalize wy2.heap.size = Z at hm9 ⊢
      replace HM := Lib.hid (show Mem w3 [rdE Z zh (some ⟨Z, 0, none⟩) L (List.replicate L 0), blkE P11 40 ([Value.int .u32 0, .int .u64 0, .slice none 0 0])] wy3 from hm9)
      clear hm9 hown hg
      refine hK.out _ _ (((HM.out.erase 0).erase 0)) (fun hHeld => ?_)
      clear hK K
      (try simp only [Act.put, List.setIfInBounds_toArray, List.set_cons_zero, List.set_cons_succ])
      refine wpAnyH_stronger (T := fun W' => Mem w3 [rdE Z zh (some ⟨Z, 0, none⟩) L (List.replicate L 0)] W') (fun _ h' => h'.erase 0) _ _ _ _ ?_
      replace hHeld := (HM.out.erase 1)
      refine take_first (v := .agg (tranC r q (some ⟨Z, 0, none⟩) L L).toArray) 9 rfl (by kernel_rfl) (by kernel_rfl) (by kernel_rfl) (fun _ _ _ h => h) (yields_build_obj (by rfl) 40 [(0, .tmp 23), (1, .tmp 25), (2, .tmp 30)] rfl (tranC r q (some ⟨Z, 0, none⟩) L L).toArray (tran_built r q (some ⟨Z, 0, none⟩) L L)) (by assumption) ?_
      (try simp only [Act.put, List.setIfInBounds_toArray, List.set_cons_zero, List.set_cons_succ])
      refine step_one 11 rfl (by kernel_rfl) (fun K hK => ?_)
      clear hHeld
      refine step_store_blk _ rfl 40 (.tmp 11) (.tmp 31) rfl P11 (tranC r q (some ⟨Z, 0, none⟩) L L) rfl (by rfl) 40 [Value.int .u32 0, .int .u64 0, .slice none 0 0] (HM.out.blk 1 rfl) (by kernel_rfl) (by rfl) tran_one ?_
      intro wy4 hb hg
      replace HM := Lib.hid (show Mem w3 [rdE Z zh (some ⟨Z, 0, none⟩) L (List.replicate L 0), blkE P11 40 (tranC r q (some ⟨Z, 0, none⟩) L L)] wy4 from HM.out.put 1 rfl _ hg hb)
      clear hb hg
      refine hK.out _ _ ((HM.out.erase 1)) (fun hHeld => ?_)
      clear hK K
      (try simp only [Act.put])
      refine wpAnyH_done (by kernel_rfl) ?_ _
      go_wp2_with fail
      go_meet
      exact ⟨P11, Z, rfl, (((HL.out.below HM.out.bel).cons (rdL (some ⟨Z, 0, none⟩) L (List.replicate L 0)) (HM.out.rd 0 rfl)).cons (blkL P11 40 (tranC r q (some ⟨Z, 0, none⟩) L L)) (HM.out.blk 1 rfl))⟩
  case rest =>
    clear HM HL
    revert wc
    intro w4 hcut
    obtain ⟨P11, Z, rfl, hM⟩ := hcut
    have HM := Lib.hid hM
    clear hM hxI hxt hx40 hnw hxw hLI hLw
    obtain ⟨ixt, hixt, hsxt, zxt, hzxt⟩ := tranInfo
    have HTI := Lib.hid (And.intro hixt (And.intro hsxt hzxt))
    have hrl : ∀ r' ∈ ([(tranC r q A kd cb), (tranC r q (some ⟨Z, 0, none⟩) L L)] : List (List Value)), r'.length = 3 := by
      intro r' hr'
      simp only [List.mem_cons, List.not_mem_nil, or_false] at hr'
      rcases hr' with rfl | rfl <;> rfl
    have HRL := Lib.hid hrl
    clear hixt hsxt hzxt hrl
    go_wp2_with (first | (refine wpList_load_obj rfl 40 (.tmp 8) rfl (w.heap.size + 1 + 1 + 1) 0 rfl (tranC r q A kd cb) (HM.out.blk 2 rfl).all _ Try.underlying40 rfl (by kernel_rfl) ?_) | (refine wpList_load_obj rfl 40 (.tmp 11) rfl P11 0 rfl (tranC r q (some ⟨Z, 0, none⟩) L L) (HM.out.blk 0 rfl).all _ Try.underlying40 rfl (by kernel_rfl) ?_) | (refine wpList_buildRows rfl 43 40 2 [(0, .tmp 32), (1, .tmp 33)] rfl [(tranC r q A kd cb), (tranC r q (some ⟨Z, 0, none⟩) L L)] rfl (rows2_eq rfl rfl).symm 3 Try.underlying43 ixt HTI.out.1 HTI.out.2.1 zxt HTI.out.2.2 (by omega) (by omega) (by omega) HRL.out ?_; generalize hfl2 : List.flatten [(tranC r q A kd cb), (tranC r q (some ⟨Z, 0, none⟩) L L)] = fl2))
    have hm9 := HM.out.alloc 40 fl2.toArray fl2 rfl
    generalize w4.alloc (.cells fl2.toArray 40) = wq at hm9 ⊢
    generalize w4.heap.size = P34 at hm9 ⊢
    replace HM := Lib.hid (show Lows w [blkL P34 40 fl2, blkL P11 40 (tranC r q (some ⟨Z, 0, none⟩) L L), rdL (some ⟨Z, 0, none⟩) L (List.replicate L 0), blkL (w.heap.size + 1 + 1 + 1) 40 (tranC r q A kd cb), blkL (w.heap.size + 1 + 1) 36 m3.cells, blkL (w.heap.size + 1) 32 m2.cells, blkL w.heap.size 30 m1.cells, rdL A kd (lb.take kd)] wq from hm9)
    have HI := Lib.hid (show ∀ k, k < 2 → ∃ B nB cB l, nB ≤ cB ∧ cB ≤ maxLen ∧ nB ≤ 100000 ∧ (fl2.drop (k * 3)).take 3 = tranC r q B nB cB ∧ ∀ W, Lows w [blkL P34 40 fl2, blkL P11 40 (tranC r q (some ⟨Z, 0, none⟩) L L), rdL (some ⟨Z, 0, none⟩) L (List.replicate L 0), blkL (w.heap.size + 1 + 1 + 1) 40 (tranC r q A kd cb), blkL (w.heap.size + 1 + 1) 36 m3.cells, blkL (w.heap.size + 1) 32 m2.cells, blkL w.heap.size 30 m1.cells, rdL A kd (lb.take kd)] W → Rd W W.heap.size B nB l from by
      intro k hk
      have hf := flat_rows 3 [(tranC r q A kd cb), (tranC r q (some ⟨Z, 0, none⟩) L L)] k hk HRL.out
      rw [hfl2] at hf
      have hxx := HNUM.out
      match k, hk with
      | 0, _ => exact ⟨A, kd, cb, lb.take kd, hkd.2, hcm, by omega, hf, fun W hW => hW.rd 7 rfl⟩
      | 1, _ => exact ⟨(some ⟨Z, 0, none⟩), L, L, List.replicate L 0, Nat.le_refl _, by unfold maxLen; omega, by omega, hf, fun W hW => hW.rd 2 rfl⟩
      | k + 2, hk => exact absurd hk (by omega))
    clear hm9 hfl2 HRL HTI hkd hcm hn
    go_loopw [36] (fun iv wr => ∃ k : Nat, k ≤ 2 ∧ iv = .int .i64 (k : Int) ∧ Lows w [blkL P34 40 fl2, blkL P11 40 (tranC r q (some ⟨Z, 0, none⟩) L L), rdL (some ⟨Z, 0, none⟩) L (List.replicate L 0), blkL (w.heap.size + 1 + 1 + 1) 40 (tranC r q A kd cb), blkL (w.heap.size + 1 + 1) 36 m3.cells, blkL (w.heap.size + 1) 32 m2.cells, blkL w.heap.size 30 m1.cells, rdL A kd (lb.take kd)] wr) (fun iv _ => 2 - (intOf iv).toNat)
    case atStart => exact ⟨0, by omega, rfl, HM.out⟩
    case round =>
      clear HM
      obtain ⟨k, hk, rfl, hM⟩ := hrel
      have HM := Lib.hid hM
      clear hM
      by_cases hk2 : k < 2
      · obtain ⟨B, nB, cB, l, h1, h2, h3, hrow, hrd⟩ := HI.out k hk2
        have dk : decide ((k : Int) < 2) = true := by simp; omega
        have HRW := Lib.hid (show At wr P34 (k * 3) (tranC r q B nB cB) from by have h := (HM.out.blk 0 rfl).sub (k * 3) 3; rw [hrow] at h; exact h)
        replace HM := Lib.hid (show Lows w [rdL B nB l, blkL P34 40 fl2, blkL P11 40 (tranC r q (some ⟨Z, 0, none⟩) L L), rdL (some ⟨Z, 0, none⟩) L (List.replicate L 0), blkL (w.heap.size + 1 + 1 + 1) 40 (tranC r q A kd cb), blkL (w.heap.size + 1 + 1) 36 m3.cells, blkL (w.heap.size + 1) 32 m2.cells, blkL w.heap.size 30 m1.cells, rdL A kd (lb.take kd)] wr from HM.out.cons (rdL B nB l) (hrd wr HM.out))
        have HTP := Lib.hid (HT.out r q B nB cB l hr32 hq64 h1 h2 h3)
        have HTR := Lib.hid (refEncT r q B nB cB l hr32 hq64 h1 h2 h3)
        have HKK := Lib.hid hk
        have hHA : Blk (wr.alloc (.cells #[.int .u32 0, .int .u64 0, .slice none 0 0] 40)) wr.heap.size 40 [Value.int .u32 0, .int .u64 0, .slice none 0 0] := Blk.new wr 40 [Value.int .u32 0, .int .u64 0, .slice none 0 0]
        clear hrow hrd h1 h2 h3 hk
        go_upto_region 6 with (first | (refine wpList_load_obj rfl 40 (.tmp 38) rfl P34 (k * 3) rfl (tranC r q B nB cB) HRW.out _ Try.underlying40 rfl (by kernel_rfl) ?_) | (refine wpList_store_blk rfl 40 (.tmp 13) (.tmp 39) rfl wr.heap.size (tranC r q B nB cB) rfl (by rfl) 40 [Value.int .u32 0, .int .u64 0, .slice none 0 0] hHA (by kernel_rfl) (by rfl) tran_one ?_; intro w5 hb4 hg4))
        (try simp only [Act.put])
        have hm9 := HM.out.stored (arr := #[.int .u32 0, .int .u64 0, .slice none 0 0]) hg4 hb4
        generalize wr.heap.size = P13 at hm9 ⊢
        replace HM := Lib.hid (show Lows w [blkL P13 40 (tranC r q B nB cB), rdL B nB l, blkL P34 40 fl2, blkL P11 40 (tranC r q (some ⟨Z, 0, none⟩) L L), rdL (some ⟨Z, 0, none⟩) L (List.replicate L 0), blkL (w.heap.size + 1 + 1 + 1) 40 (tranC r q A kd cb), blkL (w.heap.size + 1 + 1) 36 m3.cells, blkL (w.heap.size + 1) 32 m2.cells, blkL w.heap.size 30 m1.cells, rdL A kd (lb.take kd)] w5 from hm9)
        clear hm9 hb4 hg4 HRW dk hHA
        go_wp2_with (refine wpList_load_obj rfl 40 (.tmp 13) rfl P13 0 rfl (tranC r q B nB cB) (HM.out.blk 0 rfl).all _ Try.underlying40 rfl (by kernel_rfl) ?_)
        refine (HTP.out _ (HM.out.rd 1 rfl)).mono ?_
        rintro e w6 ⟨A9, c9, rfl, -, -, hr, hb⟩
        replace HM := Lib.hid (show Lows w [rdL A9 (encT ⟨r, q, l⟩).1.length (encT ⟨r, q, l⟩).1, blkL P13 40 (tranC r q B nB cB), rdL B nB l, blkL P34 40 fl2, blkL P11 40 (tranC r q (some ⟨Z, 0, none⟩) L L), rdL (some ⟨Z, 0, none⟩) L (List.replicate L 0), blkL (w.heap.size + 1 + 1 + 1) 40 (tranC r q A kd cb), blkL (w.heap.size + 1 + 1) 36 m3.cells, blkL (w.heap.size + 1) 32 m2.cells, blkL w.heap.size 30 m1.cells, rdL A kd (lb.take kd)] w6 from (HM.out.below hb).cons (rdL A9 (encT ⟨r, q, l⟩).1.length (encT ⟨r, q, l⟩).1) hr)
        clear hr hb
        go_wp2_with (refine wpList_load_obj rfl 40 (.tmp 13) rfl P13 0 rfl (tranC r q B nB cB) (HM.out.blk 1 rfl).all _ Try.underlying40 rfl (by kernel_rfl) ?_)
        refine (HTR.out _ (HM.out.rd 2 rfl)).mono ?_
        rintro e w7 ⟨A8, c8, rfl, -, -, hr, hb⟩
        replace HM := Lib.hid (show Lows w [rdL A8 (encT ⟨r, q, l⟩).1.length (encT ⟨r, q, l⟩).1, rdL A9 (encT ⟨r, q, l⟩).1.length (encT ⟨r, q, l⟩).1, blkL P13 40 (tranC r q B nB cB), rdL B nB l, blkL P34 40 fl2, blkL P11 40 (tranC r q (some ⟨Z, 0, none⟩) L L), rdL (some ⟨Z, 0, none⟩) L (List.replicate L 0), blkL (w.heap.size + 1 + 1 + 1) 40 (tranC r q A kd cb), blkL (w.heap.size + 1 + 1) 36 m3.cells, blkL (w.heap.size + 1) 32 m2.cells, blkL w.heap.size 30 m1.cells, rdL A kd (lb.take kd)] w7 from (HM.out.below hb).cons (rdL A8 (encT ⟨r, q, l⟩).1.length (encT ⟨r, q, l⟩).1) hr)
        clear hr hb HTP HTR
        have cv1 := show (convert 38 9 (.slice A9 (encT ⟨r, q, l⟩).1.length c9)).run Try.prog w7 = .ok (.string ⟨((encT ⟨r, q, l⟩).1).toArray⟩) w7 from run_string_of_rd (P := Try.prog) 38 9 5 c9 Try.underlying38 Try.underlying5 Try.underlying9 (HM.out.rd 1 rfl)
        have cv2 := show (convert 38 9 (.slice A8 (encT ⟨r, q, l⟩).1.length c8)).run Try.prog w7 = .ok (.string ⟨((encT ⟨r, q, l⟩).1).toArray⟩) w7 from run_string_of_rd (P := Try.prog) 38 9 5 c8 Try.underlying38 Try.underlying5 Try.underlying9 (HM.out.rd 0 rfl)
        have HB5 := Lib.hid (show Lows w [blkL P34 40 fl2, blkL P11 40 (tranC r q (some ⟨Z, 0, none⟩) L L), rdL (some ⟨Z, 0, none⟩) L (List.replicate L 0), blkL (w.heap.size + 1 + 1 + 1) 40 (tranC r q A kd cb), blkL (w.heap.size + 1 + 1) 36 m3.cells, blkL (w.heap.size + 1) 32 m2.cells, blkL w.heap.size 30 m1.cells, rdL A kd (lb.take kd)] w7 from (((HM.out.tail 0).tail 0).tail 0).tail 0)
        clear HM
        generalize (encT ⟨r, q, l⟩).1 = eo at cv1 cv2
        generalize (encT ⟨r, q, l⟩).2 = ec
        have hkk := HKK.out
        go_wp2
        go_roundw
        case rel => exact ⟨k + 1, by omega, by go_num, HB5.out⟩
        case measure => simp [intOf]; omega
      · obtain rfl : k = 2 := by omega
        have dk : decide ((2 : Int) < 2) = false := by simp
        go_upto_region 11 with fail
        clear hk hk2 dk
        refine wp_region_held_drew (S := fun W' => Lows w [blkL P34 40 fl2, blkL P11 40 (tranC r q (some ⟨Z, 0, none⟩) L L), rdL (some ⟨Z, 0, none⟩) L (List.replicate L 0), blkL (w.heap.size + 1 + 1 + 1) 40 (tranC r q A kd cb), blkL (w.heap.size + 1 + 1) 36 m3.cells, blkL (w.heap.size + 1) 32 m2.cells, blkL w.heap.size 30 m1.cells, rdL A kd (lb.take kd)] W') (by kernel_rfl) (HM.out.drew) (fun hHeld => ?_)
        replace HM := Lib.hid HM.out.drew
        generalize wr.drew = wd1 at HM hHeld ⊢
        refine take_first (v := .agg cm1) 0 rfl (by kernel_rfl) (by kernel_rfl) (by kernel_rfl) (fun _ _ _ h => h) (by rw [← HC1.out]; exact yields_load_obj (by rfl) 30 (.tmp 5) rfl w.heap.size 0 rfl m1.cells (fun w' hb => (Lows.blk hb 6 rfl).all) _ Try.underlying30 rfl HU1.out) (by assumption) ?_
        (try simp only [Act.put, List.setIfInBounds_toArray, List.set_cons_zero, List.set_cons_succ])
        refine take_first (v := .agg cm1) 3 rfl (by kernel_rfl) (by kernel_rfl) (by kernel_rfl) (fun _ _ _ h => h) (by rw [← HC1.out]; exact yields_load_obj (by rfl) 30 (.tmp 5) rfl w.heap.size 0 rfl m1.cells (fun w' hb => (Lows.blk hb 6 rfl).all) _ Try.underlying30 rfl HU1.out) (by assumption) ?_
        (try simp only [Act.put, List.setIfInBounds_toArray, List.set_cons_zero, List.set_cons_succ])
        refine step_one 1 rfl (by kernel_rfl) (fun K hK => ?_)
        clear hHeld
        go_simp
        refine (HA.out _).mono ?_
        rintro e wy2 ⟨E1p, f1p, rfl, -, -, hr, hb⟩
        replace HM := Lib.hid (show Lows w [rdL E1p (msLen 1) (encB 1 m1), blkL P34 40 fl2, blkL P11 40 (tranC r q (some ⟨Z, 0, none⟩) L L), rdL (some ⟨Z, 0, none⟩) L (List.replicate L 0), blkL (w.heap.size + 1 + 1 + 1) 40 (tranC r q A kd cb), blkL (w.heap.size + 1 + 1) 36 m3.cells, blkL (w.heap.size + 1) 32 m2.cells, blkL w.heap.size 30 m1.cells, rdL A kd (lb.take kd)] wy2 from (HM.out.below hb).cons (rdL E1p (msLen 1) (encB 1 m1)) (hr))
        clear hb
        clear hr
        go_wp2_with fail
        refine hK.out _ _ (HM.out.tail 0) (fun hHeld => ?_)
        clear hK K
        (try simp only [Act.put, List.setIfInBounds_toArray, List.set_cons_zero, List.set_cons_succ])
        refine wpAnyH_stronger (T := fun W' => Lows w [rdL E1p (msLen 1) (encB 1 m1), blkL P34 40 fl2, blkL P11 40 (tranC r q (some ⟨Z, 0, none⟩) L L), rdL (some ⟨Z, 0, none⟩) L (List.replicate L 0), blkL (w.heap.size + 1 + 1 + 1) 40 (tranC r q A kd cb), blkL (w.heap.size + 1 + 1) 36 m3.cells, blkL (w.heap.size + 1) 32 m2.cells, blkL w.heap.size 30 m1.cells, rdL A kd (lb.take kd)] W') (fun _ h' => (h'.tail 0)) _ _ _ _ ?_
        replace hHeld := HM.out
        refine take_first (v := ?_) 2 rfl (by kernel_rfl) (by kernel_rfl) (by kernel_rfl) (fun _ _ _ h => h) (Or.inl ⟨by rfl, ?_⟩) (by assumption) ?_
        rotate_left
        · (intro w hSw; (try dsimp only at hSw); have cv := show (convert 38 9 (.slice E1p (msLen 1) f1p)).run Try.prog w = .ok (.string ⟨(encB 1 m1).toArray⟩) w from run_string_of_rd (P := Try.prog) 38 9 5 f1p Try.underlying38 Try.underlying5 Try.underlying9 (Lows.rd hSw 0 rfl); go_simp; try with_reducible rfl)
        (try simp only [Act.put, List.setIfInBounds_toArray, List.set_cons_zero, List.set_cons_succ])
        refine step_one 4 rfl (by kernel_rfl) (fun K hK => ?_)
        clear hHeld
        go_simp
        refine (RA.out _).mono ?_
        rintro e wy3 ⟨E1r, f1r, rfl, -, -, hr, hb⟩
        replace HM := Lib.hid (show Lows w [rdL E1r (msLen 1) (encB 1 m1), rdL E1p (msLen 1) (encB 1 m1), blkL P34 40 fl2, blkL P11 40 (tranC r q (some ⟨Z, 0, none⟩) L L), rdL (some ⟨Z, 0, none⟩) L (List.replicate L 0), blkL (w.heap.size + 1 + 1 + 1) 40 (tranC r q A kd cb), blkL (w.heap.size + 1 + 1) 36 m3.cells, blkL (w.heap.size + 1) 32 m2.cells, blkL w.heap.size 30 m1.cells, rdL A kd (lb.take kd)] wy3 from (HM.out.below hb).cons (rdL E1r (msLen 1) (encB 1 m1)) (hr))
        clear hb
        clear hr
        go_wp2_with fail
        refine hK.out _ _ (HM.out.tail 0) (fun hHeld => ?_)
        clear hK K
        (try simp only [Act.put, List.setIfInBounds_toArray, List.set_cons_zero, List.set_cons_succ])
        refine wpAnyH_stronger (T := fun W' => Lows w [rdL E1r (msLen 1) (encB 1 m1), rdL E1p (msLen 1) (encB 1 m1), blkL P34 40 fl2, blkL P11 40 (tranC r q (some ⟨Z, 0, none⟩) L L), rdL (some ⟨Z, 0, none⟩) L (List.replicate L 0), blkL (w.heap.size + 1 + 1 + 1) 40 (tranC r q A kd cb), blkL (w.heap.size + 1 + 1) 36 m3.cells, blkL (w.heap.size + 1) 32 m2.cells, blkL w.heap.size 30 m1.cells, rdL A kd (lb.take kd)] W') (fun _ h' => (h'.tail 0)) _ _ _ _ ?_
        replace hHeld := HM.out
        refine take_first (v := ?_) 5 rfl (by kernel_rfl) (by kernel_rfl) (by kernel_rfl) (fun _ _ _ h => h) (Or.inl ⟨by rfl, ?_⟩) (by assumption) ?_
        rotate_left
        · (intro w hSw; (try dsimp only at hSw); have cv := show (convert 38 9 (.slice E1r (msLen 1) f1r)).run Try.prog w = .ok (.string ⟨(encB 1 m1).toArray⟩) w from run_string_of_rd (P := Try.prog) 38 9 5 f1r Try.underlying38 Try.underlying5 Try.underlying9 (Lows.rd hSw 0 rfl); go_simp; try with_reducible rfl)
        (try simp only [Act.put, List.setIfInBounds_toArray, List.set_cons_zero, List.set_cons_succ])
        refine take_first (v := ?_) 6 rfl (by kernel_rfl) (by kernel_rfl) (by kernel_rfl) (fun _ _ _ h => h) (Or.inl ⟨by rfl, ?_⟩) (by assumption) ?_
        rotate_left
        · (intro w hSw; (try dsimp only at hSw); go_simp; try with_reducible rfl)
        (try simp only [Act.put, List.setIfInBounds_toArray, List.set_cons_zero, List.set_cons_succ])
        refine take_first (v := ?_) 7 rfl (by kernel_rfl) (by kernel_rfl) (by kernel_rfl) (fun _ _ _ h => h) (Or.inl ⟨by rfl, ?_⟩) (by assumption) ?_
        rotate_left
        · (intro w hSw; (try dsimp only at hSw); go_simp; try with_reducible rfl)
        (try simp only [Act.put, List.setIfInBounds_toArray, List.set_cons_zero, List.set_cons_succ])
        refine take_first (v := .agg cm2) 8 rfl (by kernel_rfl) (by kernel_rfl) (by kernel_rfl) (fun _ _ _ h => h) (by rw [← HC2.out]; exact yields_load_obj (by rfl) 32 (.tmp 6) rfl (w.heap.size + 1) 0 rfl m2.cells (fun w' hb => (Lows.blk hb 7 rfl).all) _ Try.underlying32 rfl HU2.out) (by assumption) ?_
        (try simp only [Act.put, List.setIfInBounds_toArray, List.set_cons_zero, List.set_cons_succ])
        refine take_first (v := .agg cm2) 11 rfl (by kernel_rfl) (by kernel_rfl) (by kernel_rfl) (fun _ _ _ h => h) (by rw [← HC2.out]; exact yields_load_obj (by rfl) 32 (.tmp 6) rfl (w.heap.size + 1) 0 rfl m2.cells (fun w' hb => (Lows.blk hb 7 rfl).all) _ Try.underlying32 rfl HU2.out) (by assumption) ?_
        (try simp only [Act.put, List.setIfInBounds_toArray, List.set_cons_zero, List.set_cons_succ])
        refine step_one 9 rfl (by kernel_rfl) (fun K hK => ?_)
        clear hHeld
        go_simp
        refine (HB.out _).mono ?_
        rintro e wy4 ⟨E2p, f2p, rfl, -, -, hr, hb⟩
        replace HM := Lib.hid (show Lows w [rdL E2p (msLen 2) (encB 2 m2), rdL E1r (msLen 1) (encB 1 m1), rdL E1p (msLen 1) (encB 1 m1), blkL P34 40 fl2, blkL P11 40 (tranC r q (some ⟨Z, 0, none⟩) L L), rdL (some ⟨Z, 0, none⟩) L (List.replicate L 0), blkL (w.heap.size + 1 + 1 + 1) 40 (tranC r q A kd cb), blkL (w.heap.size + 1 + 1) 36 m3.cells, blkL (w.heap.size + 1) 32 m2.cells, blkL w.heap.size 30 m1.cells, rdL A kd (lb.take kd)] wy4 from (HM.out.below hb).cons (rdL E2p (msLen 2) (encB 2 m2)) (hr))
        clear hb
        clear hr
        go_wp2_with fail
        refine hK.out _ _ (HM.out.tail 0) (fun hHeld => ?_)
        clear hK K
        (try simp only [Act.put, List.setIfInBounds_toArray, List.set_cons_zero, List.set_cons_succ])
        refine wpAnyH_stronger (T := fun W' => Lows w [rdL E2p (msLen 2) (encB 2 m2), rdL E1r (msLen 1) (encB 1 m1), rdL E1p (msLen 1) (encB 1 m1), blkL P34 40 fl2, blkL P11 40 (tranC r q (some ⟨Z, 0, none⟩) L L), rdL (some ⟨Z, 0, none⟩) L (List.replicate L 0), blkL (w.heap.size + 1 + 1 + 1) 40 (tranC r q A kd cb), blkL (w.heap.size + 1 + 1) 36 m3.cells, blkL (w.heap.size + 1) 32 m2.cells, blkL w.heap.size 30 m1.cells, rdL A kd (lb.take kd)] W') (fun _ h' => (h'.tail 0)) _ _ _ _ ?_
        replace hHeld := HM.out
        refine take_first (v := ?_) 10 rfl (by kernel_rfl) (by kernel_rfl) (by kernel_rfl) (fun _ _ _ h => h) (Or.inl ⟨by rfl, ?_⟩) (by assumption) ?_
        rotate_left
        · (intro w hSw; (try dsimp only at hSw); have cv := show (convert 38 9 (.slice E2p (msLen 2) f2p)).run Try.prog w = .ok (.string ⟨(encB 2 m2).toArray⟩) w from run_string_of_rd (P := Try.prog) 38 9 5 f2p Try.underlying38 Try.underlying5 Try.underlying9 (Lows.rd hSw 0 rfl); go_simp; try with_reducible rfl)
        (try simp only [Act.put, List.setIfInBounds_toArray, List.set_cons_zero, List.set_cons_succ])
        refine step_one 12 rfl (by kernel_rfl) (fun K hK => ?_)
        clear hHeld
        go_simp
        refine (RB.out _).mono ?_
        rintro e wy5 ⟨E2r, f2r, rfl, -, -, hr, hb⟩
        replace HM := Lib.hid (show Lows w [rdL E2r (msLen 2) (encB 2 m2), rdL E2p (msLen 2) (encB 2 m2), rdL E1r (msLen 1) (encB 1 m1), rdL E1p (msLen 1) (encB 1 m1), blkL P34 40 fl2, blkL P11 40 (tranC r q (some ⟨Z, 0, none⟩) L L), rdL (some ⟨Z, 0, none⟩) L (List.replicate L 0), blkL (w.heap.size + 1 + 1 + 1) 40 (tranC r q A kd cb), blkL (w.heap.size + 1 + 1) 36 m3.cells, blkL (w.heap.size + 1) 32 m2.cells, blkL w.heap.size 30 m1.cells, rdL A kd (lb.take kd)] wy5 from (HM.out.below hb).cons (rdL E2r (msLen 2) (encB 2 m2)) (hr))
        clear hb
        clear hr
        go_wp2_with fail
        refine hK.out _ _ (HM.out.tail 0) (fun hHeld => ?_)
        clear hK K
        (try simp only [Act.put, List.setIfInBounds_toArray, List.set_cons_zero, List.set_cons_succ])
        refine wpAnyH_stronger (T := fun W' => Lows w [rdL E2r (msLen 2) (encB 2 m2), rdL E2p (msLen 2) (encB 2 m2), rdL E1r (msLen 1) (encB 1 m1), rdL E1p (msLen 1) (encB 1 m1), blkL P34 40 fl2, blkL P11 40 (tranC r q (some ⟨Z, 0, none⟩) L L), rdL (some ⟨Z, 0, none⟩) L (List.replicate L 0), blkL (w.heap.size + 1 + 1 + 1) 40 (tranC r q A kd cb), blkL (w.heap.size + 1 + 1) 36 m3.cells, blkL (w.heap.size + 1) 32 m2.cells, blkL w.heap.size 30 m1.cells, rdL A kd (lb.take kd)] W') (fun _ h' => (h'.tail 0)) _ _ _ _ ?_
        replace hHeld := HM.out
        refine take_first (v := ?_) 13 rfl (by kernel_rfl) (by kernel_rfl) (by kernel_rfl) (fun _ _ _ h => h) (Or.inl ⟨by rfl, ?_⟩) (by assumption) ?_
        rotate_left
        · (intro w hSw; (try dsimp only at hSw); have cv := show (convert 38 9 (.slice E2r (msLen 2) f2r)).run Try.prog w = .ok (.string ⟨(encB 2 m2).toArray⟩) w from run_string_of_rd (P := Try.prog) 38 9 5 f2r Try.underlying38 Try.underlying5 Try.underlying9 (Lows.rd hSw 0 rfl); go_simp; try with_reducible rfl)
        (try simp only [Act.put, List.setIfInBounds_toArray, List.set_cons_zero, List.set_cons_succ])
        refine take_first (v := ?_) 14 rfl (by kernel_rfl) (by kernel_rfl) (by kernel_rfl) (fun _ _ _ h => h) (Or.inl ⟨by rfl, ?_⟩) (by assumption) ?_
        rotate_left
        · (intro w hSw; (try dsimp only at hSw); go_simp; try with_reducible rfl)
        (try simp only [Act.put, List.setIfInBounds_toArray, List.set_cons_zero, List.set_cons_succ])
        refine take_first (v := ?_) 15 rfl (by kernel_rfl) (by kernel_rfl) (by kernel_rfl) (fun _ _ _ h => h) (Or.inl ⟨by rfl, ?_⟩) (by assumption) ?_
        rotate_left
        · (intro w hSw; (try dsimp only at hSw); go_simp; try with_reducible rfl)
        (try simp only [Act.put, List.setIfInBounds_toArray, List.set_cons_zero, List.set_cons_succ])
        refine take_first (v := ?_) 16 rfl (by kernel_rfl) (by kernel_rfl) (by kernel_rfl) (fun _ _ _ h => h) (Or.inl ⟨by rfl, ?_⟩) (by assumption) ?_
        rotate_left
        · (intro w hSw; (try dsimp only at hSw); go_simp; try with_reducible rfl)
        (try simp only [Act.put, List.setIfInBounds_toArray, List.set_cons_zero, List.set_cons_succ])
        refine take_first (v := .agg cm3) 17 rfl (by kernel_rfl) (by kernel_rfl) (by kernel_rfl) (fun _ _ _ h => h) (by rw [← HC3.out]; exact yields_load_obj (by rfl) 36 (.tmp 7) rfl (w.heap.size + 1 + 1) 0 rfl m3.cells (fun w' hb => (Lows.blk hb 8 rfl).all) _ Try.underlying36 rfl HU3.out) (by assumption) ?_
        (try simp only [Act.put, List.setIfInBounds_toArray, List.set_cons_zero, List.set_cons_succ])
        refine take_first (v := .agg cm3) 20 rfl (by kernel_rfl) (by kernel_rfl) (by kernel_rfl) (fun _ _ _ h => h) (by rw [← HC3.out]; exact yields_load_obj (by rfl) 36 (.tmp 7) rfl (w.heap.size + 1 + 1) 0 rfl m3.cells (fun w' hb => (Lows.blk hb 8 rfl).all) _ Try.underlying36 rfl HU3.out) (by assumption) ?_
        (try simp only [Act.put, List.setIfInBounds_toArray, List.set_cons_zero, List.set_cons_succ])
        refine step_one 18 rfl (by kernel_rfl) (fun K hK => ?_)
        clear hHeld
        go_simp
        refine (HC.out _).mono ?_
        rintro e wy6 ⟨E3p, f3p, rfl, -, -, hr, hb⟩
        replace HM := Lib.hid (show Lows w [rdL E3p (msLen 3) (encB 3 m3), rdL E2r (msLen 2) (encB 2 m2), rdL E2p (msLen 2) (encB 2 m2), rdL E1r (msLen 1) (encB 1 m1), rdL E1p (msLen 1) (encB 1 m1), blkL P34 40 fl2, blkL P11 40 (tranC r q (some ⟨Z, 0, none⟩) L L), rdL (some ⟨Z, 0, none⟩) L (List.replicate L 0), blkL (w.heap.size + 1 + 1 + 1) 40 (tranC r q A kd cb), blkL (w.heap.size + 1 + 1) 36 m3.cells, blkL (w.heap.size + 1) 32 m2.cells, blkL w.heap.size 30 m1.cells, rdL A kd (lb.take kd)] wy6 from (HM.out.below hb).cons (rdL E3p (msLen 3) (encB 3 m3)) (hr))
        clear hb
        clear hr
        go_wp2_with fail
        refine hK.out _ _ (HM.out.tail 0) (fun hHeld => ?_)
        clear hK K
        (try simp only [Act.put, List.setIfInBounds_toArray, List.set_cons_zero, List.set_cons_succ])
        refine wpAnyH_stronger (T := fun W' => Lows w [rdL E3p (msLen 3) (encB 3 m3), rdL E2r (msLen 2) (encB 2 m2), rdL E2p (msLen 2) (encB 2 m2), rdL E1r (msLen 1) (encB 1 m1), rdL E1p (msLen 1) (encB 1 m1), blkL P34 40 fl2, blkL P11 40 (tranC r q (some ⟨Z, 0, none⟩) L L), rdL (some ⟨Z, 0, none⟩) L (List.replicate L 0), blkL (w.heap.size + 1 + 1 + 1) 40 (tranC r q A kd cb), blkL (w.heap.size + 1 + 1) 36 m3.cells, blkL (w.heap.size + 1) 32 m2.cells, blkL w.heap.size 30 m1.cells, rdL A kd (lb.take kd)] W') (fun _ h' => (h'.tail 0)) _ _ _ _ ?_
        replace hHeld := HM.out
        refine take_first (v := ?_) 19 rfl (by kernel_rfl) (by kernel_rfl) (by kernel_rfl) (fun _ _ _ h => h) (Or.inl ⟨by rfl, ?_⟩) (by assumption) ?_
        rotate_left
        · (intro w hSw; (try dsimp only at hSw); have cv := show (convert 38 9 (.slice E3p (msLen 3) f3p)).run Try.prog w = .ok (.string ⟨(encB 3 m3).toArray⟩) w from run_string_of_rd (P := Try.prog) 38 9 5 f3p Try.underlying38 Try.underlying5 Try.underlying9 (Lows.rd hSw 0 rfl); go_simp; try with_reducible rfl)
        (try simp only [Act.put, List.setIfInBounds_toArray, List.set_cons_zero, List.set_cons_succ])
        refine step_one 21 rfl (by kernel_rfl) (fun K hK => ?_)
        clear hHeld
        go_simp
        refine (RC.out _).mono ?_
        rintro e wy7 ⟨E3r, f3r, rfl, -, -, hr, hb⟩
        replace HM := Lib.hid (show Lows w [rdL E3r (msLen 3) (encB 3 m3), rdL E3p (msLen 3) (encB 3 m3), rdL E2r (msLen 2) (encB 2 m2), rdL E2p (msLen 2) (encB 2 m2), rdL E1r (msLen 1) (encB 1 m1), rdL E1p (msLen 1) (encB 1 m1), blkL P34 40 fl2, blkL P11 40 (tranC r q (some ⟨Z, 0, none⟩) L L), rdL (some ⟨Z, 0, none⟩) L (List.replicate L 0), blkL (w.heap.size + 1 + 1 + 1) 40 (tranC r q A kd cb), blkL (w.heap.size + 1 + 1) 36 m3.cells, blkL (w.heap.size + 1) 32 m2.cells, blkL w.heap.size 30 m1.cells, rdL A kd (lb.take kd)] wy7 from (HM.out.below hb).cons (rdL E3r (msLen 3) (encB 3 m3)) (hr))
        clear hb
        clear hr
        go_wp2_with fail
        refine hK.out _ _ (HM.out.tail 0) (fun hHeld => ?_)
        clear hK K
        (try simp only [Act.put, List.setIfInBounds_toArray, List.set_cons_zero, List.set_cons_succ])
        refine wpAnyH_stronger (T := fun W' => Lows w [rdL E3r (msLen 3) (encB 3 m3), rdL E3p (msLen 3) (encB 3 m3), rdL E2r (msLen 2) (encB 2 m2), rdL E2p (msLen 2) (encB 2 m2), rdL E1r (msLen 1) (encB 1 m1), rdL E1p (msLen 1) (encB 1 m1), blkL P34 40 fl2, blkL P11 40 (tranC r q (some ⟨Z, 0, none⟩) L L), rdL (some ⟨Z, 0, none⟩) L (List.replicate L 0), blkL (w.heap.size + 1 + 1 + 1) 40 (tranC r q A kd cb), blkL (w.heap.size + 1 + 1) 36 m3.cells, blkL (w.heap.size + 1) 32 m2.cells, blkL w.heap.size 30 m1.cells, rdL A kd (lb.take kd)] W') (fun _ h' => (h'.tail 0)) _ _ _ _ ?_
        replace hHeld := HM.out
        refine take_first (v := ?_) 22 rfl (by kernel_rfl) (by kernel_rfl) (by kernel_rfl) (fun _ _ _ h => h) (Or.inl ⟨by rfl, ?_⟩) (by assumption) ?_
        rotate_left
        · (intro w hSw; (try dsimp only at hSw); have cv := show (convert 38 9 (.slice E3r (msLen 3) f3r)).run Try.prog w = .ok (.string ⟨(encB 3 m3).toArray⟩) w from run_string_of_rd (P := Try.prog) 38 9 5 f3r Try.underlying38 Try.underlying5 Try.underlying9 (Lows.rd hSw 0 rfl); go_simp; try with_reducible rfl)
        (try simp only [Act.put, List.setIfInBounds_toArray, List.set_cons_zero, List.set_cons_succ])
        refine take_first (v := ?_) 23 rfl (by kernel_rfl) (by kernel_rfl) (by kernel_rfl) (fun _ _ _ h => h) (Or.inl ⟨by rfl, ?_⟩) (by assumption) ?_
        rotate_left
        · (intro w hSw; (try dsimp only at hSw); go_simp; try with_reducible rfl)
        (try simp only [Act.put, List.setIfInBounds_toArray, List.set_cons_zero, List.set_cons_succ])
        refine take_first (v := ?_) 24 rfl (by kernel_rfl) (by kernel_rfl) (by kernel_rfl) (fun _ _ _ h => h) (Or.inl ⟨by rfl, ?_⟩) (by assumption) ?_
        rotate_left
        · (intro w hSw; (try dsimp only at hSw); go_simp; try with_reducible rfl)
        (try simp only [Act.put, List.setIfInBounds_toArray, List.set_cons_zero, List.set_cons_succ])
        refine take_first (v := ?_) 25 rfl (by kernel_rfl) (by kernel_rfl) (by kernel_rfl) (fun _ _ _ h => h) (Or.inl ⟨by rfl, ?_⟩) (by assumption) ?_
        rotate_left
        · (intro w hSw; (try dsimp only at hSw); go_simp; try with_reducible rfl)
        (try simp only [Act.put, List.setIfInBounds_toArray, List.set_cons_zero, List.set_cons_succ])
        refine step_one 26 rfl (by kernel_rfl) (fun K hK => ?_)
        clear hHeld
        go_simp
        refine (HBG.out _).mono ?_
        rintro e wy8 ⟨rfl, hb⟩
        replace HM := Lib.hid (show Lows w [rdL E3r (msLen 3) (encB 3 m3), rdL E3p (msLen 3) (encB 3 m3), rdL E2r (msLen 2) (encB 2 m2), rdL E2p (msLen 2) (encB 2 m2), rdL E1r (msLen 1) (encB 1 m1), rdL E1p (msLen 1) (encB 1 m1), blkL P34 40 fl2, blkL P11 40 (tranC r q (some ⟨Z, 0, none⟩) L L), rdL (some ⟨Z, 0, none⟩) L (List.replicate L 0), blkL (w.heap.size + 1 + 1 + 1) 40 (tranC r q A kd cb), blkL (w.heap.size + 1 + 1) 36 m3.cells, blkL (w.heap.size + 1) 32 m2.cells, blkL w.heap.size 30 m1.cells, rdL A kd (lb.take kd)] wy8 from HM.out.below hb)
        clear hb
        go_wp2_with fail
        refine hK.out _ _ (HM.out) (fun hHeld => ?_)
        clear hK K
        (try simp only [Act.put, List.setIfInBounds_toArray, List.set_cons_zero, List.set_cons_succ])
        refine take_first (v := ?_) 27 rfl (by kernel_rfl) (by kernel_rfl) (by kernel_rfl) (fun _ _ _ h => h) (Or.inl ⟨by rfl, ?_⟩) (by assumption) ?_
        rotate_left
        · (intro w hSw; (try dsimp only at hSw); go_simp; try with_reducible rfl)
        (try simp only [Act.put, List.setIfInBounds_toArray, List.set_cons_zero, List.set_cons_succ])
        refine take_first (v := ?_) 28 rfl (by kernel_rfl) (by kernel_rfl) (by kernel_rfl) (fun _ _ _ h => h) (Or.inl ⟨by rfl, ?_⟩) (by assumption) ?_
        rotate_left
        · (intro w hSw; (try dsimp only at hSw); go_simp; try with_reducible rfl)
        (try simp only [Act.put, List.setIfInBounds_toArray, List.set_cons_zero, List.set_cons_succ])
        refine wpAnyH_done (by kernel_rfl) ?_ _
        have HF := Lib.hid HM.out.bel
        clear HM hHeld
        go_wp2_with fail
        go_ret
        exact ⟨rfl, HF.out⟩
end Go.Proofs.Ytaolhndbpgjlcaa
