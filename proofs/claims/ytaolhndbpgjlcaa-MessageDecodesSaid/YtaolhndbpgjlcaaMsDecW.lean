/-
  MessageDecodes returns true for every input, and changes nothing that was there: the walk. No statement is proved here.
-/
import Derived.Test.YtaolhndbpgjlcaaMsDecodes
import Derived.Test.YtaolhndbpgjlcaaMsEnc
import Derived.Test.YtaolhndbpgjlcaaXorBits
import Derived.Test.YtaolhndbpgjlcaaCaseCut
namespace Go.Proofs.Ytaolhndbpgjlcaa
open Go.RowKit

/-- the two newest facts and no other -/
theorem Lows.sub2 {w0 W : World} {a b : Low} {E : List Low} (h : Lows w0 (a :: b :: E) W) : Lows w0 [a, b] W := ⟨fun f hf => h.1 f (by
  simp only [List.mem_cons, List.not_mem_nil, or_false] at hf
  rcases hf with rfl | rfl <;> simp), h.2⟩
set_option maxRecDepth 100000 in
set_option maxHeartbeats 16000000 in
theorem ms_decodes_walk (HKN : MsKindC 22) (HDA : MsDecC 17 1) (HDB : MsDecC 18 2) (HDC : MsDecC 19 3) (HDT : MsDecTC 20) (HET : MsEncTC 7) (w : World) (m1 m2 m3 : MsgM) (n : Nat) (A : Option Addr) (nb cb : Nat) (lb : List UInt8) (wh ia ib : Nat) (hok1 : m1.ok 1) (hok2 : m2.ok 2) (hok3 : m3.ok 3) (hn : n ≤ 65535) (hnc : nb ≤ cb) (hcm : cb ≤ maxLen) (hrb : Rd w w.heap.size A nb lb) (hwh : wh ≤ 255) (hia : ia ≤ 255) (hib : ib ≤ 255) :
    Calls Try.prog 4 #[.agg m1.cells.toArray, .agg m2.cells.toArray, .agg m3.cells.toArray, .int .u16 (n : Int), .slice A nb cb, .int .u8 (wh : Int), .int .u8 (ia : Int), .int .u8 (ib : Int)] w fun e w' => e = .returned (.bool true) ∧ Below w.heap.size w w' := by
  obtain ⟨i0, hi, hz0, hz1, hz2⟩ := info_parts Try.info5
  have HBG := Lib.hid (ms_begun_any HET HKN)
  have DD := Lib.hid (decodes_any HKN HDA HDB HDC HDT)
  have RE1 := Lib.hid (refEnc1 m1 hok1)
  have RE2 := Lib.hid (refEnc2 m2 hok2)
  have RE3 := Lib.hid (refEnc3 m3 hok3)
  have hl1 := MsgM.cells_length hok1
  have HU1 := Lib.hid (show (Try.prog.info? 30).map (·.size) = some m1.cells.length from by rw [hl1]; kernel_rfl)
  obtain ⟨cm1, hc1⟩ : ∃ z, m1.cells.toArray = z := ⟨_, rfl⟩
  rw [hc1] at RE1
  have HC1 := Lib.hid hc1
  have hl2 := MsgM.cells_length hok2
  have HU2 := Lib.hid (show (Try.prog.info? 32).map (·.size) = some m2.cells.length from by rw [hl2]; kernel_rfl)
  obtain ⟨cm2, hc2⟩ : ∃ z, m2.cells.toArray = z := ⟨_, rfl⟩
  rw [hc2] at RE2
  have HC2 := Lib.hid hc2
  have hl3 := MsgM.cells_length hok3
  have HU3 := Lib.hid (show (Try.prog.info? 36).map (·.size) = some m3.cells.length from by rw [hl3]; kernel_rfl)
  obtain ⟨cm3, hc3⟩ : ∃ z, m3.cells.toArray = z := ⟨_, rfl⟩
  rw [hc3] at RE3
  have HC3 := Lib.hid hc3
  rw [hc1, hc2, hc3]
  obtain ⟨kd, hk⟩ : ∃ k, min nb 160 = k := ⟨_, rfl⟩
  have HCU := Lib.hid (caseCut_any A nb cb 160 kd (by omega) hnc hcm hk)
  have hkd : kd ≤ 160 ∧ kd ≤ cb := by omega
  have HM := Lib.hid (show Lows w [blkL (w.heap.size + 1 + 1) 36 m3.cells, blkL (w.heap.size + 1) 32 m2.cells, blkL w.heap.size 30 m1.cells, rdL A kd (lb.take kd)] (((w.alloc (.cells cm1 30)).alloc (.cells cm2 32)).alloc (.cells cm3 36)) from by
    have h := (((((Lows.nil w).cons (rdL A kd (lb.take kd)) (hrb.take (show kd ≤ nb by omega))).alloc 30 cm1 _ hc1.symm).alloc 32 cm2 _ hc2.symm).alloc 36 cm3 _ hc3.symm)
    simpa using h)
  obtain ⟨v, hv⟩ : ∃ v : UInt8, v.toNat = ib := ⟨UInt8.ofNat ib, by rw [UInt8.toNat_ofNat']; exact Nat.mod_eq_of_lt (by omega)⟩
  subst hv
  obtain ⟨x, hx⟩ : ∃ x, n % 2080 = x := ⟨_, rfl⟩
  have hxI : (n : Int) % 2080 = (x : Int) := by omega
  have hxt : ((n : Int)).tmod 2080 = (x : Int) := by rw [Int.tmod_eq_emod_of_nonneg (by omega)]; omega
  obtain ⟨z, hz⟩ : ∃ z, 24 + x = z := ⟨_, rfl⟩
  have hzI : (24 : Int) + (x : Int) = (z : Int) := by omega
  have hzb : 24 ≤ z ∧ z ≤ 2200 := by omega
  have hnw : IntKind.i64.wrap (n : Int) = (n : Int) := IntWalk.i64_in _ (by omega)
  have hxw : IntKind.i64.wrap (x : Int) = (x : Int) := IntWalk.i64_in _ (by omega)
  have hzw : IntKind.i64.wrap (z : Int) = (z : Int) := IntWalk.i64_in _ (by omega)
  obtain ⟨j, hj⟩ : ∃ j, wh % 4 = j := ⟨_, rfl⟩
  have hj4 : j < 4 := by omega
  have hjI : (wh : Int) % 4 = (j : Int) := by omega
  have hj4I : (j : Int) < 4 := by omega
  have hjt : ((wh : Int)).tmod 4 = (j : Int) := by rw [Int.tmod_eq_emod_of_nonneg (by omega)]; exact hjI
  have HNUM := Lib.hid (And.intro hia (And.intro hib (And.intro hwh (And.intro hkd (And.intro hcm hnc)))))
  clear HKN HDA HDB HDC HDT HET hok1 hok2 hok3 hl1 hl2 hl3 hc1 hc2 hc3 hk hnc hcm hrb hkd hia hib
  go_enter Try.func4, Try.ntmps4
  go_upto_region 1 with fail
  generalize (((w.alloc (.cells cm1 30)).alloc (.cells cm2 32)).alloc (.cells cm3 36)) = w1 at HM ⊢
  go_cut [17] (fun p' wx => ∃ Ax nx cx lx, p' = .slice Ax nx cx ∧ 8 ≤ nx ∧ nx ≤ cx ∧ cx ≤ maxLen ∧ nx ≤ 3000 ∧ Lows w [rdL Ax nx lx, rdL A kd (lb.take kd)] wx)
  case first =>
    refine wp_region_held_drew (S := fun W' => Lows w [blkL (w.heap.size + 1 + 1) 36 m3.cells, blkL (w.heap.size + 1) 32 m2.cells, blkL w.heap.size 30 m1.cells, rdL A kd (lb.take kd)] W') (by kernel_rfl) (HM.out.drew) (fun hHeld => ?_)
    replace HM := Lib.hid HM.out.drew
    generalize w1.drew = wd1 at HM hHeld ⊢
    refine take_first (v := .agg cm1) 0 rfl (by kernel_rfl) (by kernel_rfl) (by kernel_rfl) (fun _ _ _ h => h) (by rw [← HC1.out]; exact yields_load_obj (by rfl) 30 (.tmp 8) rfl w.heap.size 0 rfl m1.cells (fun w' hb => (Lows.blk hb 2 rfl).all) _ Try.underlying30 rfl HU1.out) (by assumption) ?_
    (try simp only [Act.put, List.setIfInBounds_toArray, List.set_cons_zero, List.set_cons_succ])
    refine take_first (v := .agg cm2) 2 rfl (by kernel_rfl) (by kernel_rfl) (by kernel_rfl) (fun _ _ _ h => h) (by rw [← HC2.out]; exact yields_load_obj (by rfl) 32 (.tmp 9) rfl (w.heap.size + 1) 0 rfl m2.cells (fun w' hb => (Lows.blk hb 1 rfl).all) _ Try.underlying32 rfl HU2.out) (by assumption) ?_
    (try simp only [Act.put, List.setIfInBounds_toArray, List.set_cons_zero, List.set_cons_succ])
    refine take_first (v := .agg cm3) 4 rfl (by kernel_rfl) (by kernel_rfl) (by kernel_rfl) (fun _ _ _ h => h) (by rw [← HC3.out]; exact yields_load_obj (by rfl) 36 (.tmp 10) rfl (w.heap.size + 1 + 1) 0 rfl m3.cells (fun w' hb => (Lows.blk hb 0 rfl).all) _ Try.underlying36 rfl HU3.out) (by assumption) ?_
    (try simp only [Act.put, List.setIfInBounds_toArray, List.set_cons_zero, List.set_cons_succ])
    refine take_first (v := ?_) 7 rfl (by kernel_rfl) (by kernel_rfl) (by kernel_rfl) (fun _ _ _ h => h) (Or.inl ⟨by rfl, ?_⟩) (by assumption) ?_
    rotate_left
    · (intro w hSw; (try dsimp only at hSw); go_simp; try with_reducible rfl)
    (try simp only [Act.put, List.setIfInBounds_toArray, List.set_cons_zero, List.set_cons_succ])
    refine take_first (v := ?_) 8 rfl (by kernel_rfl) (by kernel_rfl) (by kernel_rfl) (fun _ _ _ h => h) (Or.inl ⟨by rfl, ?_⟩) (by assumption) ?_
    rotate_left
    · (intro w hSw; (try dsimp only at hSw); go_simp; try with_reducible rfl)
    (try simp only [Act.put, List.setIfInBounds_toArray, List.set_cons_zero, List.set_cons_succ])
    refine take_first (v := ?_) 9 rfl (by kernel_rfl) (by kernel_rfl) (by kernel_rfl) (fun _ _ _ h => h) (Or.inl ⟨by rfl, ?_⟩) (by assumption) ?_
    rotate_left
    · (intro w hSw; (try dsimp only at hSw); go_simp; try with_reducible rfl)
    (try simp only [Act.put, List.setIfInBounds_toArray, List.set_cons_zero, List.set_cons_succ])
    refine take_first (v := ?_) 10 rfl (by kernel_rfl) (by kernel_rfl) (by kernel_rfl) (fun _ _ _ h => h) (Or.inl ⟨by rfl, ?_⟩) (by assumption) ?_
    rotate_left
    · (intro w hSw; (try dsimp only at hSw); go_simp; try with_reducible rfl)
    (try simp only [Act.put, List.setIfInBounds_toArray, List.set_cons_zero, List.set_cons_succ])
    refine take_first (v := ?_) 13 rfl (by kernel_rfl) (by kernel_rfl) (by kernel_rfl) (fun _ _ _ h => h) (Or.inl ⟨by rfl, ?_⟩) (by assumption) ?_
    rotate_left
    · (intro w hSw; (try dsimp only at hSw); go_simp; try with_reducible rfl)
    (try simp only [Act.put, List.setIfInBounds_toArray, List.set_cons_zero, List.set_cons_succ])
    refine take_first (v := ?_) 14 rfl (by kernel_rfl) (by kernel_rfl) (by kernel_rfl) (fun _ _ _ h => h) (Or.inl ⟨by rfl, ?_⟩) (by assumption) ?_
    rotate_left
    · (intro w hSw; (try dsimp only at hSw); go_simp; try with_reducible rfl)
    (try simp only [Act.put, List.setIfInBounds_toArray, List.set_cons_zero, List.set_cons_succ])
    refine step_two 1 6 rfl rfl (by kernel_rfl) (fun K hK => ?_) (fun K hK => ?_)
    · clear hHeld
      go_simp
      refine (RE1.out _).mono ?_
      rintro e wy2 ⟨E1, f1, rfl, hca, hcb, hr, hb⟩
      replace HM := Lib.hid (show Lows w [rdL E1 (msLen 1) (encB 1 m1), blkL (w.heap.size + 1 + 1) 36 m3.cells, blkL (w.heap.size + 1) 32 m2.cells, blkL w.heap.size 30 m1.cells, rdL A kd (lb.take kd)] wy2 from (HM.out.below hb).cons (rdL E1 (msLen 1) (encB 1 m1)) (hr))
      clear hb
      have HF1 := Lib.hid (And.intro hca hcb)
      clear hr hca hcb
      go_wp2_with fail
      refine hK.out _ _ (HM.out.tail 0) (fun hHeld => ?_)
      clear hK K
      (try simp only [Act.put, List.setIfInBounds_toArray, List.set_cons_zero, List.set_cons_succ])
      refine wpAnyH_stronger (T := fun W' => Lows w [rdL E1 (msLen 1) (encB 1 m1), blkL (w.heap.size + 1 + 1) 36 m3.cells, blkL (w.heap.size + 1) 32 m2.cells, blkL w.heap.size 30 m1.cells, rdL A kd (lb.take kd)] W') (fun _ h' => (h'.tail 0)) _ _ _ _ ?_
      replace hHeld := HM.out
      refine step_two 3 6 rfl rfl (by kernel_rfl) (fun K hK => ?_) (fun K hK => ?_)
      · clear hHeld
        go_simp
        refine (RE2.out _).mono ?_
        rintro e wy3 ⟨E2, f2, rfl, hca, hcb, hr, hb⟩
        replace HM := Lib.hid (show Lows w [rdL E2 (msLen 2) (encB 2 m2), rdL E1 (msLen 1) (encB 1 m1), blkL (w.heap.size + 1 + 1) 36 m3.cells, blkL (w.heap.size + 1) 32 m2.cells, blkL w.heap.size 30 m1.cells, rdL A kd (lb.take kd)] wy3 from (HM.out.below hb).cons (rdL E2 (msLen 2) (encB 2 m2)) (hr))
        clear hb
        have HF2 := Lib.hid (And.intro hca hcb)
        clear hr hca hcb
        go_wp2_with fail
        refine hK.out _ _ (HM.out.tail 0) (fun hHeld => ?_)
        clear hK K
        (try simp only [Act.put, List.setIfInBounds_toArray, List.set_cons_zero, List.set_cons_succ])
        refine wpAnyH_stronger (T := fun W' => Lows w [rdL E2 (msLen 2) (encB 2 m2), rdL E1 (msLen 1) (encB 1 m1), blkL (w.heap.size + 1 + 1) 36 m3.cells, blkL (w.heap.size + 1) 32 m2.cells, blkL w.heap.size 30 m1.cells, rdL A kd (lb.take kd)] W') (fun _ h' => (h'.tail 0)) _ _ _ _ ?_
        replace hHeld := HM.out
        refine step_two 5 6 rfl rfl (by kernel_rfl) (fun K hK => ?_) (fun K hK => ?_)
        · clear hHeld
          go_simp
          refine (RE3.out _).mono ?_
          rintro e wy4 ⟨E3, f3, rfl, hca, hcb, hr, hb⟩
          replace HM := Lib.hid (show Lows w [rdL E3 (msLen 3) (encB 3 m3), rdL E2 (msLen 2) (encB 2 m2), rdL E1 (msLen 1) (encB 1 m1), blkL (w.heap.size + 1 + 1) 36 m3.cells, blkL (w.heap.size + 1) 32 m2.cells, blkL w.heap.size 30 m1.cells, rdL A kd (lb.take kd)] wy4 from (HM.out.below hb).cons (rdL E3 (msLen 3) (encB 3 m3)) (hr))
          clear hb
          have HF3 := Lib.hid (And.intro hca hcb)
          clear hr hca hcb
          go_wp2_with fail
          refine hK.out _ _ (HM.out.tail 0) (fun hHeld => ?_)
          clear hK K
          (try simp only [Act.put, List.setIfInBounds_toArray, List.set_cons_zero, List.set_cons_succ])
          refine wpAnyH_stronger (T := fun W' => Lows w [rdL E3 (msLen 3) (encB 3 m3), rdL E2 (msLen 2) (encB 2 m2), rdL E1 (msLen 1) (encB 1 m1), blkL (w.heap.size + 1 + 1) 36 m3.cells, blkL (w.heap.size + 1) 32 m2.cells, blkL w.heap.size 30 m1.cells, rdL A kd (lb.take kd)] W') (fun _ h' => (h'.tail 0)) _ _ _ _ ?_
          replace hHeld := HM.out
          refine step_one 6 rfl (by kernel_rfl) (fun K hK => ?_)
          clear hHeld
          go_simp
          have hm9 := HM.out.alloc 5 #[.int .u8 4, .int .u8 0, .int .u8 0, .int .u8 0] ((msHead 4).map u8v) rfl
          generalize wy4.alloc (.cells #[.int .u8 4, .int .u8 0, .int .u8 0, .int .u8 0] 5) = wy5 at hm9 ⊢
          generalize wy4.heap.size = g4 at hm9 ⊢
          replace HM := Lib.hid (show Lows w [rdL (some ⟨g4, 0, none⟩) 4 (msHead 4), rdL E3 (msLen 3) (encB 3 m3), rdL E2 (msLen 2) (encB 2 m2), rdL E1 (msLen 1) (encB 1 m1), blkL (w.heap.size + 1 + 1) 36 m3.cells, blkL (w.heap.size + 1) 32 m2.cells, blkL w.heap.size 30 m1.cells, rdL A kd (lb.take kd)] wy5 from (hm9.cons (rdL (some ⟨g4, 0, none⟩) 4 (msHead 4)) (blk_all (hm9.blk 0 rfl) rfl)).tail 1)
          clear hm9
          refine hK.out _ _ (HM.out.tail 0) (fun hHeld => ?_)
          clear hK K
          (try simp only [Act.put, List.setIfInBounds_toArray, List.set_cons_zero, List.set_cons_succ])
          refine wpAnyH_stronger (T := fun W' => Lows w [rdL (some ⟨g4, 0, none⟩) 4 (msHead 4), rdL E3 (msLen 3) (encB 3 m3), rdL E2 (msLen 2) (encB 2 m2), rdL E1 (msLen 1) (encB 1 m1), blkL (w.heap.size + 1 + 1) 36 m3.cells, blkL (w.heap.size + 1) 32 m2.cells, blkL w.heap.size 30 m1.cells, rdL A kd (lb.take kd)] W') (fun _ h' => (h'.tail 0)) _ _ _ _ ?_
          replace hHeld := HM.out
          refine step_one 11 rfl (by kernel_rfl) (fun K hK => ?_)
          clear hHeld
          refine step_append_zeros_new _ (by rfl) (.tmp 25) (.tmp 29) 38 3 rfl 5 i0 .i64 .i64 Try.underlying38 Try.underlying3 hi hz0 hz1 hz2 g4 4 4 (msHead 4) _ rfl (HM.out.rd 0 rfl) z rfl (by omega) (by omega) (by omega) ?_
          intro c9 wy6 hown hg
          have hoa := own_addr hown
          have HC9 := Lib.hid (And.intro hoa.1 hoa.2.1)
          have hm9 := (HM.out.below ((Below.refl _ _).grown hg (Nat.le_refl _) (by simp))).cons (rdL _ _ _) (Rd.of_own hown)
          generalize wy5.heap.size = g9 at hm9 ⊢
          replace HM := Lib.hid (show Lows w [rdL (some ⟨g9, 0, none⟩) (4 + z) (msHead 4 ++ List.replicate z 0), rdL (some ⟨g4, 0, none⟩) 4 (msHead 4), rdL E3 (msLen 3) (encB 3 m3), rdL E2 (msLen 2) (encB 2 m2), rdL E1 (msLen 1) (encB 1 m1), blkL (w.heap.size + 1 + 1) 36 m3.cells, blkL (w.heap.size + 1) 32 m2.cells, blkL w.heap.size 30 m1.cells, rdL A kd (lb.take kd)] wy6 from hm9)
          clear hm9 hown hg hoa
          refine hK.out _ _ (HM.out.tail 0) (fun hHeld => ?_)
          clear hK K
          (try simp only [Act.put, List.setIfInBounds_toArray, List.set_cons_zero, List.set_cons_succ])
          refine wpAnyH_stronger (T := fun W' => Lows w [rdL (some ⟨g9, 0, none⟩) (4 + z) (msHead 4 ++ List.replicate z 0), rdL (some ⟨g4, 0, none⟩) 4 (msHead 4), rdL E3 (msLen 3) (encB 3 m3), rdL E2 (msLen 2) (encB 2 m2), rdL E1 (msLen 1) (encB 1 m1), blkL (w.heap.size + 1 + 1) 36 m3.cells, blkL (w.heap.size + 1) 32 m2.cells, blkL w.heap.size 30 m1.cells, rdL A kd (lb.take kd)] W') (fun _ h' => (h'.tail 0)) _ _ _ _ ?_
          replace hHeld := HM.out
          refine step_one 12 rfl (by kernel_rfl) (fun K hK => ?_)
          clear hHeld
          go_simp
          have hm9 := HM.out.alloc 38 #[.slice E1 (msLen 1) f1, .slice E2 (msLen 2) f2, .slice E3 (msLen 3) f3, .slice (some ⟨g9, 0, none⟩) (4 + z) c9] ([.slice E1 (msLen 1) f1, .slice E2 (msLen 2) f2, .slice E3 (msLen 3) f3, .slice (some ⟨g9, 0, none⟩) (4 + z) c9]) rfl
          generalize wy6.alloc (.cells #[.slice E1 (msLen 1) f1, .slice E2 (msLen 2) f2, .slice E3 (msLen 3) f3, .slice (some ⟨g9, 0, none⟩) (4 + z) c9] 38) = wy7 at hm9 ⊢
          generalize wy6.heap.size = g12 at hm9 ⊢
          replace HM := Lib.hid (show Lows w [blkL g12 38 ([.slice E1 (msLen 1) f1, .slice E2 (msLen 2) f2, .slice E3 (msLen 3) f3, .slice (some ⟨g9, 0, none⟩) (4 + z) c9]), rdL (some ⟨g9, 0, none⟩) (4 + z) (msHead 4 ++ List.replicate z 0), rdL (some ⟨g4, 0, none⟩) 4 (msHead 4), rdL E3 (msLen 3) (encB 3 m3), rdL E2 (msLen 2) (encB 2 m2), rdL E1 (msLen 1) (encB 1 m1), blkL (w.heap.size + 1 + 1) 36 m3.cells, blkL (w.heap.size + 1) 32 m2.cells, blkL w.heap.size 30 m1.cells, rdL A kd (lb.take kd)] wy7 from hm9)
          clear hm9
          refine hK.out _ _ (HM.out.tail 0) (fun hHeld => ?_)
          clear hK K
          (try simp only [Act.put, List.setIfInBounds_toArray, List.set_cons_zero, List.set_cons_succ])
          refine wpAnyH_stronger (T := fun W' => Lows w [blkL g12 38 ([.slice E1 (msLen 1) f1, .slice E2 (msLen 2) f2, .slice E3 (msLen 3) f3, .slice (some ⟨g9, 0, none⟩) (4 + z) c9]), rdL (some ⟨g9, 0, none⟩) (4 + z) (msHead 4 ++ List.replicate z 0), rdL (some ⟨g4, 0, none⟩) 4 (msHead 4), rdL E3 (msLen 3) (encB 3 m3), rdL E2 (msLen 2) (encB 2 m2), rdL E1 (msLen 1) (encB 1 m1), blkL (w.heap.size + 1 + 1) 36 m3.cells, blkL (w.heap.size + 1) 32 m2.cells, blkL w.heap.size 30 m1.cells, rdL A kd (lb.take kd)] W') (fun _ h' => (h'.tail 0)) _ _ _ _ ?_
          replace hHeld := HM.out
          have HIX : ∃ Ax nx cx lx, 8 ≤ nx ∧ nx ≤ cx ∧ cx ≤ maxLen ∧ nx ≤ 3000 ∧ (∀ W, Lows w [blkL g12 38 ([.slice E1 (msLen 1) f1, .slice E2 (msLen 2) f2, .slice E3 (msLen 3) f3, .slice (some ⟨g9, 0, none⟩) (4 + z) c9]), rdL (some ⟨g9, 0, none⟩) (4 + z) (msHead 4 ++ List.replicate z 0), rdL (some ⟨g4, 0, none⟩) 4 (msHead 4), rdL E3 (msLen 3) (encB 3 m3), rdL E2 (msLen 2) (encB 2 m2), rdL E1 (msLen 1) (encB 1 m1), blkL (w.heap.size + 1 + 1) 36 m3.cells, blkL (w.heap.size + 1) 32 m2.cells, blkL w.heap.size 30 m1.cells, rdL A kd (lb.take kd)] W → W.cell? ⟨g12, j, none⟩ = some (.slice Ax nx cx)) ∧ (∀ W, Lows w [blkL g12 38 ([.slice E1 (msLen 1) f1, .slice E2 (msLen 2) f2, .slice E3 (msLen 3) f3, .slice (some ⟨g9, 0, none⟩) (4 + z) c9]), rdL (some ⟨g9, 0, none⟩) (4 + z) (msHead 4 ++ List.replicate z 0), rdL (some ⟨g4, 0, none⟩) 4 (msHead 4), rdL E3 (msLen 3) (encB 3 m3), rdL E2 (msLen 2) (encB 2 m2), rdL E1 (msLen 1) (encB 1 m1), blkL (w.heap.size + 1 + 1) 36 m3.cells, blkL (w.heap.size + 1) 32 m2.cells, blkL w.heap.size 30 m1.cells, rdL A kd (lb.take kd)] W → Rd W W.heap.size Ax nx lx) := by
            match j, hj4 with
            | 0, _ => exact ⟨E1, (msLen 1), f1, encB 1 m1, by decide, HF1.out.1, HF1.out.2, by decide, fun W hW => (hW.blk 0 rfl).cell 0, fun W hW => hW.rd 5 rfl⟩
            | 1, _ => exact ⟨E2, (msLen 2), f2, encB 2 m2, by decide, HF2.out.1, HF2.out.2, by decide, fun W hW => (hW.blk 0 rfl).cell 1, fun W hW => hW.rd 4 rfl⟩
            | 2, _ => exact ⟨E3, (msLen 3), f3, encB 3 m3, by decide, HF3.out.1, HF3.out.2, by decide, fun W hW => (hW.blk 0 rfl).cell 2, fun W hW => hW.rd 3 rfl⟩
            | 3, _ => exact ⟨(some ⟨g9, 0, none⟩), (4 + z), c9, msHead 4 ++ List.replicate z 0, by omega, HC9.out.1, HC9.out.2, by omega, fun W hW => (hW.blk 0 rfl).cell 3, fun W hW => hW.rd 1 rfl⟩
            | j + 4, hj => exact absurd hj (by omega)
          obtain ⟨Ax, nx, cx, lx, hx8, hxc, hxm, hxn, hcell, hrdx⟩ := HIX
          refine take_first (v := ?_) 15 rfl (by kernel_rfl) (by kernel_rfl) (by kernel_rfl) (fun _ _ _ h => h) (Or.inl ⟨by rfl, ?_⟩) (by assumption) ?_
          rotate_left
          · (intro w hSw; (try dsimp only at hSw); go_simp; try with_reducible rfl)
          (try simp only [Act.put, List.setIfInBounds_toArray, List.set_cons_zero, List.set_cons_succ])
          refine take_first (v := ?_) 16 rfl (by kernel_rfl) (by kernel_rfl) (by kernel_rfl) (fun _ _ _ h => h) (Or.inl ⟨by rfl, ?_⟩) (by assumption) ?_
          rotate_left
          · (intro w hSw; (try dsimp only at hSw); have fc := hcell _ hSw; go_simp; try with_reducible rfl)
          (try simp only [Act.put, List.setIfInBounds_toArray, List.set_cons_zero, List.set_cons_succ])
          refine take_first (v := ?_) 17 rfl (by kernel_rfl) (by kernel_rfl) (by kernel_rfl) (fun _ _ _ h => h) (Or.inl ⟨by rfl, ?_⟩) (by assumption) ?_
          rotate_left
          · (intro w hSw; (try dsimp only at hSw); go_simp; try with_reducible rfl)
          (try simp only [Act.put, List.setIfInBounds_toArray, List.set_cons_zero, List.set_cons_succ])
          refine wpAnyH_done (by kernel_rfl) ?_ _
          have hrx := hrdx _ HM.out
          have hm5 := (HM.out.cons (rdL Ax nx lx) hrx)
          go_wp2_with fail
          go_meet
          exact ⟨Ax, nx, cx, lx, rfl, hx8, hxc, hxm, hxn, ((HM.out.cons (rdL A kd (lb.take kd)) (HM.out.rd 9 rfl)).cons (rdL Ax nx lx) hrx).sub2⟩
        · clear hHeld
          go_simp
          have hm9 := HM.out.alloc 5 #[.int .u8 4, .int .u8 0, .int .u8 0, .int .u8 0] ((msHead 4).map u8v) rfl
          generalize wy3.alloc (.cells #[.int .u8 4, .int .u8 0, .int .u8 0, .int .u8 0] 5) = wy4 at hm9 ⊢
          generalize wy3.heap.size = g4 at hm9 ⊢
          replace HM := Lib.hid (show Lows w [rdL (some ⟨g4, 0, none⟩) 4 (msHead 4), rdL E2 (msLen 2) (encB 2 m2), rdL E1 (msLen 1) (encB 1 m1), blkL (w.heap.size + 1 + 1) 36 m3.cells, blkL (w.heap.size + 1) 32 m2.cells, blkL w.heap.size 30 m1.cells, rdL A kd (lb.take kd)] wy4 from (hm9.cons (rdL (some ⟨g4, 0, none⟩) 4 (msHead 4)) (blk_all (hm9.blk 0 rfl) rfl)).tail 1)
          clear hm9
          refine hK.out _ _ (HM.out.tail 0) (fun hHeld => ?_)
          clear hK K
          (try simp only [Act.put, List.setIfInBounds_toArray, List.set_cons_zero, List.set_cons_succ])
          refine wpAnyH_stronger (T := fun W' => Lows w [rdL (some ⟨g4, 0, none⟩) 4 (msHead 4), rdL E2 (msLen 2) (encB 2 m2), rdL E1 (msLen 1) (encB 1 m1), blkL (w.heap.size + 1 + 1) 36 m3.cells, blkL (w.heap.size + 1) 32 m2.cells, blkL w.heap.size 30 m1.cells, rdL A kd (lb.take kd)] W') (fun _ h' => (h'.tail 0)) _ _ _ _ ?_
          replace hHeld := HM.out
          refine step_one 5 rfl (by kernel_rfl) (fun K hK => ?_)
          clear hHeld
          go_simp
          refine (RE3.out _).mono ?_
          rintro e wy5 ⟨E3, f3, rfl, hca, hcb, hr, hb⟩
          replace HM := Lib.hid (show Lows w [rdL E3 (msLen 3) (encB 3 m3), rdL (some ⟨g4, 0, none⟩) 4 (msHead 4), rdL E2 (msLen 2) (encB 2 m2), rdL E1 (msLen 1) (encB 1 m1), blkL (w.heap.size + 1 + 1) 36 m3.cells, blkL (w.heap.size + 1) 32 m2.cells, blkL w.heap.size 30 m1.cells, rdL A kd (lb.take kd)] wy5 from (HM.out.below hb).cons (rdL E3 (msLen 3) (encB 3 m3)) (hr))
          clear hb
          have HF3 := Lib.hid (And.intro hca hcb)
          clear hr hca hcb
          go_wp2_with fail
          refine hK.out _ _ (HM.out.tail 0) (fun hHeld => ?_)
          clear hK K
          (try simp only [Act.put, List.setIfInBounds_toArray, List.set_cons_zero, List.set_cons_succ])
          refine wpAnyH_stronger (T := fun W' => Lows w [rdL E3 (msLen 3) (encB 3 m3), rdL (some ⟨g4, 0, none⟩) 4 (msHead 4), rdL E2 (msLen 2) (encB 2 m2), rdL E1 (msLen 1) (encB 1 m1), blkL (w.heap.size + 1 + 1) 36 m3.cells, blkL (w.heap.size + 1) 32 m2.cells, blkL w.heap.size 30 m1.cells, rdL A kd (lb.take kd)] W') (fun _ h' => (h'.tail 0)) _ _ _ _ ?_
          replace hHeld := HM.out
          refine step_one 11 rfl (by kernel_rfl) (fun K hK => ?_)
          clear hHeld
          refine step_append_zeros_new _ (by rfl) (.tmp 25) (.tmp 29) 38 3 rfl 5 i0 .i64 .i64 Try.underlying38 Try.underlying3 hi hz0 hz1 hz2 g4 4 4 (msHead 4) _ rfl (HM.out.rd 1 rfl) z rfl (by omega) (by omega) (by omega) ?_
          intro c9 wy6 hown hg
          have hoa := own_addr hown
          have HC9 := Lib.hid (And.intro hoa.1 hoa.2.1)
          have hm9 := (HM.out.below ((Below.refl _ _).grown hg (Nat.le_refl _) (by simp))).cons (rdL _ _ _) (Rd.of_own hown)
          generalize wy5.heap.size = g9 at hm9 ⊢
          replace HM := Lib.hid (show Lows w [rdL (some ⟨g9, 0, none⟩) (4 + z) (msHead 4 ++ List.replicate z 0), rdL E3 (msLen 3) (encB 3 m3), rdL (some ⟨g4, 0, none⟩) 4 (msHead 4), rdL E2 (msLen 2) (encB 2 m2), rdL E1 (msLen 1) (encB 1 m1), blkL (w.heap.size + 1 + 1) 36 m3.cells, blkL (w.heap.size + 1) 32 m2.cells, blkL w.heap.size 30 m1.cells, rdL A kd (lb.take kd)] wy6 from hm9)
          clear hm9 hown hg hoa
          refine hK.out _ _ (HM.out.tail 0) (fun hHeld => ?_)
          clear hK K
          (try simp only [Act.put, List.setIfInBounds_toArray, List.set_cons_zero, List.set_cons_succ])
          refine wpAnyH_stronger (T := fun W' => Lows w [rdL (some ⟨g9, 0, none⟩) (4 + z) (msHead 4 ++ List.replicate z 0), rdL E3 (msLen 3) (encB 3 m3), rdL (some ⟨g4, 0, none⟩) 4 (msHead 4), rdL E2 (msLen 2) (encB 2 m2), rdL E1 (msLen 1) (encB 1 m1), blkL (w.heap.size + 1 + 1) 36 m3.cells, blkL (w.heap.size + 1) 32 m2.cells, blkL w.heap.size 30 m1.cells, rdL A kd (lb.take kd)] W') (fun _ h' => (h'.tail 0)) _ _ _ _ ?_
          replace hHeld := HM.out
          refine step_one 12 rfl (by kernel_rfl) (fun K hK => ?_)
          clear hHeld
          go_simp
          have hm9 := HM.out.alloc 38 #[.slice E1 (msLen 1) f1, .slice E2 (msLen 2) f2, .slice E3 (msLen 3) f3, .slice (some ⟨g9, 0, none⟩) (4 + z) c9] ([.slice E1 (msLen 1) f1, .slice E2 (msLen 2) f2, .slice E3 (msLen 3) f3, .slice (some ⟨g9, 0, none⟩) (4 + z) c9]) rfl
          generalize wy6.alloc (.cells #[.slice E1 (msLen 1) f1, .slice E2 (msLen 2) f2, .slice E3 (msLen 3) f3, .slice (some ⟨g9, 0, none⟩) (4 + z) c9] 38) = wy7 at hm9 ⊢
          generalize wy6.heap.size = g12 at hm9 ⊢
          replace HM := Lib.hid (show Lows w [blkL g12 38 ([.slice E1 (msLen 1) f1, .slice E2 (msLen 2) f2, .slice E3 (msLen 3) f3, .slice (some ⟨g9, 0, none⟩) (4 + z) c9]), rdL (some ⟨g9, 0, none⟩) (4 + z) (msHead 4 ++ List.replicate z 0), rdL E3 (msLen 3) (encB 3 m3), rdL (some ⟨g4, 0, none⟩) 4 (msHead 4), rdL E2 (msLen 2) (encB 2 m2), rdL E1 (msLen 1) (encB 1 m1), blkL (w.heap.size + 1 + 1) 36 m3.cells, blkL (w.heap.size + 1) 32 m2.cells, blkL w.heap.size 30 m1.cells, rdL A kd (lb.take kd)] wy7 from hm9)
          clear hm9
          refine hK.out _ _ (HM.out.tail 0) (fun hHeld => ?_)
          clear hK K
          (try simp only [Act.put, List.setIfInBounds_toArray, List.set_cons_zero, List.set_cons_succ])
          refine wpAnyH_stronger (T := fun W' => Lows w [blkL g12 38 ([.slice E1 (msLen 1) f1, .slice E2 (msLen 2) f2, .slice E3 (msLen 3) f3, .slice (some ⟨g9, 0, none⟩) (4 + z) c9]), rdL (some ⟨g9, 0, none⟩) (4 + z) (msHead 4 ++ List.replicate z 0), rdL E3 (msLen 3) (encB 3 m3), rdL (some ⟨g4, 0, none⟩) 4 (msHead 4), rdL E2 (msLen 2) (encB 2 m2), rdL E1 (msLen 1) (encB 1 m1), blkL (w.heap.size + 1 + 1) 36 m3.cells, blkL (w.heap.size + 1) 32 m2.cells, blkL w.heap.size 30 m1.cells, rdL A kd (lb.take kd)] W') (fun _ h' => (h'.tail 0)) _ _ _ _ ?_
          replace hHeld := HM.out
          have HIX : ∃ Ax nx cx lx, 8 ≤ nx ∧ nx ≤ cx ∧ cx ≤ maxLen ∧ nx ≤ 3000 ∧ (∀ W, Lows w [blkL g12 38 ([.slice E1 (msLen 1) f1, .slice E2 (msLen 2) f2, .slice E3 (msLen 3) f3, .slice (some ⟨g9, 0, none⟩) (4 + z) c9]), rdL (some ⟨g9, 0, none⟩) (4 + z) (msHead 4 ++ List.replicate z 0), rdL E3 (msLen 3) (encB 3 m3), rdL (some ⟨g4, 0, none⟩) 4 (msHead 4), rdL E2 (msLen 2) (encB 2 m2), rdL E1 (msLen 1) (encB 1 m1), blkL (w.heap.size + 1 + 1) 36 m3.cells, blkL (w.heap.size + 1) 32 m2.cells, blkL w.heap.size 30 m1.cells, rdL A kd (lb.take kd)] W → W.cell? ⟨g12, j, none⟩ = some (.slice Ax nx cx)) ∧ (∀ W, Lows w [blkL g12 38 ([.slice E1 (msLen 1) f1, .slice E2 (msLen 2) f2, .slice E3 (msLen 3) f3, .slice (some ⟨g9, 0, none⟩) (4 + z) c9]), rdL (some ⟨g9, 0, none⟩) (4 + z) (msHead 4 ++ List.replicate z 0), rdL E3 (msLen 3) (encB 3 m3), rdL (some ⟨g4, 0, none⟩) 4 (msHead 4), rdL E2 (msLen 2) (encB 2 m2), rdL E1 (msLen 1) (encB 1 m1), blkL (w.heap.size + 1 + 1) 36 m3.cells, blkL (w.heap.size + 1) 32 m2.cells, blkL w.heap.size 30 m1.cells, rdL A kd (lb.take kd)] W → Rd W W.heap.size Ax nx lx) := by
            match j, hj4 with
            | 0, _ => exact ⟨E1, (msLen 1), f1, encB 1 m1, by decide, HF1.out.1, HF1.out.2, by decide, fun W hW => (hW.blk 0 rfl).cell 0, fun W hW => hW.rd 5 rfl⟩
            | 1, _ => exact ⟨E2, (msLen 2), f2, encB 2 m2, by decide, HF2.out.1, HF2.out.2, by decide, fun W hW => (hW.blk 0 rfl).cell 1, fun W hW => hW.rd 4 rfl⟩
            | 2, _ => exact ⟨E3, (msLen 3), f3, encB 3 m3, by decide, HF3.out.1, HF3.out.2, by decide, fun W hW => (hW.blk 0 rfl).cell 2, fun W hW => hW.rd 2 rfl⟩
            | 3, _ => exact ⟨(some ⟨g9, 0, none⟩), (4 + z), c9, msHead 4 ++ List.replicate z 0, by omega, HC9.out.1, HC9.out.2, by omega, fun W hW => (hW.blk 0 rfl).cell 3, fun W hW => hW.rd 1 rfl⟩
            | j + 4, hj => exact absurd hj (by omega)
          obtain ⟨Ax, nx, cx, lx, hx8, hxc, hxm, hxn, hcell, hrdx⟩ := HIX
          refine take_first (v := ?_) 15 rfl (by kernel_rfl) (by kernel_rfl) (by kernel_rfl) (fun _ _ _ h => h) (Or.inl ⟨by rfl, ?_⟩) (by assumption) ?_
          rotate_left
          · (intro w hSw; (try dsimp only at hSw); go_simp; try with_reducible rfl)
          (try simp only [Act.put, List.setIfInBounds_toArray, List.set_cons_zero, List.set_cons_succ])
          refine take_first (v := ?_) 16 rfl (by kernel_rfl) (by kernel_rfl) (by kernel_rfl) (fun _ _ _ h => h) (Or.inl ⟨by rfl, ?_⟩) (by assumption) ?_
          rotate_left
          · (intro w hSw; (try dsimp only at hSw); have fc := hcell _ hSw; go_simp; try with_reducible rfl)
          (try simp only [Act.put, List.setIfInBounds_toArray, List.set_cons_zero, List.set_cons_succ])
          refine take_first (v := ?_) 17 rfl (by kernel_rfl) (by kernel_rfl) (by kernel_rfl) (fun _ _ _ h => h) (Or.inl ⟨by rfl, ?_⟩) (by assumption) ?_
          rotate_left
          · (intro w hSw; (try dsimp only at hSw); go_simp; try with_reducible rfl)
          (try simp only [Act.put, List.setIfInBounds_toArray, List.set_cons_zero, List.set_cons_succ])
          refine wpAnyH_done (by kernel_rfl) ?_ _
          have hrx := hrdx _ HM.out
          have hm5 := (HM.out.cons (rdL Ax nx lx) hrx)
          go_wp2_with fail
          go_meet
          exact ⟨Ax, nx, cx, lx, rfl, hx8, hxc, hxm, hxn, ((HM.out.cons (rdL A kd (lb.take kd)) (HM.out.rd 9 rfl)).cons (rdL Ax nx lx) hrx).sub2⟩
      · clear hHeld
        go_simp
        have hm9 := HM.out.alloc 5 #[.int .u8 4, .int .u8 0, .int .u8 0, .int .u8 0] ((msHead 4).map u8v) rfl
        generalize wy2.alloc (.cells #[.int .u8 4, .int .u8 0, .int .u8 0, .int .u8 0] 5) = wy3 at hm9 ⊢
        generalize wy2.heap.size = g4 at hm9 ⊢
        replace HM := Lib.hid (show Lows w [rdL (some ⟨g4, 0, none⟩) 4 (msHead 4), rdL E1 (msLen 1) (encB 1 m1), blkL (w.heap.size + 1 + 1) 36 m3.cells, blkL (w.heap.size + 1) 32 m2.cells, blkL w.heap.size 30 m1.cells, rdL A kd (lb.take kd)] wy3 from (hm9.cons (rdL (some ⟨g4, 0, none⟩) 4 (msHead 4)) (blk_all (hm9.blk 0 rfl) rfl)).tail 1)
        clear hm9
        refine hK.out _ _ (HM.out.tail 0) (fun hHeld => ?_)
        clear hK K
        (try simp only [Act.put, List.setIfInBounds_toArray, List.set_cons_zero, List.set_cons_succ])
        refine wpAnyH_stronger (T := fun W' => Lows w [rdL (some ⟨g4, 0, none⟩) 4 (msHead 4), rdL E1 (msLen 1) (encB 1 m1), blkL (w.heap.size + 1 + 1) 36 m3.cells, blkL (w.heap.size + 1) 32 m2.cells, blkL w.heap.size 30 m1.cells, rdL A kd (lb.take kd)] W') (fun _ h' => (h'.tail 0)) _ _ _ _ ?_
        replace hHeld := HM.out
        refine step_one 3 rfl (by kernel_rfl) (fun K hK => ?_)
        clear hHeld
        go_simp
        refine (RE2.out _).mono ?_
        rintro e wy4 ⟨E2, f2, rfl, hca, hcb, hr, hb⟩
        replace HM := Lib.hid (show Lows w [rdL E2 (msLen 2) (encB 2 m2), rdL (some ⟨g4, 0, none⟩) 4 (msHead 4), rdL E1 (msLen 1) (encB 1 m1), blkL (w.heap.size + 1 + 1) 36 m3.cells, blkL (w.heap.size + 1) 32 m2.cells, blkL w.heap.size 30 m1.cells, rdL A kd (lb.take kd)] wy4 from (HM.out.below hb).cons (rdL E2 (msLen 2) (encB 2 m2)) (hr))
        clear hb
        have HF2 := Lib.hid (And.intro hca hcb)
        clear hr hca hcb
        go_wp2_with fail
        refine hK.out _ _ (HM.out.tail 0) (fun hHeld => ?_)
        clear hK K
        (try simp only [Act.put, List.setIfInBounds_toArray, List.set_cons_zero, List.set_cons_succ])
        refine wpAnyH_stronger (T := fun W' => Lows w [rdL E2 (msLen 2) (encB 2 m2), rdL (some ⟨g4, 0, none⟩) 4 (msHead 4), rdL E1 (msLen 1) (encB 1 m1), blkL (w.heap.size + 1 + 1) 36 m3.cells, blkL (w.heap.size + 1) 32 m2.cells, blkL w.heap.size 30 m1.cells, rdL A kd (lb.take kd)] W') (fun _ h' => (h'.tail 0)) _ _ _ _ ?_
        replace hHeld := HM.out
        refine step_one 5 rfl (by kernel_rfl) (fun K hK => ?_)
        clear hHeld
        go_simp
        refine (RE3.out _).mono ?_
        rintro e wy5 ⟨E3, f3, rfl, hca, hcb, hr, hb⟩
        replace HM := Lib.hid (show Lows w [rdL E3 (msLen 3) (encB 3 m3), rdL E2 (msLen 2) (encB 2 m2), rdL (some ⟨g4, 0, none⟩) 4 (msHead 4), rdL E1 (msLen 1) (encB 1 m1), blkL (w.heap.size + 1 + 1) 36 m3.cells, blkL (w.heap.size + 1) 32 m2.cells, blkL w.heap.size 30 m1.cells, rdL A kd (lb.take kd)] wy5 from (HM.out.below hb).cons (rdL E3 (msLen 3) (encB 3 m3)) (hr))
        clear hb
        have HF3 := Lib.hid (And.intro hca hcb)
        clear hr hca hcb
        go_wp2_with fail
        refine hK.out _ _ (HM.out.tail 0) (fun hHeld => ?_)
        clear hK K
        (try simp only [Act.put, List.setIfInBounds_toArray, List.set_cons_zero, List.set_cons_succ])
        refine wpAnyH_stronger (T := fun W' => Lows w [rdL E3 (msLen 3) (encB 3 m3), rdL E2 (msLen 2) (encB 2 m2), rdL (some ⟨g4, 0, none⟩) 4 (msHead 4), rdL E1 (msLen 1) (encB 1 m1), blkL (w.heap.size + 1 + 1) 36 m3.cells, blkL (w.heap.size + 1) 32 m2.cells, blkL w.heap.size 30 m1.cells, rdL A kd (lb.take kd)] W') (fun _ h' => (h'.tail 0)) _ _ _ _ ?_
        replace hHeld := HM.out
        refine step_one 11 rfl (by kernel_rfl) (fun K hK => ?_)
        clear hHeld
        refine step_append_zeros_new _ (by rfl) (.tmp 25) (.tmp 29) 38 3 rfl 5 i0 .i64 .i64 Try.underlying38 Try.underlying3 hi hz0 hz1 hz2 g4 4 4 (msHead 4) _ rfl (HM.out.rd 2 rfl) z rfl (by omega) (by omega) (by omega) ?_
        intro c9 wy6 hown hg
        have hoa := own_addr hown
        have HC9 := Lib.hid (And.intro hoa.1 hoa.2.1)
        have hm9 := (HM.out.below ((Below.refl _ _).grown hg (Nat.le_refl _) (by simp))).cons (rdL _ _ _) (Rd.of_own hown)
        generalize wy5.heap.size = g9 at hm9 ⊢
        replace HM := Lib.hid (show Lows w [rdL (some ⟨g9, 0, none⟩) (4 + z) (msHead 4 ++ List.replicate z 0), rdL E3 (msLen 3) (encB 3 m3), rdL E2 (msLen 2) (encB 2 m2), rdL (some ⟨g4, 0, none⟩) 4 (msHead 4), rdL E1 (msLen 1) (encB 1 m1), blkL (w.heap.size + 1 + 1) 36 m3.cells, blkL (w.heap.size + 1) 32 m2.cells, blkL w.heap.size 30 m1.cells, rdL A kd (lb.take kd)] wy6 from hm9)
        clear hm9 hown hg hoa
        refine hK.out _ _ (HM.out.tail 0) (fun hHeld => ?_)
        clear hK K
        (try simp only [Act.put, List.setIfInBounds_toArray, List.set_cons_zero, List.set_cons_succ])
        refine wpAnyH_stronger (T := fun W' => Lows w [rdL (some ⟨g9, 0, none⟩) (4 + z) (msHead 4 ++ List.replicate z 0), rdL E3 (msLen 3) (encB 3 m3), rdL E2 (msLen 2) (encB 2 m2), rdL (some ⟨g4, 0, none⟩) 4 (msHead 4), rdL E1 (msLen 1) (encB 1 m1), blkL (w.heap.size + 1 + 1) 36 m3.cells, blkL (w.heap.size + 1) 32 m2.cells, blkL w.heap.size 30 m1.cells, rdL A kd (lb.take kd)] W') (fun _ h' => (h'.tail 0)) _ _ _ _ ?_
        replace hHeld := HM.out
        refine step_one 12 rfl (by kernel_rfl) (fun K hK => ?_)
        clear hHeld
        go_simp
        have hm9 := HM.out.alloc 38 #[.slice E1 (msLen 1) f1, .slice E2 (msLen 2) f2, .slice E3 (msLen 3) f3, .slice (some ⟨g9, 0, none⟩) (4 + z) c9] ([.slice E1 (msLen 1) f1, .slice E2 (msLen 2) f2, .slice E3 (msLen 3) f3, .slice (some ⟨g9, 0, none⟩) (4 + z) c9]) rfl
        generalize wy6.alloc (.cells #[.slice E1 (msLen 1) f1, .slice E2 (msLen 2) f2, .slice E3 (msLen 3) f3, .slice (some ⟨g9, 0, none⟩) (4 + z) c9] 38) = wy7 at hm9 ⊢
        generalize wy6.heap.size = g12 at hm9 ⊢
        replace HM := Lib.hid (show Lows w [blkL g12 38 ([.slice E1 (msLen 1) f1, .slice E2 (msLen 2) f2, .slice E3 (msLen 3) f3, .slice (some ⟨g9, 0, none⟩) (4 + z) c9]), rdL (some ⟨g9, 0, none⟩) (4 + z) (msHead 4 ++ List.replicate z 0), rdL E3 (msLen 3) (encB 3 m3), rdL E2 (msLen 2) (encB 2 m2), rdL (some ⟨g4, 0, none⟩) 4 (msHead 4), rdL E1 (msLen 1) (encB 1 m1), blkL (w.heap.size + 1 + 1) 36 m3.cells, blkL (w.heap.size + 1) 32 m2.cells, blkL w.heap.size 30 m1.cells, rdL A kd (lb.take kd)] wy7 from hm9)
        clear hm9
        refine hK.out _ _ (HM.out.tail 0) (fun hHeld => ?_)
        clear hK K
        (try simp only [Act.put, List.setIfInBounds_toArray, List.set_cons_zero, List.set_cons_succ])
        refine wpAnyH_stronger (T := fun W' => Lows w [blkL g12 38 ([.slice E1 (msLen 1) f1, .slice E2 (msLen 2) f2, .slice E3 (msLen 3) f3, .slice (some ⟨g9, 0, none⟩) (4 + z) c9]), rdL (some ⟨g9, 0, none⟩) (4 + z) (msHead 4 ++ List.replicate z 0), rdL E3 (msLen 3) (encB 3 m3), rdL E2 (msLen 2) (encB 2 m2), rdL (some ⟨g4, 0, none⟩) 4 (msHead 4), rdL E1 (msLen 1) (encB 1 m1), blkL (w.heap.size + 1 + 1) 36 m3.cells, blkL (w.heap.size + 1) 32 m2.cells, blkL w.heap.size 30 m1.cells, rdL A kd (lb.take kd)] W') (fun _ h' => (h'.tail 0)) _ _ _ _ ?_
        replace hHeld := HM.out
        have HIX : ∃ Ax nx cx lx, 8 ≤ nx ∧ nx ≤ cx ∧ cx ≤ maxLen ∧ nx ≤ 3000 ∧ (∀ W, Lows w [blkL g12 38 ([.slice E1 (msLen 1) f1, .slice E2 (msLen 2) f2, .slice E3 (msLen 3) f3, .slice (some ⟨g9, 0, none⟩) (4 + z) c9]), rdL (some ⟨g9, 0, none⟩) (4 + z) (msHead 4 ++ List.replicate z 0), rdL E3 (msLen 3) (encB 3 m3), rdL E2 (msLen 2) (encB 2 m2), rdL (some ⟨g4, 0, none⟩) 4 (msHead 4), rdL E1 (msLen 1) (encB 1 m1), blkL (w.heap.size + 1 + 1) 36 m3.cells, blkL (w.heap.size + 1) 32 m2.cells, blkL w.heap.size 30 m1.cells, rdL A kd (lb.take kd)] W → W.cell? ⟨g12, j, none⟩ = some (.slice Ax nx cx)) ∧ (∀ W, Lows w [blkL g12 38 ([.slice E1 (msLen 1) f1, .slice E2 (msLen 2) f2, .slice E3 (msLen 3) f3, .slice (some ⟨g9, 0, none⟩) (4 + z) c9]), rdL (some ⟨g9, 0, none⟩) (4 + z) (msHead 4 ++ List.replicate z 0), rdL E3 (msLen 3) (encB 3 m3), rdL E2 (msLen 2) (encB 2 m2), rdL (some ⟨g4, 0, none⟩) 4 (msHead 4), rdL E1 (msLen 1) (encB 1 m1), blkL (w.heap.size + 1 + 1) 36 m3.cells, blkL (w.heap.size + 1) 32 m2.cells, blkL w.heap.size 30 m1.cells, rdL A kd (lb.take kd)] W → Rd W W.heap.size Ax nx lx) := by
          match j, hj4 with
          | 0, _ => exact ⟨E1, (msLen 1), f1, encB 1 m1, by decide, HF1.out.1, HF1.out.2, by decide, fun W hW => (hW.blk 0 rfl).cell 0, fun W hW => hW.rd 5 rfl⟩
          | 1, _ => exact ⟨E2, (msLen 2), f2, encB 2 m2, by decide, HF2.out.1, HF2.out.2, by decide, fun W hW => (hW.blk 0 rfl).cell 1, fun W hW => hW.rd 3 rfl⟩
          | 2, _ => exact ⟨E3, (msLen 3), f3, encB 3 m3, by decide, HF3.out.1, HF3.out.2, by decide, fun W hW => (hW.blk 0 rfl).cell 2, fun W hW => hW.rd 2 rfl⟩
          | 3, _ => exact ⟨(some ⟨g9, 0, none⟩), (4 + z), c9, msHead 4 ++ List.replicate z 0, by omega, HC9.out.1, HC9.out.2, by omega, fun W hW => (hW.blk 0 rfl).cell 3, fun W hW => hW.rd 1 rfl⟩
          | j + 4, hj => exact absurd hj (by omega)
        obtain ⟨Ax, nx, cx, lx, hx8, hxc, hxm, hxn, hcell, hrdx⟩ := HIX
        refine take_first (v := ?_) 15 rfl (by kernel_rfl) (by kernel_rfl) (by kernel_rfl) (fun _ _ _ h => h) (Or.inl ⟨by rfl, ?_⟩) (by assumption) ?_
        rotate_left
        · (intro w hSw; (try dsimp only at hSw); go_simp; try with_reducible rfl)
        (try simp only [Act.put, List.setIfInBounds_toArray, List.set_cons_zero, List.set_cons_succ])
        refine take_first (v := ?_) 16 rfl (by kernel_rfl) (by kernel_rfl) (by kernel_rfl) (fun _ _ _ h => h) (Or.inl ⟨by rfl, ?_⟩) (by assumption) ?_
        rotate_left
        · (intro w hSw; (try dsimp only at hSw); have fc := hcell _ hSw; go_simp; try with_reducible rfl)
        (try simp only [Act.put, List.setIfInBounds_toArray, List.set_cons_zero, List.set_cons_succ])
        refine take_first (v := ?_) 17 rfl (by kernel_rfl) (by kernel_rfl) (by kernel_rfl) (fun _ _ _ h => h) (Or.inl ⟨by rfl, ?_⟩) (by assumption) ?_
        rotate_left
        · (intro w hSw; (try dsimp only at hSw); go_simp; try with_reducible rfl)
        (try simp only [Act.put, List.setIfInBounds_toArray, List.set_cons_zero, List.set_cons_succ])
        refine wpAnyH_done (by kernel_rfl) ?_ _
        have hrx := hrdx _ HM.out
        have hm5 := (HM.out.cons (rdL Ax nx lx) hrx)
        go_wp2_with fail
        go_meet
        exact ⟨Ax, nx, cx, lx, rfl, hx8, hxc, hxm, hxn, ((HM.out.cons (rdL A kd (lb.take kd)) (HM.out.rd 9 rfl)).cons (rdL Ax nx lx) hrx).sub2⟩
    · clear hHeld
      go_simp
      have hm9 := HM.out.alloc 5 #[.int .u8 4, .int .u8 0, .int .u8 0, .int .u8 0] ((msHead 4).map u8v) rfl
      generalize wd1.alloc (.cells #[.int .u8 4, .int .u8 0, .int .u8 0, .int .u8 0] 5) = wy2 at hm9 ⊢
      generalize wd1.heap.size = g4 at hm9 ⊢
      replace HM := Lib.hid (show Lows w [rdL (some ⟨g4, 0, none⟩) 4 (msHead 4), blkL (w.heap.size + 1 + 1) 36 m3.cells, blkL (w.heap.size + 1) 32 m2.cells, blkL w.heap.size 30 m1.cells, rdL A kd (lb.take kd)] wy2 from (hm9.cons (rdL (some ⟨g4, 0, none⟩) 4 (msHead 4)) (blk_all (hm9.blk 0 rfl) rfl)).tail 1)
      clear hm9
      refine hK.out _ _ (HM.out.tail 0) (fun hHeld => ?_)
      clear hK K
      (try simp only [Act.put, List.setIfInBounds_toArray, List.set_cons_zero, List.set_cons_succ])
      refine wpAnyH_stronger (T := fun W' => Lows w [rdL (some ⟨g4, 0, none⟩) 4 (msHead 4), blkL (w.heap.size + 1 + 1) 36 m3.cells, blkL (w.heap.size + 1) 32 m2.cells, blkL w.heap.size 30 m1.cells, rdL A kd (lb.take kd)] W') (fun _ h' => (h'.tail 0)) _ _ _ _ ?_
      replace hHeld := HM.out
      refine step_one 1 rfl (by kernel_rfl) (fun K hK => ?_)
      clear hHeld
      go_simp
      refine (RE1.out _).mono ?_
      rintro e wy3 ⟨E1, f1, rfl, hca, hcb, hr, hb⟩
      replace HM := Lib.hid (show Lows w [rdL E1 (msLen 1) (encB 1 m1), rdL (some ⟨g4, 0, none⟩) 4 (msHead 4), blkL (w.heap.size + 1 + 1) 36 m3.cells, blkL (w.heap.size + 1) 32 m2.cells, blkL w.heap.size 30 m1.cells, rdL A kd (lb.take kd)] wy3 from (HM.out.below hb).cons (rdL E1 (msLen 1) (encB 1 m1)) (hr))
      clear hb
      have HF1 := Lib.hid (And.intro hca hcb)
      clear hr hca hcb
      go_wp2_with fail
      refine hK.out _ _ (HM.out.tail 0) (fun hHeld => ?_)
      clear hK K
      (try simp only [Act.put, List.setIfInBounds_toArray, List.set_cons_zero, List.set_cons_succ])
      refine wpAnyH_stronger (T := fun W' => Lows w [rdL E1 (msLen 1) (encB 1 m1), rdL (some ⟨g4, 0, none⟩) 4 (msHead 4), blkL (w.heap.size + 1 + 1) 36 m3.cells, blkL (w.heap.size + 1) 32 m2.cells, blkL w.heap.size 30 m1.cells, rdL A kd (lb.take kd)] W') (fun _ h' => (h'.tail 0)) _ _ _ _ ?_
      replace hHeld := HM.out
      refine step_one 3 rfl (by kernel_rfl) (fun K hK => ?_)
      clear hHeld
      go_simp
      refine (RE2.out _).mono ?_
      rintro e wy4 ⟨E2, f2, rfl, hca, hcb, hr, hb⟩
      replace HM := Lib.hid (show Lows w [rdL E2 (msLen 2) (encB 2 m2), rdL E1 (msLen 1) (encB 1 m1), rdL (some ⟨g4, 0, none⟩) 4 (msHead 4), blkL (w.heap.size + 1 + 1) 36 m3.cells, blkL (w.heap.size + 1) 32 m2.cells, blkL w.heap.size 30 m1.cells, rdL A kd (lb.take kd)] wy4 from (HM.out.below hb).cons (rdL E2 (msLen 2) (encB 2 m2)) (hr))
      clear hb
      have HF2 := Lib.hid (And.intro hca hcb)
      clear hr hca hcb
      go_wp2_with fail
      refine hK.out _ _ (HM.out.tail 0) (fun hHeld => ?_)
      clear hK K
      (try simp only [Act.put, List.setIfInBounds_toArray, List.set_cons_zero, List.set_cons_succ])
      refine wpAnyH_stronger (T := fun W' => Lows w [rdL E2 (msLen 2) (encB 2 m2), rdL E1 (msLen 1) (encB 1 m1), rdL (some ⟨g4, 0, none⟩) 4 (msHead 4), blkL (w.heap.size + 1 + 1) 36 m3.cells, blkL (w.heap.size + 1) 32 m2.cells, blkL w.heap.size 30 m1.cells, rdL A kd (lb.take kd)] W') (fun _ h' => (h'.tail 0)) _ _ _ _ ?_
      replace hHeld := HM.out
      refine step_one 5 rfl (by kernel_rfl) (fun K hK => ?_)
      clear hHeld
      go_simp
      refine (RE3.out _).mono ?_
      rintro e wy5 ⟨E3, f3, rfl, hca, hcb, hr, hb⟩
      replace HM := Lib.hid (show Lows w [rdL E3 (msLen 3) (encB 3 m3), rdL E2 (msLen 2) (encB 2 m2), rdL E1 (msLen 1) (encB 1 m1), rdL (some ⟨g4, 0, none⟩) 4 (msHead 4), blkL (w.heap.size + 1 + 1) 36 m3.cells, blkL (w.heap.size + 1) 32 m2.cells, blkL w.heap.size 30 m1.cells, rdL A kd (lb.take kd)] wy5 from (HM.out.below hb).cons (rdL E3 (msLen 3) (encB 3 m3)) (hr))
      clear hb
      have HF3 := Lib.hid (And.intro hca hcb)
      clear hr hca hcb
      go_wp2_with fail
      refine hK.out _ _ (HM.out.tail 0) (fun hHeld => ?_)
      clear hK K
      (try simp only [Act.put, List.setIfInBounds_toArray, List.set_cons_zero, List.set_cons_succ])
      refine wpAnyH_stronger (T := fun W' => Lows w [rdL E3 (msLen 3) (encB 3 m3), rdL E2 (msLen 2) (encB 2 m2), rdL E1 (msLen 1) (encB 1 m1), rdL (some ⟨g4, 0, none⟩) 4 (msHead 4), blkL (w.heap.size + 1 + 1) 36 m3.cells, blkL (w.heap.size + 1) 32 m2.cells, blkL w.heap.size 30 m1.cells, rdL A kd (lb.take kd)] W') (fun _ h' => (h'.tail 0)) _ _ _ _ ?_
      replace hHeld := HM.out
      refine step_one 11 rfl (by kernel_rfl) (fun K hK => ?_)
      clear hHeld
      refine step_append_zeros_new _ (by rfl) (.tmp 25) (.tmp 29) 38 3 rfl 5 i0 .i64 .i64 Try.underlying38 Try.underlying3 hi hz0 hz1 hz2 g4 4 4 (msHead 4) _ rfl (HM.out.rd 3 rfl) z rfl (by omega) (by omega) (by omega) ?_
      intro c9 wy6 hown hg
      have hoa := own_addr hown
      have HC9 := Lib.hid (And.intro hoa.1 hoa.2.1)
      have hm9 := (HM.out.below ((Below.refl _ _).grown hg (Nat.le_refl _) (by simp))).cons (rdL _ _ _) (Rd.of_own hown)
      generalize wy5.heap.size = g9 at hm9 ⊢
      replace HM := Lib.hid (show Lows w [rdL (some ⟨g9, 0, none⟩) (4 + z) (msHead 4 ++ List.replicate z 0), rdL E3 (msLen 3) (encB 3 m3), rdL E2 (msLen 2) (encB 2 m2), rdL E1 (msLen 1) (encB 1 m1), rdL (some ⟨g4, 0, none⟩) 4 (msHead 4), blkL (w.heap.size + 1 + 1) 36 m3.cells, blkL (w.heap.size + 1) 32 m2.cells, blkL w.heap.size 30 m1.cells, rdL A kd (lb.take kd)] wy6 from hm9)
      clear hm9 hown hg hoa
      refine hK.out _ _ (HM.out.tail 0) (fun hHeld => ?_)
      clear hK K
      (try simp only [Act.put, List.setIfInBounds_toArray, List.set_cons_zero, List.set_cons_succ])
      refine wpAnyH_stronger (T := fun W' => Lows w [rdL (some ⟨g9, 0, none⟩) (4 + z) (msHead 4 ++ List.replicate z 0), rdL E3 (msLen 3) (encB 3 m3), rdL E2 (msLen 2) (encB 2 m2), rdL E1 (msLen 1) (encB 1 m1), rdL (some ⟨g4, 0, none⟩) 4 (msHead 4), blkL (w.heap.size + 1 + 1) 36 m3.cells, blkL (w.heap.size + 1) 32 m2.cells, blkL w.heap.size 30 m1.cells, rdL A kd (lb.take kd)] W') (fun _ h' => (h'.tail 0)) _ _ _ _ ?_
      replace hHeld := HM.out
      refine step_one 12 rfl (by kernel_rfl) (fun K hK => ?_)
      clear hHeld
      go_simp
      have hm9 := HM.out.alloc 38 #[.slice E1 (msLen 1) f1, .slice E2 (msLen 2) f2, .slice E3 (msLen 3) f3, .slice (some ⟨g9, 0, none⟩) (4 + z) c9] ([.slice E1 (msLen 1) f1, .slice E2 (msLen 2) f2, .slice E3 (msLen 3) f3, .slice (some ⟨g9, 0, none⟩) (4 + z) c9]) rfl
      generalize wy6.alloc (.cells #[.slice E1 (msLen 1) f1, .slice E2 (msLen 2) f2, .slice E3 (msLen 3) f3, .slice (some ⟨g9, 0, none⟩) (4 + z) c9] 38) = wy7 at hm9 ⊢
      generalize wy6.heap.size = g12 at hm9 ⊢
      replace HM := Lib.hid (show Lows w [blkL g12 38 ([.slice E1 (msLen 1) f1, .slice E2 (msLen 2) f2, .slice E3 (msLen 3) f3, .slice (some ⟨g9, 0, none⟩) (4 + z) c9]), rdL (some ⟨g9, 0, none⟩) (4 + z) (msHead 4 ++ List.replicate z 0), rdL E3 (msLen 3) (encB 3 m3), rdL E2 (msLen 2) (encB 2 m2), rdL E1 (msLen 1) (encB 1 m1), rdL (some ⟨g4, 0, none⟩) 4 (msHead 4), blkL (w.heap.size + 1 + 1) 36 m3.cells, blkL (w.heap.size + 1) 32 m2.cells, blkL w.heap.size 30 m1.cells, rdL A kd (lb.take kd)] wy7 from hm9)
      clear hm9
      refine hK.out _ _ (HM.out.tail 0) (fun hHeld => ?_)
      clear hK K
      (try simp only [Act.put, List.setIfInBounds_toArray, List.set_cons_zero, List.set_cons_succ])
      refine wpAnyH_stronger (T := fun W' => Lows w [blkL g12 38 ([.slice E1 (msLen 1) f1, .slice E2 (msLen 2) f2, .slice E3 (msLen 3) f3, .slice (some ⟨g9, 0, none⟩) (4 + z) c9]), rdL (some ⟨g9, 0, none⟩) (4 + z) (msHead 4 ++ List.replicate z 0), rdL E3 (msLen 3) (encB 3 m3), rdL E2 (msLen 2) (encB 2 m2), rdL E1 (msLen 1) (encB 1 m1), rdL (some ⟨g4, 0, none⟩) 4 (msHead 4), blkL (w.heap.size + 1 + 1) 36 m3.cells, blkL (w.heap.size + 1) 32 m2.cells, blkL w.heap.size 30 m1.cells, rdL A kd (lb.take kd)] W') (fun _ h' => (h'.tail 0)) _ _ _ _ ?_
      replace hHeld := HM.out
      have HIX : ∃ Ax nx cx lx, 8 ≤ nx ∧ nx ≤ cx ∧ cx ≤ maxLen ∧ nx ≤ 3000 ∧ (∀ W, Lows w [blkL g12 38 ([.slice E1 (msLen 1) f1, .slice E2 (msLen 2) f2, .slice E3 (msLen 3) f3, .slice (some ⟨g9, 0, none⟩) (4 + z) c9]), rdL (some ⟨g9, 0, none⟩) (4 + z) (msHead 4 ++ List.replicate z 0), rdL E3 (msLen 3) (encB 3 m3), rdL E2 (msLen 2) (encB 2 m2), rdL E1 (msLen 1) (encB 1 m1), rdL (some ⟨g4, 0, none⟩) 4 (msHead 4), blkL (w.heap.size + 1 + 1) 36 m3.cells, blkL (w.heap.size + 1) 32 m2.cells, blkL w.heap.size 30 m1.cells, rdL A kd (lb.take kd)] W → W.cell? ⟨g12, j, none⟩ = some (.slice Ax nx cx)) ∧ (∀ W, Lows w [blkL g12 38 ([.slice E1 (msLen 1) f1, .slice E2 (msLen 2) f2, .slice E3 (msLen 3) f3, .slice (some ⟨g9, 0, none⟩) (4 + z) c9]), rdL (some ⟨g9, 0, none⟩) (4 + z) (msHead 4 ++ List.replicate z 0), rdL E3 (msLen 3) (encB 3 m3), rdL E2 (msLen 2) (encB 2 m2), rdL E1 (msLen 1) (encB 1 m1), rdL (some ⟨g4, 0, none⟩) 4 (msHead 4), blkL (w.heap.size + 1 + 1) 36 m3.cells, blkL (w.heap.size + 1) 32 m2.cells, blkL w.heap.size 30 m1.cells, rdL A kd (lb.take kd)] W → Rd W W.heap.size Ax nx lx) := by
        match j, hj4 with
        | 0, _ => exact ⟨E1, (msLen 1), f1, encB 1 m1, by decide, HF1.out.1, HF1.out.2, by decide, fun W hW => (hW.blk 0 rfl).cell 0, fun W hW => hW.rd 4 rfl⟩
        | 1, _ => exact ⟨E2, (msLen 2), f2, encB 2 m2, by decide, HF2.out.1, HF2.out.2, by decide, fun W hW => (hW.blk 0 rfl).cell 1, fun W hW => hW.rd 3 rfl⟩
        | 2, _ => exact ⟨E3, (msLen 3), f3, encB 3 m3, by decide, HF3.out.1, HF3.out.2, by decide, fun W hW => (hW.blk 0 rfl).cell 2, fun W hW => hW.rd 2 rfl⟩
        | 3, _ => exact ⟨(some ⟨g9, 0, none⟩), (4 + z), c9, msHead 4 ++ List.replicate z 0, by omega, HC9.out.1, HC9.out.2, by omega, fun W hW => (hW.blk 0 rfl).cell 3, fun W hW => hW.rd 1 rfl⟩
        | j + 4, hj => exact absurd hj (by omega)
      obtain ⟨Ax, nx, cx, lx, hx8, hxc, hxm, hxn, hcell, hrdx⟩ := HIX
      refine take_first (v := ?_) 15 rfl (by kernel_rfl) (by kernel_rfl) (by kernel_rfl) (fun _ _ _ h => h) (Or.inl ⟨by rfl, ?_⟩) (by assumption) ?_
      rotate_left
      · (intro w hSw; (try dsimp only at hSw); go_simp; try with_reducible rfl)
      (try simp only [Act.put, List.setIfInBounds_toArray, List.set_cons_zero, List.set_cons_succ])
      refine take_first (v := ?_) 16 rfl (by kernel_rfl) (by kernel_rfl) (by kernel_rfl) (fun _ _ _ h => h) (Or.inl ⟨by rfl, ?_⟩) (by assumption) ?_
      rotate_left
      · (intro w hSw; (try dsimp only at hSw); have fc := hcell _ hSw; go_simp; try with_reducible rfl)
      (try simp only [Act.put, List.setIfInBounds_toArray, List.set_cons_zero, List.set_cons_succ])
      refine take_first (v := ?_) 17 rfl (by kernel_rfl) (by kernel_rfl) (by kernel_rfl) (fun _ _ _ h => h) (Or.inl ⟨by rfl, ?_⟩) (by assumption) ?_
      rotate_left
      · (intro w hSw; (try dsimp only at hSw); go_simp; try with_reducible rfl)
      (try simp only [Act.put, List.setIfInBounds_toArray, List.set_cons_zero, List.set_cons_succ])
      refine wpAnyH_done (by kernel_rfl) ?_ _
      have hrx := hrdx _ HM.out
      have hm5 := (HM.out.cons (rdL Ax nx lx) hrx)
      go_wp2_with fail
      go_meet
      exact ⟨Ax, nx, cx, lx, rfl, hx8, hxc, hxm, hxn, ((HM.out.cons (rdL A kd (lb.take kd)) (HM.out.rd 9 rfl)).cons (rdL Ax nx lx) hrx).sub2⟩
  case rest =>
    clear HM
    revert wc
    intro w2 hcut
    obtain ⟨Ax, nx, cx, lx, rfl, hx8, hxc, hxm, hxn, hM⟩ := hcut
    have HMA := Lib.hid hM
    have HM := Lib.hid (show Lows w2 [rdL A kd (lb.take kd), rdL Ax nx lx] w2 from ((Lows.nil w2).cons (rdL Ax nx lx) (hM.rd 0 rfl)).cons (rdL A kd (lb.take kd)) (hM.rd 1 rfl))
    clear hM
    have HM0 := HM
    obtain ⟨hia, hib, hwh, hkd, hcm, hnc⟩ := HNUM.out
    go_upto_region 3 with (refine wpList_append_rd _ rfl (.const (.slice none 0 0)) (.tmp 36) 38 rfl w2.heap.size 5 i0 (.int .u8 0) Try.underlying38 hi hz0 hz1 hz2 rfl (.slice none 0 0) 0 [] rfl (World.ownsRow_nil _ _ _ _) _ _ _ _ _ rfl (HM.out.rd 1 rfl) (by omega) (Nat.le_refl _) ?_; intro v1 w3 hown hg)
    rw [Nat.zero_add, List.nil_append] at hown
    obtain ⟨A2, c2, rfl, -⟩ := own_slice hown
    have hoa := own_addr hown
    obtain ⟨g2, rfl⟩ := hoa.2.2 (by omega)
    have HC2 := Lib.hid (And.intro hoa.1 hoa.2.1)
    have hb2 : Below w2.heap.size w2 w3 := (Below.refl _ _).grown hg (Nat.le_refl _) (by intro k hk; cases hk)
    have hg2 := (hown.lt g2 rfl).1
    have hlx : lx.length = nx := (HM.out.rd 1 rfl).1
    obtain ⟨i, hii⟩ : ∃ i, ia % 8 = i := ⟨_, rfl⟩
    have hi8 : i < 8 := by omega
    have hiI : (ia : Int) % 8 = (i : Int) := by omega
    have hit : ((ia : Int)).tmod 8 = (i : Int) := by rw [Int.tmod_eq_emod_of_nonneg (by omega)]; exact hiI
    have hiw : IntKind.i64.wrap (ia : Int) = (ia : Int) := IntWalk.i64_in _ (by omega)
    have hiw2 : IntKind.i64.wrap (i : Int) = (i : Int) := IntWalk.i64_in _ (by omega)
    have hpi : (lx.map u8v)[i]? = some (.int .u8 ((lx.getD i 0).toNat : Int)) := by
      rw [List.getElem?_map, List.getElem?_eq_getElem (by omega)]
      simp [u8v, List.getD, show i < lx.length by omega]
    have fx := (hown.cellAt i (by omega)).trans hpi
    have zx := hown.frozenAt i
    have hst := hown.stored i (.int .u8 (((lx.getD i 0) ^^^ v).toNat : Int))
    have hxor := xor_bits (lx.getD i 0) v
    have hset : (lx.map u8v).set i (.int .u8 (((lx.getD i 0) ^^^ v).toNat : Int)) = (lx.set i (lx.getD i 0 ^^^ v)).map u8v := by rw [List.map_set]; rfl
    rw [hset] at hst
    clear hset hpi hown hg hoa hii
    generalize lx.getD i 0 = x0 at fx hst hxor
    generalize hy : x0 ^^^ v = y at hst hxor
    clear hy
    have HST := Lib.hid hst
    clear hst
    have hinx : (i : Int) < (nx : Int) := by omega
    go_upto_region 4 with fail
    clear fx zx hxor hiI hit hiw2 hinx
    generalize w3.setCell ⟨g2, i, none⟩ (.int .u8 (y.toNat : Int)) = w4 at HST ⊢
    have hb3 : Below w2.heap.size w2 w4 := hb2.grown HST.out.2 hb2.size (by intro k hk; injection hk with hk; omega)
    have hly0 : (lx.set i y).length = nx := by rw [List.length_set]; exact hlx
    generalize lx.set i y = ly at HST hly0
    replace HM := Lib.hid (show Lows w2 [rdL (some ⟨g2, 0, none⟩) nx ly, ownL w2.heap.size (.slice (some ⟨g2, 0, none⟩) nx c2) nx (ly.map u8v), rdL A kd (lb.take kd), rdL Ax nx lx] w4 from ((HM0.out.below hb3).cons (ownL w2.heap.size (.slice (some ⟨g2, 0, none⟩) nx c2) nx (ly.map u8v)) HST.out.1).cons (rdL (some ⟨g2, 0, none⟩) nx ly) (Rd.of_own HST.out.1))
    clear hb2 hb3 HST hi8 hlx
    go_wp2_with fail
    refine (HCU.out _).mono ?_
    rintro e w5 ⟨rfl, hb⟩
    replace HM := Lib.hid (HM.out.below hb)
    clear hb
    have D1 := Lib.hid (DD.out Ax nx cx lx hxc hxm (by omega))
    have D2 := Lib.hid (DD.out (some ⟨g2, 0, none⟩) nx c2 ly HC2.out.1 HC2.out.2 (by omega))
    go_wp2_with fail
    refine (D1.out _ (HM.out.rd 3 rfl)).mono ?_
    rintro e w6 ⟨rfl, hb⟩
    replace HM := Lib.hid (HM.out.below hb)
    clear hb
    go_wp2_with fail
    refine (D2.out _ (HM.out.rd 0 rfl)).mono ?_
    rintro e w7 ⟨rfl, hb⟩
    replace HM := Lib.hid (HM.out.below hb)
    clear hb
    obtain ⟨j, hj⟩ : ∃ j, ia % nx = j := ⟨_, rfl⟩
    have hjn : j ≤ nx := by have := Nat.mod_lt ia (show 0 < nx by omega); omega
    have hjI : (ia : Int) % (nx : Int) = (j : Int) := by omega
    have hjt : ((ia : Int)).tmod (nx : Int) = (j : Int) := by rw [Int.tmod_eq_emod_of_nonneg (by omega)]; exact hjI
    have hjw : IntKind.i64.wrap (j : Int) = (j : Int) := IntWalk.i64_in _ (by omega)
    have hnz : ¬ nx = 0 := by omega
    have hsl := slice_h (some ⟨g2, 0, none⟩) ⟨g2, 0, rfl⟩ nx c2 j (by have := HC2.out.1; omega) w7
    have D3 := Lib.hid (DD.out (some ⟨g2, 0, none⟩) j c2 (ly.take j) (by have := HC2.out.1; omega) HC2.out.2 (by omega))
    go_wp2_with fail
    refine (D3.out _ ((HM.out.rd 0 rfl).take hjn)).mono ?_
    rintro e w8 ⟨rfl, hb⟩
    replace HM := Lib.hid (HM.out.below hb)
    clear hb hsl hjI hjt hjw hnz hjn hj D1 D2 D3
    have hA8 := HM.out.alloc 5 #[.int .u8 (v.toNat : Int)] ([v].map u8v) rfl
    have HA8 := Lib.hid (show Lows w2 [blkL w8.heap.size 5 ([v].map u8v), rdL (some ⟨g2, 0, none⟩) nx ly, ownL w2.heap.size (.slice (some ⟨g2, 0, none⟩) nx c2) nx (ly.map u8v), rdL A kd (lb.take kd), rdL Ax nx lx] (w8.alloc (.cells #[.int .u8 (v.toNat : Int)] 5)) from hA8)
    clear hA8
    go_wp2_with (refine wpList_append_rd_g _ (by rfl) (.tmp 66) (.tmp 68) 38 rfl w2.heap.size 5 i0 (.int .u8 0) Try.underlying38 hi hz0 hz1 hz2 rfl (.slice (some ⟨g2, 0, none⟩) nx c2) nx (ly.map u8v) rfl (HA8.out.own 2 rfl) _ (some ⟨w8.heap.size, 0, none⟩) 1 1 [v] rfl (blk_all (HA8.out.blk 0 rfl) rfl) (by omega) HA8.out.size ?_; intro v9 w9 hown hg)
    rw [← List.map_append] at hown
    obtain ⟨A9, c9, rfl, -⟩ := own_slice hown
    have hoa := own_addr hown
    have HC9 := Lib.hid (And.intro hoa.1 hoa.2.1)
    have hb9 : Below w2.heap.size w2 w9 := HA8.out.bel.grown hg HA8.out.size (by intro k hk; exact Nat.le_trans hg2 (Nat.le_of_eq (by simpa [Value.ownBlock] using hk)))
    replace HM := Lib.hid (show Lows w2 [rdL A9 (nx + 1) (ly ++ [v]), rdL A kd (lb.take kd), rdL Ax nx lx] w9 from (HM0.out.below hb9).cons (rdL A9 (nx + 1) (ly ++ [v])) (Rd.of_own hown))
    clear hoa hb9 hown hg HA8
    have D4 := Lib.hid (DD.out A9 (nx + 1) c9 (ly ++ [v]) HC9.out.1 HC9.out.2 (by omega))
    have D5 := Lib.hid (DD.out A kd cb (lb.take kd) hkd.2 hcm (by omega))
    go_wp2_with fail
    refine (D4.out _ (HM.out.rd 0 rfl)).mono ?_
    rintro e w10 ⟨rfl, hb⟩
    replace HM := Lib.hid (HM.out.below hb)
    clear hb
    go_wp2_with fail
    refine (D5.out _ (HM.out.rd 1 rfl)).mono ?_
    rintro e w11 ⟨rfl, hb⟩
    replace HM := Lib.hid (HM.out.below hb)
    clear hb
    obtain ⟨x6, hx6⟩ : ∃ x : UInt8, x.toNat = wh % 6 := ⟨UInt8.ofNat (wh % 6), by rw [UInt8.toNat_ofNat']; exact Nat.mod_eq_of_lt (by omega)⟩
    have h6I : (wh : Int) % 6 = (x6.toNat : Int) := by omega
    have h6t : ((wh : Int)).tmod 6 = (x6.toNat : Int) := by rw [Int.tmod_eq_emod_of_nonneg (by omega)]; exact h6I
    clear hx6
    have HO6 := Lib.hid (World.ownsRow_lit (base := w11.heap.size) (e := 5) (size := 1) w11 #[.int .u8 (x6.toNat : Int), .int .u8 0, .int .u8 0, .int .u8 0] 4 (Nat.le_refl _) (by unfold maxLen; omega) rfl)
    have HB6 := Lib.hid (show Below w11.heap.size w11 (w11.alloc (.cells #[.int .u8 (x6.toNat : Int), .int .u8 0, .int .u8 0, .int .u8 0] 5)) from (Below.refl _ _).alloc (Nat.le_refl _) _)
    have HM6 := Lib.hid (HM.out.below HB6.out)
    go_wp2_with (refine wpList_append_rd_g _ (by rfl) (.tmp 79) (.tmp 80) 38 rfl w11.heap.size 5 i0 (.int .u8 0) Try.underlying38 hi hz0 hz1 hz2 rfl (.slice (some ⟨w11.heap.size, 0, none⟩) 4 4) 4 (([x6, 0, 0, 0] : List UInt8).map u8v) rfl HO6.out _ A kd cb (lb.take kd) rfl (HM6.out.rd 1 rfl) (by omega) HB6.out.size ?_; intro v12 w12 hown hg)
    rw [← List.map_append] at hown
    obtain ⟨A7, c7, rfl, -⟩ := own_slice hown
    have hoa := own_addr hown
    have HC7 := Lib.hid (And.intro hoa.1 hoa.2.1)
    have hb9 : Below w11.heap.size w11 w12 := HB6.out.grown hg HB6.out.size (by intro k hk; exact Nat.le_of_eq (by simpa [Value.ownBlock] using hk))
    have HM7 := Lib.hid (show Lows w2 [rdL A7 (4 + kd) ([x6, 0, 0, 0] ++ lb.take kd)] w12 from (show Lows w2 [] w12 from ⟨fun f hf => absurd hf (by simp), (HM.out.below hb9).bel⟩).cons (rdL A7 (4 + kd) ([x6, 0, 0, 0] ++ lb.take kd)) (Rd.of_own hown))
    replace HM := HM7
    clear hoa hb9 hown hg HO6 HB6 HM6 HM7 h6I h6t D4 D5
    have D6 := Lib.hid (DD.out A7 (4 + kd) c7 ([x6, 0, 0, 0] ++ lb.take kd) HC7.out.1 HC7.out.2 (by omega))
    go_wp2_with fail
    refine (D6.out _ (HM.out.rd 0 rfl)).mono ?_
    rintro e w13 ⟨rfl, hb⟩
    replace HM := Lib.hid (HM.out.below hb)
    clear hb
    go_wp2_with fail
    refine (HBG.out _).mono ?_
    rintro e w14 ⟨rfl, hb⟩
    have HF := Lib.hid (HMA.out.below (HM.out.below hb).bel).bel
    clear hb HM
    go_wp2_with fail
    go_ret
    exact ⟨rfl, HF.out⟩
end Go.Proofs.Ytaolhndbpgjlcaa
