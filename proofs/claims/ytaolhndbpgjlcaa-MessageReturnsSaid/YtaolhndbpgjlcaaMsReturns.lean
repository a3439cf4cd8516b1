/-
  MessageReturns returns true for every input, and changes nothing that was there: the walk. No statement is proved here.
-/
import Derived.Test.YtaolhndbpgjlcaaMsUse
import Derived.Test.YtaolhndbpgjlcaaCaseCut
import Derived.Test.YtaolhndbpgjlcaaMakeG
import Derived.Test.YtaolhndbpgjlcaaRdKept
import Derived.Test.YtaolhndbpgjlcaaMsSame
import Derived.Test.YtaolhndbpgjlcaaAppZ
namespace Go.Proofs.Ytaolhndbpgjlcaa
open Go.RowKit

/-- a row of bytes of the call's own is no block of another type -/
theorem own_blk_ne {W : World} {base e n g c : Nat} {t : TypeId} {xs cs : List Value} (h : W.ownsRow base e 1 (.slice (some ⟨g, 0, none⟩) n c) n xs) (hb : Blk W g t cs) (hne : e ≠ t) : False := by
  rcases h.2 with ⟨hv, _⟩ | ⟨g', cap, cur, hv, _, hg, _⟩
  · cases hv
  · simp only [Value.slice.injEq, Option.some.injEq, Addr.mk.injEq] at hv
    obtain ⟨⟨rfl, -, -⟩, -, -⟩ := hv
    unfold Blk at hb
    rw [hg] at hb
    injection hb with hb
    injection hb with h1 h2 h3
    exact hne h2
theorem own_mono {W : World} {base base' e n : Nat} {v : Value} {xs : List Value} (h : W.ownsRow base e 1 v n xs) (hb : base' ≤ base) : W.ownsRow base' e 1 v n xs :=
  ⟨h.1, h.2.imp id fun ⟨g, cap, cur, h1, h2, h3⟩ => ⟨g, cap, cur, h1, Nat.le_trans hb h2, h3⟩⟩
set_option maxRecDepth 100000 in
set_option maxHeartbeats 16000000 in
theorem ms_returns_walk (HKN : MsKindC 22) (HEA : MsEncC 9 1) (HEB : MsEncC 11 2) (HEC : MsEncC 13 3) (HET : MsEncTC 7) (HDA : MsDecC 17 1) (HDB : MsDecC 18 2) (HDC : MsDecC 19 3) (HDT : MsDecTC 20) (w : World) (m1 m2 m3 : MsgM) (r q : Nat) (A : Option Addr) (nb cb : Nat) (lb : List UInt8) (hok1 : m1.ok 1) (hok2 : m2.ok 2) (hok3 : m3.ok 3) (hr32 : r ≤ 4294967295) (hq64 : q ≤ 18446744073709551615) (hnc : nb ≤ cb) (hcm : cb ≤ maxLen) (hrb : Rd w w.heap.size A nb lb) :
    Calls Try.prog 5 #[.agg m1.cells.toArray, .agg m2.cells.toArray, .agg m3.cells.toArray, .int .u32 (r : Int), .int .u64 (q : Int), .slice A nb cb] w fun e w' => e = .returned (.bool true) ∧ Below w.heap.size w w' := by
  obtain ⟨i0, hi, hz0, hz1, hz2⟩ := info_parts Try.info5
  have HBG := Lib.hid (ms_begun_any HET HKN)
  have HKN0 := Lib.hid HKN
  have HDA0 := Lib.hid HDA
  have HDB0 := Lib.hid HDB
  have HDC0 := Lib.hid HDC
  have HDT0 := Lib.hid HDT
  have HET0 := Lib.hid HET
  have EA := Lib.hid (HEA m1 hok1)
  have EB := Lib.hid (HEB m2 hok2)
  have EC := Lib.hid (HEC m3 hok3)
  have HQ := Lib.hid (And.intro (decB_enc (k := 1) (by omega) hok1) (And.intro (decB_enc (k := 2) (by omega) hok2) (And.intro (decB_enc (k := 3) (by omega) hok3) (And.intro (decB_other (k := 1) (j := 2) (by omega) (by omega) hok1) (And.intro (encB_kind (k := 1) (by omega) hok1) (And.intro (encB_kind (k := 2) (by omega) hok2) (encB_kind (k := 3) (by omega) hok3)))))))
  have hl1 := MsgM.cells_length hok1
  have HL1 := Lib.hid hl1
  have HU1 := Lib.hid (show (Try.prog.info? 30).map (·.size) = some m1.cells.length from by rw [hl1]; kernel_rfl)
  have HS1 := Lib.hid (msg_same1 m1 hok1)
  obtain ⟨cm1, hc1⟩ : ∃ z, m1.cells.toArray = z := ⟨_, rfl⟩
  rw [hc1] at EA HS1
  have HC1 := Lib.hid hc1
  have hl2 := MsgM.cells_length hok2
  have HL2 := Lib.hid hl2
  have HU2 := Lib.hid (show (Try.prog.info? 32).map (·.size) = some m2.cells.length from by rw [hl2]; kernel_rfl)
  have HS2 := Lib.hid (msg_same2 m2 hok2)
  obtain ⟨cm2, hc2⟩ : ∃ z, m2.cells.toArray = z := ⟨_, rfl⟩
  rw [hc2] at EB HS2
  have HC2 := Lib.hid hc2
  have hl3 := MsgM.cells_length hok3
  have HL3 := Lib.hid hl3
  have HU3 := Lib.hid (show (Try.prog.info? 36).map (·.size) = some m3.cells.length from by rw [hl3]; kernel_rfl)
  have HS3 := Lib.hid (msg_same3 m3 hok3)
  obtain ⟨cm3, hc3⟩ : ∃ z, m3.cells.toArray = z := ⟨_, rfl⟩
  rw [hc3] at EC HS3
  have HC3 := Lib.hid hc3
  obtain ⟨cz2, hcz2⟩ : ∃ z, (msg0 2).cells.toArray = z := ⟨_, rfl⟩
  have HZ2 := Lib.hid hcz2
  have HLZ2 := Lib.hid (MsgM.cells_length (msg0_ok 2))
  have HUZ2 := Lib.hid (show (Try.prog.info? 32).map (·.size) = some (msg0 2).cells.length from by rw [HLZ2.out]; kernel_rfl)
  obtain ⟨cz3, hcz3⟩ : ∃ z, (msg0 3).cells.toArray = z := ⟨_, rfl⟩
  have HZ3 := Lib.hid hcz3
  have HLZ3 := Lib.hid (MsgM.cells_length (msg0_ok 3))
  have HUZ3 := Lib.hid (show (Try.prog.info? 36).map (·.size) = some (msg0 3).cells.length from by rw [HLZ3.out]; kernel_rfl)
  rw [hc1, hc2, hc3]
  obtain ⟨kd, hk⟩ : ∃ k, min nb 60 = k := ⟨_, rfl⟩
  have HCU := Lib.hid (caseCut_any A nb cb 60 kd (by omega) hnc hcm hk)
  have hkd : kd ≤ 60 := by omega
  have HM0 := Lib.hid (show Lows w [blkL (w.heap.size + 1 + 1) 36 m3.cells, blkL (w.heap.size + 1) 32 m2.cells, blkL w.heap.size 30 m1.cells, rdL A kd (lb.take kd)] (((w.alloc (.cells cm1 30)).alloc (.cells cm2 32)).alloc (.cells cm3 36)) from by
    have h := (((((Lows.nil w).cons (rdL A kd (lb.take kd)) (hrb.take (show kd ≤ nb by omega))).alloc 30 cm1 _ hc1.symm).alloc 32 cm2 _ hc2.symm).alloc 36 cm3 _ hc3.symm)
    simpa using h)
  have HBL := Lib.hid (show (List.replicate 16 (0 : UInt8) ++ lb.take kd).length = 16 + kd from by rw [List.length_append, List.length_replicate, List.length_take, hrb.1]; omega)
  have HT := Lib.hid (And.intro (encT_some (m := ⟨r, q, (List.replicate 16 (0 : UInt8) ++ lb.take kd)⟩) (by show 16 ≤ (List.replicate 16 (0 : UInt8) ++ lb.take kd).length; rw [HBL.out]; omega) (by show (List.replicate 16 (0 : UInt8) ++ lb.take kd).length ≤ 2084; rw [HBL.out]; omega)) (And.intro (encT_kind (m := ⟨r, q, (List.replicate 16 (0 : UInt8) ++ lb.take kd)⟩) (by show 16 ≤ (List.replicate 16 (0 : UInt8) ++ lb.take kd).length; rw [HBL.out]; omega) (by show (List.replicate 16 (0 : UInt8) ++ lb.take kd).length ≤ 2084; rw [HBL.out]; omega)) (decT_enc (m := ⟨r, q, (List.replicate 16 (0 : UInt8) ++ lb.take kd)⟩) (by show 16 ≤ (List.replicate 16 (0 : UInt8) ++ lb.take kd).length; rw [HBL.out]; omega) (by show (List.replicate 16 (0 : UInt8) ++ lb.take kd).length ≤ 2084; rw [HBL.out]; omega) (by show r < _; omega) (by show q < _; omega))))
  have HTL := Lib.hid (show (encT ⟨r, q, (List.replicate 16 (0 : UInt8) ++ lb.take kd)⟩).1.length = 32 + kd from by rw [encT_length, if_neg (by show ¬ (List.replicate 16 (0 : UInt8) ++ lb.take kd).length < 16; rw [HBL.out]; omega), if_neg (by show ¬ 2084 < (List.replicate 16 (0 : UInt8) ++ lb.take kd).length; rw [HBL.out]; omega)]; show 16 + (List.replicate 16 (0 : UInt8) ++ lb.take kd).length = _; rw [HBL.out]; omega)
  have hrq : r < 4294967296 ∧ q < 18446744073709551616 := by omega
  clear HKN HEA HEB HEC HET HDA HDB HDC HDT hok1 hok2 hok3 hl1 hl2 hl3 hc1 hc2 hc3 hcz2 hcz3 hk hnc hcm hrb hr32 hq64
  go_enter Try.func5, Try.ntmps5
  go_upto_region 1 with fail
  generalize (((w.alloc (.cells cm1 30)).alloc (.cells cm2 32)).alloc (.cells cm3 36)) = w1 at HM0 ⊢
  have HL := HM0
  clear HM0
  have HM := Lib.hid (Lows.nil w1)
  go_cut [13] (fun p' wx => ∃ P13 g9 c9, p' = .pointer (some ⟨P13, 0, none⟩) ∧ 16 + kd ≤ c9 ∧ c9 ≤ maxLen ∧ Lows w [blkL P13 40 (tranC r q (some ⟨g9, 0, none⟩) (16 + kd) c9), rdL (some ⟨g9, 0, none⟩) (16 + kd) (List.replicate 16 (0 : UInt8) ++ lb.take kd), blkL (w.heap.size + 1 + 1) 36 m3.cells, blkL (w.heap.size + 1) 32 m2.cells, blkL w.heap.size 30 m1.cells, rdL A kd (lb.take kd)] wx)
  case first =>
    refine wp_region_held_drew (S := fun W' => Lows w1 [] W') (by kernel_rfl) (HM.out.drew) (fun hHeld => ?_)
    replace HM := Lib.hid HM.out.drew
    generalize w1.drew = wd1 at HM hHeld ⊢
    refine take_first (v := ?_) 0 rfl (by kernel_rfl) (by kernel_rfl) (by kernel_rfl) (fun _ _ _ h => h) (Or.inl ⟨by rfl, ?_⟩) (by assumption) ?_
    rotate_left
    · (intro w hSw; (try dsimp only at hSw); go_simp; try with_reducible rfl)
    (try simp only [Act.put, List.setIfInBounds_toArray, List.set_cons_zero, List.set_cons_succ])
    refine take_first (v := ?_) 1 rfl (by kernel_rfl) (by kernel_rfl) (by kernel_rfl) (fun _ _ _ h => h) (Or.inl ⟨by rfl, ?_⟩) (by assumption) ?_
    rotate_left
    · (intro w hSw; (try dsimp only at hSw); go_simp; try with_reducible rfl)
    (try simp only [Act.put, List.setIfInBounds_toArray, List.set_cons_zero, List.set_cons_succ])
    refine take_first (v := ?_) 3 rfl (by kernel_rfl) (by kernel_rfl) (by kernel_rfl) (fun _ _ _ h => h) (Or.inl ⟨by rfl, ?_⟩) (by assumption) ?_
    rotate_left
    · (intro w hSw; (try dsimp only at hSw); go_simp; try with_reducible rfl)
    (try simp only [Act.put, List.setIfInBounds_toArray, List.set_cons_zero, List.set_cons_succ])
    refine step_three 2 4 7 rfl rfl rfl (by kernel_rfl) (fun K hK => ?_) (fun K hK => ?_) (fun K hK => ?_)
    · clear hHeld
      refine step_make_full_g _ (by rfl) (.const (.int .i64 16)) (.const (.int .i64 16)) 38 rfl wd1.heap.size 5 i0 (.int .u8 0) 1 Try.underlying38 hi hz0 hz1 .i64 .i64 16 rfl rfl (by rw [hz2]; omega) (by unfold maxLen; omega) (Nat.le_refl _) ?_
      intro wy2 hown hg
      rw [made_in] at hown
      have hb : Below wd1.heap.size wd1 wy2 := (Below.refl _ _).grown hg (Nat.le_refl _) (by simp)
      have HO := Lib.hid (own_mono hown HM.out.size)
      replace HM := Lib.hid (HM.out.below hb)
      clear hown hg hb
      generalize wd1.heap.size = Z at HO ⊢
      replace HO := Lib.hid (show wy2.ownsRow w1.heap.size 5 1 (.slice (some ⟨Z, 0, none⟩) 16 16) 16 ((List.replicate 16 (0 : UInt8)).map u8v) from HO.out)
      refine hK.out _ _ (HM.out) (fun hHeld => ?_)
      clear hK K
      (try simp only [Act.put, List.setIfInBounds_toArray, List.set_cons_zero, List.set_cons_succ])
      refine step_two 4 7 rfl rfl (by kernel_rfl) (fun K hK => ?_) (fun K hK => ?_)
      · clear hHeld
        go_simp
        refine (HCU.out _).mono ?_
        rintro e wy3 ⟨rfl, hb⟩
        replace HO := Lib.hid ((ownL w1.heap.size (.slice (some ⟨Z, 0, none⟩) 16 16) 16 ((List.replicate 16 (0 : UInt8)).map u8v)).keep wy2 wy3 hb HO.out)
        replace HM := Lib.hid (HM.out.below hb)
        clear hb
        go_wp2_with fail
        refine hK.out _ _ (HM.out) (fun hHeld => ?_)
        clear hK K
        (try simp only [Act.put, List.setIfInBounds_toArray, List.set_cons_zero, List.set_cons_succ])
        refine step_two 5 7 rfl rfl (by kernel_rfl) (fun K hK => ?_) (fun K hK => ?_)
        · clear hHeld
          refine step_append_rd _ (by rfl) (.tmp 33) (.tmp 35) 38 rfl w1.heap.size 5 i0 (.int .u8 0) Try.underlying38 hi hz0 hz1 hz2 rfl (.slice (some ⟨Z, 0, none⟩) 16 16) 16 ((List.replicate 16 (0 : UInt8)).map u8v) rfl HO.out _ A kd cb (lb.take kd) rfl ((HL.out.below HM.out.bel).rd 3 rfl) (by omega) HM.out.size ?_
          intro v9 wy4 hown hg
          rw [← List.map_append] at hown
          have hZ1 := (HO.out.lt Z rfl).1
          have hZ2 := (HO.out.lt Z rfl).2
          have hb9 : Below w1.heap.size w1 wy4 := HM.out.bel.grown hg HM.out.size (by intro k hk; exact Nat.le_trans hZ1 (Nat.le_of_eq (by simpa [Value.ownBlock] using hk)))
          replace HM := Lib.hid (show Lows w1 [] wy4 from ⟨fun f hf => absurd hf (by simp), hb9⟩)
          obtain ⟨A9, c9, rfl, -⟩ := own_slice hown
          have hoa := own_addr hown
          obtain ⟨g9, rfl⟩ := hoa.2.2 (by omega)
          have HC9 := Lib.hid (And.intro hoa.1 hoa.2.1)
          replace HO := Lib.hid hown
          clear hown hg hoa hb9 hZ1 hZ2
          refine hK.out _ _ (HM.out) (fun hHeld => ?_)
          clear hK K
          (try simp only [Act.put, List.setIfInBounds_toArray, List.set_cons_zero, List.set_cons_succ])
          refine take_first (v := .agg (tranC r q (some ⟨g9, 0, none⟩) (16 + kd) c9).toArray) 6 rfl (by kernel_rfl) (by kernel_rfl) (by kernel_rfl) (fun _ _ _ h => h) (yields_build_obj (by rfl) 40 [(0, .tmp 31), (1, .tmp 32), (2, .tmp 36)] rfl (tranC r q (some ⟨g9, 0, none⟩) (16 + kd) c9).toArray (tran_built r q (some ⟨g9, 0, none⟩) (16 + kd) c9)) (by assumption) ?_
          (try simp only [Act.put, List.setIfInBounds_toArray, List.set_cons_zero, List.set_cons_succ])
          refine step_one 7 rfl (by kernel_rfl) (fun K hK => ?_)
          clear hHeld
          go_simp
          have hb : Below wy4.heap.size wy4 (wy4.alloc (.cells #[.int .u32 0, .int .u64 0, .slice none 0 0] 40)) := (Below.refl _ _).alloc (Nat.le_refl _) _
          replace HO := Lib.hid ((ownL w1.heap.size (.slice (some ⟨g9, 0, none⟩) (16 + kd) c9) (16 + kd) ((List.replicate 16 (0 : UInt8) ++ lb.take kd).map u8v)).keep wy4 (wy4.alloc (.cells #[.int .u32 0, .int .u64 0, .slice none 0 0] 40)) hb HO.out)
          have HP := Lib.hid (show Blk (wy4.alloc (.cells #[.int .u32 0, .int .u64 0, .slice none 0 0] 40)) wy4.heap.size 40 [Value.int .u32 0, .int .u64 0, .slice none 0 0] from Blk.new wy4 40 [Value.int .u32 0, .int .u64 0, .slice none 0 0])
          have hPw : w1.heap.size ≤ wy4.heap.size := HM.out.size
          replace HM := Lib.hid (HM.out.below hb)
          clear hb
          generalize wy4.alloc (.cells #[.int .u32 0, .int .u64 0, .slice none 0 0] 40) = wy5 at HO HP HM ⊢
          generalize wy4.heap.size = P13 at HP hPw ⊢
          refine hK.out _ _ (HM.out) (fun hHeld => ?_)
          clear hK K
          (try simp only [Act.put, List.setIfInBounds_toArray, List.set_cons_zero, List.set_cons_succ])
          refine step_one 8 rfl (by kernel_rfl) (fun K hK => ?_)
          clear hHeld
          refine step_store_blk _ rfl 40 (.tmp 13) (.tmp 37) rfl P13 (tranC r q (some ⟨g9, 0, none⟩) (16 + kd) c9) rfl (by rfl) 40 [Value.int .u32 0, .int .u64 0, .slice none 0 0] HP.out (by kernel_rfl) (by rfl) tran_one ?_
          intro wy6 hb hg
          have hne : P13 ≠ g9 := by
            intro e
            subst e
            exact own_blk_ne HO.out HP.out (by decide)
          have ho9 := HO.out.kept hg (.inr (by intro h; exact hne (by simpa [Value.ownBlock] using h.symm)))
          have hb9 : Below w1.heap.size w1 wy6 := HM.out.bel.grown hg HM.out.size (by intro k hk; injection hk with hk; omega)
          replace HM := Lib.hid (show Lows w1 [] wy6 from ⟨fun f hf => absurd hf (by simp), hb9⟩)
          have HF := Lib.hid (And.intro hb (Rd.of_own ho9))
          clear hb hg hne ho9 hb9
          refine hK.out _ _ (HM.out) (fun hHeld => ?_)
          clear hK K
          (try simp only [Act.put])
          refine wpAnyH_done (by kernel_rfl) ?_ _
          clear hHeld HO HP
          go_wp2_with fail
          go_meet
          exact ⟨P13, g9, c9, rfl, HC9.out.1, HC9.out.2, ((HL.out.below HM.out.bel).cons (rdL (some ⟨g9, 0, none⟩) (16 + kd) (List.replicate 16 (0 : UInt8) ++ lb.take kd)) HF.out.2).cons (blkL P13 40 (tranC r q (some ⟨g9, 0, none⟩) (16 + kd) c9)) HF.out.1⟩
        · clear hHeld
          go_simp
          have hb : Below wy3.heap.size wy3 (wy3.alloc (.cells #[.int .u32 0, .int .u64 0, .slice none 0 0] 40)) := (Below.refl _ _).alloc (Nat.le_refl _) _
          replace HO := Lib.hid ((ownL w1.heap.size (.slice (some ⟨Z, 0, none⟩) 16 16) 16 ((List.replicate 16 (0 : UInt8)).map u8v)).keep wy3 (wy3.alloc (.cells #[.int .u32 0, .int .u64 0, .slice none 0 0] 40)) hb HO.out)
          have HP := Lib.hid (show Blk (wy3.alloc (.cells #[.int .u32 0, .int .u64 0, .slice none 0 0] 40)) wy3.heap.size 40 [Value.int .u32 0, .int .u64 0, .slice none 0 0] from Blk.new wy3 40 [Value.int .u32 0, .int .u64 0, .slice none 0 0])
          have hPw : w1.heap.size ≤ wy3.heap.size := HM.out.size
          replace HM := Lib.hid (HM.out.below hb)
          clear hb
          generalize wy3.alloc (.cells #[.int .u32 0, .int .u64 0, .slice none 0 0] 40) = wy4 at HO HP HM ⊢
          generalize wy3.heap.size = P13 at HP hPw ⊢
          refine hK.out _ _ (HM.out) (fun hHeld => ?_)
          clear hK K
          (try simp only [Act.put, List.setIfInBounds_toArray, List.set_cons_zero, List.set_cons_succ])
          refine step_one 5 rfl (by kernel_rfl) (fun K hK => ?_)
          clear hHeld
          refine step_append_rd _ (by rfl) (.tmp 33) (.tmp 35) 38 rfl w1.heap.size 5 i0 (.int .u8 0) Try.underlying38 hi hz0 hz1 hz2 rfl (.slice (some ⟨Z, 0, none⟩) 16 16) 16 ((List.replicate 16 (0 : UInt8)).map u8v) rfl HO.out _ A kd cb (lb.take kd) rfl ((HL.out.below HM.out.bel).rd 3 rfl) (by omega) HM.out.size ?_
          intro v9 wy5 hown hg
          rw [← List.map_append] at hown
          have hZ1 := (HO.out.lt Z rfl).1
          have hZ2 := (HO.out.lt Z rfl).2
          have hb9 : Below w1.heap.size w1 wy5 := HM.out.bel.grown hg HM.out.size (by intro k hk; exact Nat.le_trans hZ1 (Nat.le_of_eq (by simpa [Value.ownBlock] using hk)))
          have hne : P13 ≠ Z := by
            intro e
            subst e
            exact own_blk_ne HO.out HP.out (by decide)
          replace HP := Lib.hid (show Blk wy5 P13 40 [Value.int .u32 0, .int .u64 0, .slice none 0 0] from (hg.block P13 HP.out.lt (by intro h; exact hne (by simpa [Value.ownBlock] using h))).trans HP.out)
          clear hne
          replace HM := Lib.hid (show Lows w1 [] wy5 from ⟨fun f hf => absurd hf (by simp), hb9⟩)
          obtain ⟨A9, c9, rfl, -⟩ := own_slice hown
          have hoa := own_addr hown
          obtain ⟨g9, rfl⟩ := hoa.2.2 (by omega)
          have HC9 := Lib.hid (And.intro hoa.1 hoa.2.1)
          replace HO := Lib.hid hown
          clear hown hg hoa hb9 hZ1 hZ2
          refine hK.out _ _ (HM.out) (fun hHeld => ?_)
          clear hK K
          (try simp only [Act.put, List.setIfInBounds_toArray, List.set_cons_zero, List.set_cons_succ])
          refine take_first (v := .agg (tranC r q (some ⟨g9, 0, none⟩) (16 + kd) c9).toArray) 6 rfl (by kernel_rfl) (by kernel_rfl) (by kernel_rfl) (fun _ _ _ h => h) (yields_build_obj (by rfl) 40 [(0, .tmp 31), (1, .tmp 32), (2, .tmp 36)] rfl (tranC r q (some ⟨g9, 0, none⟩) (16 + kd) c9).toArray (tran_built r q (some ⟨g9, 0, none⟩) (16 + kd) c9)) (by assumption) ?_
          (try simp only [Act.put, List.setIfInBounds_toArray, List.set_cons_zero, List.set_cons_succ])
          refine step_one 8 rfl (by kernel_rfl) (fun K hK => ?_)
          clear hHeld
          refine step_store_blk _ rfl 40 (.tmp 13) (.tmp 37) rfl P13 (tranC r q (some ⟨g9, 0, none⟩) (16 + kd) c9) rfl (by rfl) 40 [Value.int .u32 0, .int .u64 0, .slice none 0 0] HP.out (by kernel_rfl) (by rfl) tran_one ?_
          intro wy6 hb hg
          have hne : P13 ≠ g9 := by
            intro e
            subst e
            exact own_blk_ne HO.out HP.out (by decide)
          have ho9 := HO.out.kept hg (.inr (by intro h; exact hne (by simpa [Value.ownBlock] using h.symm)))
          have hb9 : Below w1.heap.size w1 wy6 := HM.out.bel.grown hg HM.out.size (by intro k hk; injection hk with hk; omega)
          replace HM := Lib.hid (show Lows w1 [] wy6 from ⟨fun f hf => absurd hf (by simp), hb9⟩)
          have HF := Lib.hid (And.intro hb (Rd.of_own ho9))
          clear hb hg hne ho9 hb9
          refine hK.out _ _ (HM.out) (fun hHeld => ?_)
          clear hK K
          (try simp only [Act.put])
          refine wpAnyH_done (by kernel_rfl) ?_ _
          clear hHeld HO HP
          go_wp2_with fail
          go_meet
          exact ⟨P13, g9, c9, rfl, HC9.out.1, HC9.out.2, ((HL.out.below HM.out.bel).cons (rdL (some ⟨g9, 0, none⟩) (16 + kd) (List.replicate 16 (0 : UInt8) ++ lb.take kd)) HF.out.2).cons (blkL P13 40 (tranC r q (some ⟨g9, 0, none⟩) (16 + kd) c9)) HF.out.1⟩
      · clear hHeld
        go_simp
        have hb : Below wy2.heap.size wy2 (wy2.alloc (.cells #[.int .u32 0, .int .u64 0, .slice none 0 0] 40)) := (Below.refl _ _).alloc (Nat.le_refl _) _
        replace HO := Lib.hid ((ownL w1.heap.size (.slice (some ⟨Z, 0, none⟩) 16 16) 16 ((List.replicate 16 (0 : UInt8)).map u8v)).keep wy2 (wy2.alloc (.cells #[.int .u32 0, .int .u64 0, .slice none 0 0] 40)) hb HO.out)
        have HP := Lib.hid (show Blk (wy2.alloc (.cells #[.int .u32 0, .int .u64 0, .slice none 0 0] 40)) wy2.heap.size 40 [Value.int .u32 0, .int .u64 0, .slice none 0 0] from Blk.new wy2 40 [Value.int .u32 0, .int .u64 0, .slice none 0 0])
        have hPw : w1.heap.size ≤ wy2.heap.size := HM.out.size
        replace HM := Lib.hid (HM.out.below hb)
        clear hb
        generalize wy2.alloc (.cells #[.int .u32 0, .int .u64 0, .slice none 0 0] 40) = wy3 at HO HP HM ⊢
        generalize wy2.heap.size = P13 at HP hPw ⊢
        refine hK.out _ _ (HM.out) (fun hHeld => ?_)
        clear hK K
        (try simp only [Act.put, List.setIfInBounds_toArray, List.set_cons_zero, List.set_cons_succ])
        refine step_one 4 rfl (by kernel_rfl) (fun K hK => ?_)
        clear hHeld
        go_simp
        refine (HCU.out _).mono ?_
        rintro e wy4 ⟨rfl, hb⟩
        replace HO := Lib.hid ((ownL w1.heap.size (.slice (some ⟨Z, 0, none⟩) 16 16) 16 ((List.replicate 16 (0 : UInt8)).map u8v)).keep wy3 wy4 hb HO.out)
        replace HP := Lib.hid ((blkL P13 40 [Value.int .u32 0, .int .u64 0, .slice none 0 0]).keep wy3 wy4 hb HP.out)
        replace HM := Lib.hid (HM.out.below hb)
        clear hb
        go_wp2_with fail
        refine hK.out _ _ (HM.out) (fun hHeld => ?_)
        clear hK K
        (try simp only [Act.put, List.setIfInBounds_toArray, List.set_cons_zero, List.set_cons_succ])
        refine step_one 5 rfl (by kernel_rfl) (fun K hK => ?_)
        clear hHeld
        refine step_append_rd _ (by rfl) (.tmp 33) (.tmp 35) 38 rfl w1.heap.size 5 i0 (.int .u8 0) Try.underlying38 hi hz0 hz1 hz2 rfl (.slice (some ⟨Z, 0, none⟩) 16 16) 16 ((List.replicate 16 (0 : UInt8)).map u8v) rfl HO.out _ A kd cb (lb.take kd) rfl ((HL.out.below HM.out.bel).rd 3 rfl) (by omega) HM.out.size ?_
        intro v9 wy5 hown hg
        rw [← List.map_append] at hown
        have hZ1 := (HO.out.lt Z rfl).1
        have hZ2 := (HO.out.lt Z rfl).2
        have hb9 : Below w1.heap.size w1 wy5 := HM.out.bel.grown hg HM.out.size (by intro k hk; exact Nat.le_trans hZ1 (Nat.le_of_eq (by simpa [Value.ownBlock] using hk)))
        have hne : P13 ≠ Z := by
          intro e
          subst e
          exact own_blk_ne HO.out HP.out (by decide)
        replace HP := Lib.hid (show Blk wy5 P13 40 [Value.int .u32 0, .int .u64 0, .slice none 0 0] from (hg.block P13 HP.out.lt (by intro h; exact hne (by simpa [Value.ownBlock] using h))).trans HP.out)
        clear hne
        replace HM := Lib.hid (show Lows w1 [] wy5 from ⟨fun f hf => absurd hf (by simp), hb9⟩)
        obtain ⟨A9, c9, rfl, -⟩ := own_slice hown
        have hoa := own_addr hown
        obtain ⟨g9, rfl⟩ := hoa.2.2 (by omega)
        have HC9 := Lib.hid (And.intro hoa.1 hoa.2.1)
        replace HO := Lib.hid hown
        clear hown hg hoa hb9 hZ1 hZ2
        refine hK.out _ _ (HM.out) (fun hHeld => ?_)
        clear hK K
        (try simp only [Act.put, List.setIfInBounds_toArray, List.set_cons_zero, List.set_cons_succ])
        refine take_first (v := .agg (tranC r q (some ⟨g9, 0, none⟩) (16 + kd) c9).toArray) 6 rfl (by kernel_rfl) (by kernel_rfl) (by kernel_rfl) (fun _ _ _ h => h) (yields_build_obj (by rfl) 40 [(0, .tmp 31), (1, .tmp 32), (2, .tmp 36)] rfl (tranC r q (some ⟨g9, 0, none⟩) (16 + kd) c9).toArray (tran_built r q (some ⟨g9, 0, none⟩) (16 + kd) c9)) (by assumption) ?_
        (try simp only [Act.put, List.setIfInBounds_toArray, List.set_cons_zero, List.set_cons_succ])
        refine step_one 8 rfl (by kernel_rfl) (fun K hK => ?_)
        clear hHeld
        refine step_store_blk _ rfl 40 (.tmp 13) (.tmp 37) rfl P13 (tranC r q (some ⟨g9, 0, none⟩) (16 + kd) c9) rfl (by rfl) 40 [Value.int .u32 0, .int .u64 0, .slice none 0 0] HP.out (by kernel_rfl) (by rfl) tran_one ?_
        intro wy6 hb hg
        have hne : P13 ≠ g9 := by
          intro e
          subst e
          exact own_blk_ne HO.out HP.out (by decide)
        have ho9 := HO.out.kept hg (.inr (by intro h; exact hne (by simpa [Value.ownBlock] using h.symm)))
        have hb9 : Below w1.heap.size w1 wy6 := HM.out.bel.grown hg HM.out.size (by intro k hk; injection hk with hk; omega)
        replace HM := Lib.hid (show Lows w1 [] wy6 from ⟨fun f hf => absurd hf (by simp), hb9⟩)
        have HF := Lib.hid (And.intro hb (Rd.of_own ho9))
        clear hb hg hne ho9 hb9
        refine hK.out _ _ (HM.out) (fun hHeld => ?_)
        clear hK K
        (try simp only [Act.put])
        refine wpAnyH_done (by kernel_rfl) ?_ _
        clear hHeld HO HP
        go_wp2_with fail
        go_meet
        exact ⟨P13, g9, c9, rfl, HC9.out.1, HC9.out.2, ((HL.out.below HM.out.bel).cons (rdL (some ⟨g9, 0, none⟩) (16 + kd) (List.replicate 16 (0 : UInt8) ++ lb.take kd)) HF.out.2).cons (blkL P13 40 (tranC r q (some ⟨g9, 0, none⟩) (16 + kd) c9)) HF.out.1⟩
    · clear hHeld
      go_simp
      refine (HCU.out _).mono ?_
      rintro e wy2 ⟨rfl, hb⟩
      replace HM := Lib.hid (HM.out.below hb)
      clear hb
      go_wp2_with fail
      refine hK.out _ _ (HM.out) (fun hHeld => ?_)
      clear hK K
      (try simp only [Act.put, List.setIfInBounds_toArray, List.set_cons_zero, List.set_cons_succ])
      refine step_two 2 7 rfl rfl (by kernel_rfl) (fun K hK => ?_) (fun K hK => ?_)
      · clear hHeld
        refine step_make_full_g _ (by rfl) (.const (.int .i64 16)) (.const (.int .i64 16)) 38 rfl wy2.heap.size 5 i0 (.int .u8 0) 1 Try.underlying38 hi hz0 hz1 .i64 .i64 16 rfl rfl (by rw [hz2]; omega) (by unfold maxLen; omega) (Nat.le_refl _) ?_
        intro wy3 hown hg
        rw [made_in] at hown
        have hb : Below wy2.heap.size wy2 wy3 := (Below.refl _ _).grown hg (Nat.le_refl _) (by simp)
        have HO := Lib.hid (own_mono hown HM.out.size)
        replace HM := Lib.hid (HM.out.below hb)
        clear hown hg hb
        generalize wy2.heap.size = Z at HO ⊢
        replace HO := Lib.hid (show wy3.ownsRow w1.heap.size 5 1 (.slice (some ⟨Z, 0, none⟩) 16 16) 16 ((List.replicate 16 (0 : UInt8)).map u8v) from HO.out)
        refine hK.out _ _ (HM.out) (fun hHeld => ?_)
        clear hK K
        (try simp only [Act.put, List.setIfInBounds_toArray, List.set_cons_zero, List.set_cons_succ])
        refine step_two 5 7 rfl rfl (by kernel_rfl) (fun K hK => ?_) (fun K hK => ?_)
        · clear hHeld
          refine step_append_rd _ (by rfl) (.tmp 33) (.tmp 35) 38 rfl w1.heap.size 5 i0 (.int .u8 0) Try.underlying38 hi hz0 hz1 hz2 rfl (.slice (some ⟨Z, 0, none⟩) 16 16) 16 ((List.replicate 16 (0 : UInt8)).map u8v) rfl HO.out _ A kd cb (lb.take kd) rfl ((HL.out.below HM.out.bel).rd 3 rfl) (by omega) HM.out.size ?_
          intro v9 wy4 hown hg
          rw [← List.map_append] at hown
          have hZ1 := (HO.out.lt Z rfl).1
          have hZ2 := (HO.out.lt Z rfl).2
          have hb9 : Below w1.heap.size w1 wy4 := HM.out.bel.grown hg HM.out.size (by intro k hk; exact Nat.le_trans hZ1 (Nat.le_of_eq (by simpa [Value.ownBlock] using hk)))
          replace HM := Lib.hid (show Lows w1 [] wy4 from ⟨fun f hf => absurd hf (by simp), hb9⟩)
          obtain ⟨A9, c9, rfl, -⟩ := own_slice hown
          have hoa := own_addr hown
          obtain ⟨g9, rfl⟩ := hoa.2.2 (by omega)
          have HC9 := Lib.hid (And.intro hoa.1 hoa.2.1)
          replace HO := Lib.hid hown
          clear hown hg hoa hb9 hZ1 hZ2
          refine hK.out _ _ (HM.out) (fun hHeld => ?_)
          clear hK K
          (try simp only [Act.put, List.setIfInBounds_toArray, List.set_cons_zero, List.set_cons_succ])
          refine take_first (v := .agg (tranC r q (some ⟨g9, 0, none⟩) (16 + kd) c9).toArray) 6 rfl (by kernel_rfl) (by kernel_rfl) (by kernel_rfl) (fun _ _ _ h => h) (yields_build_obj (by rfl) 40 [(0, .tmp 31), (1, .tmp 32), (2, .tmp 36)] rfl (tranC r q (some ⟨g9, 0, none⟩) (16 + kd) c9).toArray (tran_built r q (some ⟨g9, 0, none⟩) (16 + kd) c9)) (by assumption) ?_
          (try simp only [Act.put, List.setIfInBounds_toArray, List.set_cons_zero, List.set_cons_succ])
          refine step_one 7 rfl (by kernel_rfl) (fun K hK => ?_)
          clear hHeld
          go_simp
          have hb : Below wy4.heap.size wy4 (wy4.alloc (.cells #[.int .u32 0, .int .u64 0, .slice none 0 0] 40)) := (Below.refl _ _).alloc (Nat.le_refl _) _
          replace HO := Lib.hid ((ownL w1.heap.size (.slice (some ⟨g9, 0, none⟩) (16 + kd) c9) (16 + kd) ((List.replicate 16 (0 : UInt8) ++ lb.take kd).map u8v)).keep wy4 (wy4.alloc (.cells #[.int .u32 0, .int .u64 0, .slice none 0 0] 40)) hb HO.out)
          have HP := Lib.hid (show Blk (wy4.alloc (.cells #[.int .u32 0, .int .u64 0, .slice none 0 0] 40)) wy4.heap.size 40 [Value.int .u32 0, .int .u64 0, .slice none 0 0] from Blk.new wy4 40 [Value.int .u32 0, .int .u64 0, .slice none 0 0])
          have hPw : w1.heap.size ≤ wy4.heap.size := HM.out.size
          replace HM := Lib.hid (HM.out.below hb)
          clear hb
          generalize wy4.alloc (.cells #[.int .u32 0, .int .u64 0, .slice none 0 0] 40) = wy5 at HO HP HM ⊢
          generalize wy4.heap.size = P13 at HP hPw ⊢
          refine hK.out _ _ (HM.out) (fun hHeld => ?_)
          clear hK K
          (try simp only [Act.put, List.setIfInBounds_toArray, List.set_cons_zero, List.set_cons_succ])
          refine step_one 8 rfl (by kernel_rfl) (fun K hK => ?_)
          clear hHeld
          refine step_store_blk _ rfl 40 (.tmp 13) (.tmp 37) rfl P13 (tranC r q (some ⟨g9, 0, none⟩) (16 + kd) c9) rfl (by rfl) 40 [Value.int .u32 0, .int .u64 0, .slice none 0 0] HP.out (by kernel_rfl) (by rfl) tran_one ?_
          intro wy6 hb hg
          have hne : P13 ≠ g9 := by
            intro e
            subst e
            exact own_blk_ne HO.out HP.out (by decide)
          have ho9 := HO.out.kept hg (.inr (by intro h; exact hne (by simpa [Value.ownBlock] using h.symm)))
          have hb9 : Below w1.heap.size w1 wy6 := HM.out.bel.grown hg HM.out.size (by intro k hk; injection hk with hk; omega)
          replace HM := Lib.hid (show Lows w1 [] wy6 from ⟨fun f hf => absurd hf (by simp), hb9⟩)
          have HF := Lib.hid (And.intro hb (Rd.of_own ho9))
          clear hb hg hne ho9 hb9
          refine hK.out _ _ (HM.out) (fun hHeld => ?_)
          clear hK K
          (try simp only [Act.put])
          refine wpAnyH_done (by kernel_rfl) ?_ _
          clear hHeld HO HP
          go_wp2_with fail
          go_meet
          exact ⟨P13, g9, c9, rfl, HC9.out.1, HC9.out.2, ((HL.out.below HM.out.bel).cons (rdL (some ⟨g9, 0, none⟩) (16 + kd) (List.replicate 16 (0 : UInt8) ++ lb.take kd)) HF.out.2).cons (blkL P13 40 (tranC r q (some ⟨g9, 0, none⟩) (16 + kd) c9)) HF.out.1⟩
        · clear hHeld
          go_simp
          have hb : Below wy3.heap.size wy3 (wy3.alloc (.cells #[.int .u32 0, .int .u64 0, .slice none 0 0] 40)) := (Below.refl _ _).alloc (Nat.le_refl _) _
          replace HO := Lib.hid ((ownL w1.heap.size (.slice (some ⟨Z, 0, none⟩) 16 16) 16 ((List.replicate 16 (0 : UInt8)).map u8v)).keep wy3 (wy3.alloc (.cells #[.int .u32 0, .int .u64 0, .slice none 0 0] 40)) hb HO.out)
          have HP := Lib.hid (show Blk (wy3.alloc (.cells #[.int .u32 0, .int .u64 0, .slice none 0 0] 40)) wy3.heap.size 40 [Value.int .u32 0, .int .u64 0, .slice none 0 0] from Blk.new wy3 40 [Value.int .u32 0, .int .u64 0, .slice none 0 0])
          have hPw : w1.heap.size ≤ wy3.heap.size := HM.out.size
          replace HM := Lib.hid (HM.out.below hb)
          clear hb
          generalize wy3.alloc (.cells #[.int .u32 0, .int .u64 0, .slice none 0 0] 40) = wy4 at HO HP HM ⊢
          generalize wy3.heap.size = P13 at HP hPw ⊢
          refine hK.out _ _ (HM.out) (fun hHeld => ?_)
          clear hK K
          (try simp only [Act.put, List.setIfInBounds_toArray, List.set_cons_zero, List.set_cons_succ])
          refine step_one 5 rfl (by kernel_rfl) (fun K hK => ?_)
          clear hHeld
          refine step_append_rd _ (by rfl) (.tmp 33) (.tmp 35) 38 rfl w1.heap.size 5 i0 (.int .u8 0) Try.underlying38 hi hz0 hz1 hz2 rfl (.slice (some ⟨Z, 0, none⟩) 16 16) 16 ((List.replicate 16 (0 : UInt8)).map u8v) rfl HO.out _ A kd cb (lb.take kd) rfl ((HL.out.below HM.out.bel).rd 3 rfl) (by omega) HM.out.size ?_
          intro v9 wy5 hown hg
          rw [← List.map_append] at hown
          have hZ1 := (HO.out.lt Z rfl).1
          have hZ2 := (HO.out.lt Z rfl).2
          have hb9 : Below w1.heap.size w1 wy5 := HM.out.bel.grown hg HM.out.size (by intro k hk; exact Nat.le_trans hZ1 (Nat.le_of_eq (by simpa [Value.ownBlock] using hk)))
          have hne : P13 ≠ Z := by
            intro e
            subst e
            exact own_blk_ne HO.out HP.out (by decide)
          replace HP := Lib.hid (show Blk wy5 P13 40 [Value.int .u32 0, .int .u64 0, .slice none 0 0] from (hg.block P13 HP.out.lt (by intro h; exact hne (by simpa [Value.ownBlock] using h))).trans HP.out)
          clear hne
          replace HM := Lib.hid (show Lows w1 [] wy5 from ⟨fun f hf => absurd hf (by simp), hb9⟩)
          obtain ⟨A9, c9, rfl, -⟩ := own_slice hown
          have hoa := own_addr hown
          obtain ⟨g9, rfl⟩ := hoa.2.2 (by omega)
          have HC9 := Lib.hid (And.intro hoa.1 hoa.2.1)
          replace HO := Lib.hid hown
          clear hown hg hoa hb9 hZ1 hZ2
          refine hK.out _ _ (HM.out) (fun hHeld => ?_)
          clear hK K
          (try simp only [Act.put, List.setIfInBounds_toArray, List.set_cons_zero, List.set_cons_succ])
          refine take_first (v := .agg (tranC r q (some ⟨g9, 0, none⟩) (16 + kd) c9).toArray) 6 rfl (by kernel_rfl) (by kernel_rfl) (by kernel_rfl) (fun _ _ _ h => h) (yields_build_obj (by rfl) 40 [(0, .tmp 31), (1, .tmp 32), (2, .tmp 36)] rfl (tranC r q (some ⟨g9, 0, none⟩) (16 + kd) c9).toArray (tran_built r q (some ⟨g9, 0, none⟩) (16 + kd) c9)) (by assumption) ?_
          (try simp only [Act.put, List.setIfInBounds_toArray, List.set_cons_zero, List.set_cons_succ])
          refine step_one 8 rfl (by kernel_rfl) (fun K hK => ?_)
          clear hHeld
          refine step_store_blk _ rfl 40 (.tmp 13) (.tmp 37) rfl P13 (tranC r q (some ⟨g9, 0, none⟩) (16 + kd) c9) rfl (by rfl) 40 [Value.int .u32 0, .int .u64 0, .slice none 0 0] HP.out (by kernel_rfl) (by rfl) tran_one ?_
          intro wy6 hb hg
          have hne : P13 ≠ g9 := by
            intro e
            subst e
            exact own_blk_ne HO.out HP.out (by decide)
          have ho9 := HO.out.kept hg (.inr (by intro h; exact hne (by simpa [Value.ownBlock] using h.symm)))
          have hb9 : Below w1.heap.size w1 wy6 := HM.out.bel.grown hg HM.out.size (by intro k hk; injection hk with hk; omega)
          replace HM := Lib.hid (show Lows w1 [] wy6 from ⟨fun f hf => absurd hf (by simp), hb9⟩)
          have HF := Lib.hid (And.intro hb (Rd.of_own ho9))
          clear hb hg hne ho9 hb9
          refine hK.out _ _ (HM.out) (fun hHeld => ?_)
          clear hK K
          (try simp only [Act.put])
          refine wpAnyH_done (by kernel_rfl) ?_ _
          clear hHeld HO HP
          go_wp2_with fail
          go_meet
          exact ⟨P13, g9, c9, rfl, HC9.out.1, HC9.out.2, ((HL.out.below HM.out.bel).cons (rdL (some ⟨g9, 0, none⟩) (16 + kd) (List.replicate 16 (0 : UInt8) ++ lb.take kd)) HF.out.2).cons (blkL P13 40 (tranC r q (some ⟨g9, 0, none⟩) (16 + kd) c9)) HF.out.1⟩
      · clear hHeld
        go_simp
        have hb : Below wy2.heap.size wy2 (wy2.alloc (.cells #[.int .u32 0, .int .u64 0, .slice none 0 0] 40)) := (Below.refl _ _).alloc (Nat.le_refl _) _
        have HP := Lib.hid (show Blk (wy2.alloc (.cells #[.int .u32 0, .int .u64 0, .slice none 0 0] 40)) wy2.heap.size 40 [Value.int .u32 0, .int .u64 0, .slice none 0 0] from Blk.new wy2 40 [Value.int .u32 0, .int .u64 0, .slice none 0 0])
        have hPw : w1.heap.size ≤ wy2.heap.size := HM.out.size
        replace HM := Lib.hid (HM.out.below hb)
        clear hb
        generalize wy2.alloc (.cells #[.int .u32 0, .int .u64 0, .slice none 0 0] 40) = wy3 at HP HM ⊢
        generalize wy2.heap.size = P13 at HP hPw ⊢
        refine hK.out _ _ (HM.out) (fun hHeld => ?_)
        clear hK K
        (try simp only [Act.put, List.setIfInBounds_toArray, List.set_cons_zero, List.set_cons_succ])
        refine step_one 2 rfl (by kernel_rfl) (fun K hK => ?_)
        clear hHeld
        refine step_make_full_g _ (by rfl) (.const (.int .i64 16)) (.const (.int .i64 16)) 38 rfl wy3.heap.size 5 i0 (.int .u8 0) 1 Try.underlying38 hi hz0 hz1 .i64 .i64 16 rfl rfl (by rw [hz2]; omega) (by unfold maxLen; omega) (Nat.le_refl _) ?_
        intro wy4 hown hg
        rw [made_in] at hown
        have hb : Below wy3.heap.size wy3 wy4 := (Below.refl _ _).grown hg (Nat.le_refl _) (by simp)
        replace HP := Lib.hid ((blkL P13 40 [Value.int .u32 0, .int .u64 0, .slice none 0 0]).keep wy3 wy4 hb HP.out)
        have HO := Lib.hid (own_mono hown HM.out.size)
        replace HM := Lib.hid (HM.out.below hb)
        clear hown hg hb
        generalize wy3.heap.size = Z at HO ⊢
        replace HO := Lib.hid (show wy4.ownsRow w1.heap.size 5 1 (.slice (some ⟨Z, 0, none⟩) 16 16) 16 ((List.replicate 16 (0 : UInt8)).map u8v) from HO.out)
        refine hK.out _ _ (HM.out) (fun hHeld => ?_)
        clear hK K
        (try simp only [Act.put, List.setIfInBounds_toArray, List.set_cons_zero, List.set_cons_succ])
        refine step_one 5 rfl (by kernel_rfl) (fun K hK => ?_)
        clear hHeld
        refine step_append_rd _ (by rfl) (.tmp 33) (.tmp 35) 38 rfl w1.heap.size 5 i0 (.int .u8 0) Try.underlying38 hi hz0 hz1 hz2 rfl (.slice (some ⟨Z, 0, none⟩) 16 16) 16 ((List.replicate 16 (0 : UInt8)).map u8v) rfl HO.out _ A kd cb (lb.take kd) rfl ((HL.out.below HM.out.bel).rd 3 rfl) (by omega) HM.out.size ?_
        intro v9 wy5 hown hg
        rw [← List.map_append] at hown
        have hZ1 := (HO.out.lt Z rfl).1
        have hZ2 := (HO.out.lt Z rfl).2
        have hb9 : Below w1.heap.size w1 wy5 := HM.out.bel.grown hg HM.out.size (by intro k hk; exact Nat.le_trans hZ1 (Nat.le_of_eq (by simpa [Value.ownBlock] using hk)))
        have hne : P13 ≠ Z := by
          intro e
          subst e
          exact own_blk_ne HO.out HP.out (by decide)
        replace HP := Lib.hid (show Blk wy5 P13 40 [Value.int .u32 0, .int .u64 0, .slice none 0 0] from (hg.block P13 HP.out.lt (by intro h; exact hne (by simpa [Value.ownBlock] using h))).trans HP.out)
        clear hne
        replace HM := Lib.hid (show Lows w1 [] wy5 from ⟨fun f hf => absurd hf (by simp), hb9⟩)
        obtain ⟨A9, c9, rfl, -⟩ := own_slice hown
        have hoa := own_addr hown
        obtain ⟨g9, rfl⟩ := hoa.2.2 (by omega)
        have HC9 := Lib.hid (And.intro hoa.1 hoa.2.1)
        replace HO := Lib.hid hown
        clear hown hg hoa hb9 hZ1 hZ2
        refine hK.out _ _ (HM.out) (fun hHeld => ?_)
        clear hK K
        (try simp only [Act.put, List.setIfInBounds_toArray, List.set_cons_zero, List.set_cons_succ])
        refine take_first (v := .agg (tranC r q (some ⟨g9, 0, none⟩) (16 + kd) c9).toArray) 6 rfl (by kernel_rfl) (by kernel_rfl) (by kernel_rfl) (fun _ _ _ h => h) (yields_build_obj (by rfl) 40 [(0, .tmp 31), (1, .tmp 32), (2, .tmp 36)] rfl (tranC r q (some ⟨g9, 0, none⟩) (16 + kd) c9).toArray (tran_built r q (some ⟨g9, 0, none⟩) (16 + kd) c9)) (by assumption) ?_
        (try simp only [Act.put, List.setIfInBounds_toArray, List.set_cons_zero, List.set_cons_succ])
        refine step_one 8 rfl (by kernel_rfl) (fun K hK => ?_)
        clear hHeld
        refine step_store_blk _ rfl 40 (.tmp 13) (.tmp 37) rfl P13 (tranC r q (some ⟨g9, 0, none⟩) (16 + kd) c9) rfl (by rfl) 40 [Value.int .u32 0, .int .u64 0, .slice none 0 0] HP.out (by kernel_rfl) (by rfl) tran_one ?_
        intro wy6 hb hg
        have hne : P13 ≠ g9 := by
          intro e
          subst e
          exact own_blk_ne HO.out HP.out (by decide)
        have ho9 := HO.out.kept hg (.inr (by intro h; exact hne (by simpa [Value.ownBlock] using h.symm)))
        have hb9 : Below w1.heap.size w1 wy6 := HM.out.bel.grown hg HM.out.size (by intro k hk; injection hk with hk; omega)
        replace HM := Lib.hid (show Lows w1 [] wy6 from ⟨fun f hf => absurd hf (by simp), hb9⟩)
        have HF := Lib.hid (And.intro hb (Rd.of_own ho9))
        clear hb hg hne ho9 hb9
        refine hK.out _ _ (HM.out) (fun hHeld => ?_)
        clear hK K
        (try simp only [Act.put])
        refine wpAnyH_done (by kernel_rfl) ?_ _
        clear hHeld HO HP
        go_wp2_with fail
        go_meet
        exact ⟨P13, g9, c9, rfl, HC9.out.1, HC9.out.2, ((HL.out.below HM.out.bel).cons (rdL (some ⟨g9, 0, none⟩) (16 + kd) (List.replicate 16 (0 : UInt8) ++ lb.take kd)) HF.out.2).cons (blkL P13 40 (tranC r q (some ⟨g9, 0, none⟩) (16 + kd) c9)) HF.out.1⟩
    · clear hHeld
      go_simp
      have hb : Below wd1.heap.size wd1 (wd1.alloc (.cells #[.int .u32 0, .int .u64 0, .slice none 0 0] 40)) := (Below.refl _ _).alloc (Nat.le_refl _) _
      have HP := Lib.hid (show Blk (wd1.alloc (.cells #[.int .u32 0, .int .u64 0, .slice none 0 0] 40)) wd1.heap.size 40 [Value.int .u32 0, .int .u64 0, .slice none 0 0] from Blk.new wd1 40 [Value.int .u32 0, .int .u64 0, .slice none 0 0])
      have hPw : w1.heap.size ≤ wd1.heap.size := HM.out.size
      replace HM := Lib.hid (HM.out.below hb)
      clear hb
      generalize wd1.alloc (.cells #[.int .u32 0, .int .u64 0, .slice none 0 0] 40) = wy2 at HP HM ⊢
      generalize wd1.heap.size = P13 at HP hPw ⊢
      refine hK.out _ _ (HM.out) (fun hHeld => ?_)
      clear hK K
      (try simp only [Act.put, List.setIfInBounds_toArray, List.set_cons_zero, List.set_cons_succ])
      refine step_two 2 4 rfl rfl (by kernel_rfl) (fun K hK => ?_) (fun K hK => ?_)
      · clear hHeld
        refine step_make_full_g _ (by rfl) (.const (.int .i64 16)) (.const (.int .i64 16)) 38 rfl wy2.heap.size 5 i0 (.int .u8 0) 1 Try.underlying38 hi hz0 hz1 .i64 .i64 16 rfl rfl (by rw [hz2]; omega) (by unfold maxLen; omega) (Nat.le_refl _) ?_
        intro wy3 hown hg
        rw [made_in] at hown
        have hb : Below wy2.heap.size wy2 wy3 := (Below.refl _ _).grown hg (Nat.le_refl _) (by simp)
        replace HP := Lib.hid ((blkL P13 40 [Value.int .u32 0, .int .u64 0, .slice none 0 0]).keep wy2 wy3 hb HP.out)
        have HO := Lib.hid (own_mono hown HM.out.size)
        replace HM := Lib.hid (HM.out.below hb)
        clear hown hg hb
        generalize wy2.heap.size = Z at HO ⊢
        replace HO := Lib.hid (show wy3.ownsRow w1.heap.size 5 1 (.slice (some ⟨Z, 0, none⟩) 16 16) 16 ((List.replicate 16 (0 : UInt8)).map u8v) from HO.out)
        refine hK.out _ _ (HM.out) (fun hHeld => ?_)
        clear hK K
        (try simp only [Act.put, List.setIfInBounds_toArray, List.set_cons_zero, List.set_cons_succ])
        refine step_one 4 rfl (by kernel_rfl) (fun K hK => ?_)
        clear hHeld
        go_simp
        refine (HCU.out _).mono ?_
        rintro e wy4 ⟨rfl, hb⟩
        replace HO := Lib.hid ((ownL w1.heap.size (.slice (some ⟨Z, 0, none⟩) 16 16) 16 ((List.replicate 16 (0 : UInt8)).map u8v)).keep wy3 wy4 hb HO.out)
        replace HP := Lib.hid ((blkL P13 40 [Value.int .u32 0, .int .u64 0, .slice none 0 0]).keep wy3 wy4 hb HP.out)
        replace HM := Lib.hid (HM.out.below hb)
        clear hb
        go_wp2_with fail
        refine hK.out _ _ (HM.out) (fun hHeld => ?_)
        clear hK K
        (try simp only [Act.put, List.setIfInBounds_toArray, List.set_cons_zero, List.set_cons_succ])
        refine step_one 5 rfl (by kernel_rfl) (fun K hK => ?_)
        clear hHeld
        refine step_append_rd _ (by rfl) (.tmp 33) (.tmp 35) 38 rfl w1.heap.size 5 i0 (.int .u8 0) Try.underlying38 hi hz0 hz1 hz2 rfl (.slice (some ⟨Z, 0, none⟩) 16 16) 16 ((List.replicate 16 (0 : UInt8)).map u8v) rfl HO.out _ A kd cb (lb.take kd) rfl ((HL.out.below HM.out.bel).rd 3 rfl) (by omega) HM.out.size ?_
        intro v9 wy5 hown hg
        rw [← List.map_append] at hown
        have hZ1 := (HO.out.lt Z rfl).1
        have hZ2 := (HO.out.lt Z rfl).2
        have hb9 : Below w1.heap.size w1 wy5 := HM.out.bel.grown hg HM.out.size (by intro k hk; exact Nat.le_trans hZ1 (Nat.le_of_eq (by simpa [Value.ownBlock] using hk)))
        have hne : P13 ≠ Z := by
          intro e
          subst e
          exact own_blk_ne HO.out HP.out (by decide)
        replace HP := Lib.hid (show Blk wy5 P13 40 [Value.int .u32 0, .int .u64 0, .slice none 0 0] from (hg.block P13 HP.out.lt (by intro h; exact hne (by simpa [Value.ownBlock] using h))).trans HP.out)
        clear hne
        replace HM := Lib.hid (show Lows w1 [] wy5 from ⟨fun f hf => absurd hf (by simp), hb9⟩)
        obtain ⟨A9, c9, rfl, -⟩ := own_slice hown
        have hoa := own_addr hown
        obtain ⟨g9, rfl⟩ := hoa.2.2 (by omega)
        have HC9 := Lib.hid (And.intro hoa.1 hoa.2.1)
        replace HO := Lib.hid hown
        clear hown hg hoa hb9 hZ1 hZ2
        refine hK.out _ _ (HM.out) (fun hHeld => ?_)
        clear hK K
        (try simp only [Act.put, List.setIfInBounds_toArray, List.set_cons_zero, List.set_cons_succ])
        refine take_first (v := .agg (tranC r q (some ⟨g9, 0, none⟩) (16 + kd) c9).toArray) 6 rfl (by kernel_rfl) (by kernel_rfl) (by kernel_rfl) (fun _ _ _ h => h) (yields_build_obj (by rfl) 40 [(0, .tmp 31), (1, .tmp 32), (2, .tmp 36)] rfl (tranC r q (some ⟨g9, 0, none⟩) (16 + kd) c9).toArray (tran_built r q (some ⟨g9, 0, none⟩) (16 + kd) c9)) (by assumption) ?_
        (try simp only [Act.put, List.setIfInBounds_toArray, List.set_cons_zero, List.set_cons_succ])
        refine step_one 8 rfl (by kernel_rfl) (fun K hK => ?_)
        clear hHeld
        refine step_store_blk _ rfl 40 (.tmp 13) (.tmp 37) rfl P13 (tranC r q (some ⟨g9, 0, none⟩) (16 + kd) c9) rfl (by rfl) 40 [Value.int .u32 0, .int .u64 0, .slice none 0 0] HP.out (by kernel_rfl) (by rfl) tran_one ?_
        intro wy6 hb hg
        have hne : P13 ≠ g9 := by
          intro e
          subst e
          exact own_blk_ne HO.out HP.out (by decide)
        have ho9 := HO.out.kept hg (.inr (by intro h; exact hne (by simpa [Value.ownBlock] using h.symm)))
        have hb9 : Below w1.heap.size w1 wy6 := HM.out.bel.grown hg HM.out.size (by intro k hk; injection hk with hk; omega)
        replace HM := Lib.hid (show Lows w1 [] wy6 from ⟨fun f hf => absurd hf (by simp), hb9⟩)
        have HF := Lib.hid (And.intro hb (Rd.of_own ho9))
        clear hb hg hne ho9 hb9
        refine hK.out _ _ (HM.out) (fun hHeld => ?_)
        clear hK K
        (try simp only [Act.put])
        refine wpAnyH_done (by kernel_rfl) ?_ _
        clear hHeld HO HP
        go_wp2_with fail
        go_meet
        exact ⟨P13, g9, c9, rfl, HC9.out.1, HC9.out.2, ((HL.out.below HM.out.bel).cons (rdL (some ⟨g9, 0, none⟩) (16 + kd) (List.replicate 16 (0 : UInt8) ++ lb.take kd)) HF.out.2).cons (blkL P13 40 (tranC r q (some ⟨g9, 0, none⟩) (16 + kd) c9)) HF.out.1⟩
      · clear hHeld
        go_simp
        refine (HCU.out _).mono ?_
        rintro e wy3 ⟨rfl, hb⟩
        replace HP := Lib.hid ((blkL P13 40 [Value.int .u32 0, .int .u64 0, .slice none 0 0]).keep wy2 wy3 hb HP.out)
        replace HM := Lib.hid (HM.out.below hb)
        clear hb
        go_wp2_with fail
        refine hK.out _ _ (HM.out) (fun hHeld => ?_)
        clear hK K
        (try simp only [Act.put, List.setIfInBounds_toArray, List.set_cons_zero, List.set_cons_succ])
        refine step_one 2 rfl (by kernel_rfl) (fun K hK => ?_)
        clear hHeld
        refine step_make_full_g _ (by rfl) (.const (.int .i64 16)) (.const (.int .i64 16)) 38 rfl wy3.heap.size 5 i0 (.int .u8 0) 1 Try.underlying38 hi hz0 hz1 .i64 .i64 16 rfl rfl (by rw [hz2]; omega) (by unfold maxLen; omega) (Nat.le_refl _) ?_
        intro wy4 hown hg
        rw [made_in] at hown
        have hb : Below wy3.heap.size wy3 wy4 := (Below.refl _ _).grown hg (Nat.le_refl _) (by simp)
        replace HP := Lib.hid ((blkL P13 40 [Value.int .u32 0, .int .u64 0, .slice none 0 0]).keep wy3 wy4 hb HP.out)
        have HO := Lib.hid (own_mono hown HM.out.size)
        replace HM := Lib.hid (HM.out.below hb)
        clear hown hg hb
        generalize wy3.heap.size = Z at HO ⊢
        replace HO := Lib.hid (show wy4.ownsRow w1.heap.size 5 1 (.slice (some ⟨Z, 0, none⟩) 16 16) 16 ((List.replicate 16 (0 : UInt8)).map u8v) from HO.out)
        refine hK.out _ _ (HM.out) (fun hHeld => ?_)
        clear hK K
        (try simp only [Act.put, List.setIfInBounds_toArray, List.set_cons_zero, List.set_cons_succ])
        refine step_one 5 rfl (by kernel_rfl) (fun K hK => ?_)
        clear hHeld
        refine step_append_rd _ (by rfl) (.tmp 33) (.tmp 35) 38 rfl w1.heap.size 5 i0 (.int .u8 0) Try.underlying38 hi hz0 hz1 hz2 rfl (.slice (some ⟨Z, 0, none⟩) 16 16) 16 ((List.replicate 16 (0 : UInt8)).map u8v) rfl HO.out _ A kd cb (lb.take kd) rfl ((HL.out.below HM.out.bel).rd 3 rfl) (by omega) HM.out.size ?_
        intro v9 wy5 hown hg
        rw [← List.map_append] at hown
        have hZ1 := (HO.out.lt Z rfl).1
        have hZ2 := (HO.out.lt Z rfl).2
        have hb9 : Below w1.heap.size w1 wy5 := HM.out.bel.grown hg HM.out.size (by intro k hk; exact Nat.le_trans hZ1 (Nat.le_of_eq (by simpa [Value.ownBlock] using hk)))
        have hne : P13 ≠ Z := by
          intro e
          subst e
          exact own_blk_ne HO.out HP.out (by decide)
        replace HP := Lib.hid (show Blk wy5 P13 40 [Value.int .u32 0, .int .u64 0, .slice none 0 0] from (hg.block P13 HP.out.lt (by intro h; exact hne (by simpa [Value.ownBlock] using h))).trans HP.out)
        clear hne
        replace HM := Lib.hid (show Lows w1 [] wy5 from ⟨fun f hf => absurd hf (by simp), hb9⟩)
        obtain ⟨A9, c9, rfl, -⟩ := own_slice hown
        have hoa := own_addr hown
        obtain ⟨g9, rfl⟩ := hoa.2.2 (by omega)
        have HC9 := Lib.hid (And.intro hoa.1 hoa.2.1)
        replace HO := Lib.hid hown
        clear hown hg hoa hb9 hZ1 hZ2
        refine hK.out _ _ (HM.out) (fun hHeld => ?_)
        clear hK K
        (try simp only [Act.put, List.setIfInBounds_toArray, List.set_cons_zero, List.set_cons_succ])
        refine take_first (v := .agg (tranC r q (some ⟨g9, 0, none⟩) (16 + kd) c9).toArray) 6 rfl (by kernel_rfl) (by kernel_rfl) (by kernel_rfl) (fun _ _ _ h => h) (yields_build_obj (by rfl) 40 [(0, .tmp 31), (1, .tmp 32), (2, .tmp 36)] rfl (tranC r q (some ⟨g9, 0, none⟩) (16 + kd) c9).toArray (tran_built r q (some ⟨g9, 0, none⟩) (16 + kd) c9)) (by assumption) ?_
        (try simp only [Act.put, List.setIfInBounds_toArray, List.set_cons_zero, List.set_cons_succ])
        refine step_one 8 rfl (by kernel_rfl) (fun K hK => ?_)
        clear hHeld
        refine step_store_blk _ rfl 40 (.tmp 13) (.tmp 37) rfl P13 (tranC r q (some ⟨g9, 0, none⟩) (16 + kd) c9) rfl (by rfl) 40 [Value.int .u32 0, .int .u64 0, .slice none 0 0] HP.out (by kernel_rfl) (by rfl) tran_one ?_
        intro wy6 hb hg
        have hne : P13 ≠ g9 := by
          intro e
          subst e
          exact own_blk_ne HO.out HP.out (by decide)
        have ho9 := HO.out.kept hg (.inr (by intro h; exact hne (by simpa [Value.ownBlock] using h.symm)))
        have hb9 : Below w1.heap.size w1 wy6 := HM.out.bel.grown hg HM.out.size (by intro k hk; injection hk with hk; omega)
        replace HM := Lib.hid (show Lows w1 [] wy6 from ⟨fun f hf => absurd hf (by simp), hb9⟩)
        have HF := Lib.hid (And.intro hb (Rd.of_own ho9))
        clear hb hg hne ho9 hb9
        refine hK.out _ _ (HM.out) (fun hHeld => ?_)
        clear hK K
        (try simp only [Act.put])
        refine wpAnyH_done (by kernel_rfl) ?_ _
        clear hHeld HO HP
        go_wp2_with fail
        go_meet
        exact ⟨P13, g9, c9, rfl, HC9.out.1, HC9.out.2, ((HL.out.below HM.out.bel).cons (rdL (some ⟨g9, 0, none⟩) (16 + kd) (List.replicate 16 (0 : UInt8) ++ lb.take kd)) HF.out.2).cons (blkL P13 40 (tranC r q (some ⟨g9, 0, none⟩) (16 + kd) c9)) HF.out.1⟩
  case rest =>
    clear HM HL HCU
    revert wc
    intro w2 hcut
    obtain ⟨P13, g9, c9, rfl, h91, h92, hM⟩ := hcut
    have HM := Lib.hid hM
    have HC9 := Lib.hid (And.intro h91 h92)
    clear hM h91 h92
    have HE := Lib.hid (HET0.out r q (some ⟨g9, 0, none⟩) (16 + kd) c9 (List.replicate 16 (0 : UInt8) ++ lb.take kd) hrq.1 hrq.2 HC9.out.1 HC9.out.2 (by omega))
    have hT2 : (encT ⟨r, q, (List.replicate 16 (0 : UInt8) ++ lb.take kd)⟩).2 = 0 := by rw [HT.out.1]
    have HK4 := Lib.hid HT.out.2.1
    have HD4 := Lib.hid HT.out.2.2
    rw [hT2, HTL.out] at HE
    obtain ⟨eo, heo⟩ : ∃ z, (encT ⟨r, q, (List.replicate 16 (0 : UInt8) ++ lb.take kd)⟩).1 = z := ⟨_, rfl⟩
    rw [heo] at HE HK4 HD4
    clear hT2 heo HT HTL hrq
    go_wp2_with (refine wpList_load_obj rfl 40 (.tmp 13) rfl P13 0 rfl (tranC r q (some ⟨g9, 0, none⟩) (16 + kd) c9) (HM.out.blk 0 rfl).all _ Try.underlying40 rfl (by kernel_rfl) ?_)
    refine (HE.out _ (HM.out.rd 1 rfl)).mono ?_
    rintro e w3 ⟨A14, c14, rfl, h141, h142, hr, hb⟩
    replace HM := Lib.hid (show Lows w [rdL A14 (32 + kd) eo, blkL P13 40 (tranC r q (some ⟨g9, 0, none⟩) (16 + kd) c9), rdL (some ⟨g9, 0, none⟩) (16 + kd) (List.replicate 16 (0 : UInt8) ++ lb.take kd), blkL (w.heap.size + 1 + 1) 36 m3.cells, blkL (w.heap.size + 1) 32 m2.cells, blkL w.heap.size 30 m1.cells, rdL A kd (lb.take kd)] w3 from (HM.out.below hb).cons (rdL A14 (32 + kd) eo) hr)
    have DT := Lib.hid (HDT0.out A14 (32 + kd) c14 eo h141 h142 (by omega))
    have DY := Lib.hid (HDC0.out A14 (32 + kd) c14 eo h141 h142 (by omega))
    have KT := Lib.hid (HKN0.out A14 (32 + kd) c14 eo h141 h142 (by omega))
    rw [HD4.out] at DT
    dsimp only at DT
    rw [HBL.out] at DT
    rw [show decB 3 eo = (msg0 3, 4) from by rw [decB, if_neg (by rw [HK4.out]; decide)], HZ3.out] at DY
    dsimp only at DY
    rw [HK4.out] at KT
    clear hr hb h141 h142 HE HDT0 HET0
    go_upto_region 3 with fail
    refine wp_region_held_drew (S := fun W' => Lows w [rdL A14 (32 + kd) eo, blkL P13 40 (tranC r q (some ⟨g9, 0, none⟩) (16 + kd) c9), rdL (some ⟨g9, 0, none⟩) (16 + kd) (List.replicate 16 (0 : UInt8) ++ lb.take kd), blkL (w.heap.size + 1 + 1) 36 m3.cells, blkL (w.heap.size + 1) 32 m2.cells, blkL w.heap.size 30 m1.cells, rdL A kd (lb.take kd)] W') (by kernel_rfl) (HM.out.drew) (fun hHeld => ?_)
    replace HM := Lib.hid HM.out.drew
    generalize w3.drew = wd1 at HM hHeld ⊢
    refine take_first (v := .agg cm1) 0 rfl (by kernel_rfl) (by kernel_rfl) (by kernel_rfl) (fun _ _ _ h => h) (by rw [← HC1.out]; exact yields_load_obj (by rfl) 30 (.tmp 6) rfl w.heap.size 0 rfl m1.cells (fun w' hb => (Lows.blk hb 5 rfl).all) _ Try.underlying30 rfl HU1.out) (by assumption) ?_
    (try simp only [Act.put, List.setIfInBounds_toArray, List.set_cons_zero, List.set_cons_succ])
    refine take_first (v := .agg cm2) 2 rfl (by kernel_rfl) (by kernel_rfl) (by kernel_rfl) (fun _ _ _ h => h) (by rw [← HC2.out]; exact yields_load_obj (by rfl) 32 (.tmp 7) rfl (w.heap.size + 1) 0 rfl m2.cells (fun w' hb => (Lows.blk hb 4 rfl).all) _ Try.underlying32 rfl HU2.out) (by assumption) ?_
    (try simp only [Act.put, List.setIfInBounds_toArray, List.set_cons_zero, List.set_cons_succ])
    refine take_first (v := .agg cm3) 4 rfl (by kernel_rfl) (by kernel_rfl) (by kernel_rfl) (fun _ _ _ h => h) (by rw [← HC3.out]; exact yields_load_obj (by rfl) 36 (.tmp 8) rfl (w.heap.size + 1 + 1) 0 rfl m3.cells (fun w' hb => (Lows.blk hb 3 rfl).all) _ Try.underlying36 rfl HU3.out) (by assumption) ?_
    (try simp only [Act.put, List.setIfInBounds_toArray, List.set_cons_zero, List.set_cons_succ])
    refine step_one 1 rfl (by kernel_rfl) (fun K hK => ?_)
    clear hHeld
    go_simp
    refine (EA.out _).mono ?_
    rintro e wy2 ⟨X1, f1, rfl, hca, hcb, hr, hb⟩
    replace HM := Lib.hid (show Lows w [rdL X1 (msLen 1) (encB 1 m1), rdL A14 (32 + kd) eo, blkL P13 40 (tranC r q (some ⟨g9, 0, none⟩) (16 + kd) c9), rdL (some ⟨g9, 0, none⟩) (16 + kd) (List.replicate 16 (0 : UInt8) ++ lb.take kd), blkL (w.heap.size + 1 + 1) 36 m3.cells, blkL (w.heap.size + 1) 32 m2.cells, blkL w.heap.size 30 m1.cells, rdL A kd (lb.take kd)] wy2 from (HM.out.below hb).cons (rdL X1 (msLen 1) (encB 1 m1)) (hr))
    clear hb
    have HF1 := Lib.hid (And.intro hca hcb)
    clear hr hca hcb
    go_wp2_with fail
    refine hK.out _ _ (HM.out.tail 0) (fun hHeld => ?_)
    clear hK K
    (try simp only [Act.put, List.setIfInBounds_toArray, List.set_cons_zero, List.set_cons_succ])
    refine wpAnyH_stronger (T := fun W' => Lows w [rdL X1 (msLen 1) (encB 1 m1), rdL A14 (32 + kd) eo, blkL P13 40 (tranC r q (some ⟨g9, 0, none⟩) (16 + kd) c9), rdL (some ⟨g9, 0, none⟩) (16 + kd) (List.replicate 16 (0 : UInt8) ++ lb.take kd), blkL (w.heap.size + 1 + 1) 36 m3.cells, blkL (w.heap.size + 1) 32 m2.cells, blkL w.heap.size 30 m1.cells, rdL A kd (lb.take kd)] W') (fun _ h' => (h'.tail 0)) _ _ _ _ ?_
    replace hHeld := HM.out
    refine step_one 3 rfl (by kernel_rfl) (fun K hK => ?_)
    clear hHeld
    go_simp
    refine (EB.out _).mono ?_
    rintro e wy3 ⟨X2, f2, rfl, hca, hcb, hr, hb⟩
    replace HM := Lib.hid (show Lows w [rdL X2 (msLen 2) (encB 2 m2), rdL X1 (msLen 1) (encB 1 m1), rdL A14 (32 + kd) eo, blkL P13 40 (tranC r q (some ⟨g9, 0, none⟩) (16 + kd) c9), rdL (some ⟨g9, 0, none⟩) (16 + kd) (List.replicate 16 (0 : UInt8) ++ lb.take kd), blkL (w.heap.size + 1 + 1) 36 m3.cells, blkL (w.heap.size + 1) 32 m2.cells, blkL w.heap.size 30 m1.cells, rdL A kd (lb.take kd)] wy3 from (HM.out.below hb).cons (rdL X2 (msLen 2) (encB 2 m2)) (hr))
    clear hb
    have HF2 := Lib.hid (And.intro hca hcb)
    clear hr hca hcb
    go_wp2_with fail
    refine hK.out _ _ (HM.out.tail 0) (fun hHeld => ?_)
    clear hK K
    (try simp only [Act.put, List.setIfInBounds_toArray, List.set_cons_zero, List.set_cons_succ])
    refine wpAnyH_stronger (T := fun W' => Lows w [rdL X2 (msLen 2) (encB 2 m2), rdL X1 (msLen 1) (encB 1 m1), rdL A14 (32 + kd) eo, blkL P13 40 (tranC r q (some ⟨g9, 0, none⟩) (16 + kd) c9), rdL (some ⟨g9, 0, none⟩) (16 + kd) (List.replicate 16 (0 : UInt8) ++ lb.take kd), blkL (w.heap.size + 1 + 1) 36 m3.cells, blkL (w.heap.size + 1) 32 m2.cells, blkL w.heap.size 30 m1.cells, rdL A kd (lb.take kd)] W') (fun _ h' => (h'.tail 0)) _ _ _ _ ?_
    replace hHeld := HM.out
    refine step_one 5 rfl (by kernel_rfl) (fun K hK => ?_)
    clear hHeld
    go_simp
    refine (EC.out _).mono ?_
    rintro e wy4 ⟨X3, f3, rfl, hca, hcb, hr, hb⟩
    replace HM := Lib.hid (show Lows w [rdL X3 (msLen 3) (encB 3 m3), rdL X2 (msLen 2) (encB 2 m2), rdL X1 (msLen 1) (encB 1 m1), rdL A14 (32 + kd) eo, blkL P13 40 (tranC r q (some ⟨g9, 0, none⟩) (16 + kd) c9), rdL (some ⟨g9, 0, none⟩) (16 + kd) (List.replicate 16 (0 : UInt8) ++ lb.take kd), blkL (w.heap.size + 1 + 1) 36 m3.cells, blkL (w.heap.size + 1) 32 m2.cells, blkL w.heap.size 30 m1.cells, rdL A kd (lb.take kd)] wy4 from (HM.out.below hb).cons (rdL X3 (msLen 3) (encB 3 m3)) (hr))
    clear hb
    have HF3 := Lib.hid (And.intro hca hcb)
    clear hr hca hcb
    go_wp2_with fail
    refine hK.out _ _ (HM.out.tail 0) (fun hHeld => ?_)
    clear hK K
    (try simp only [Act.put, List.setIfInBounds_toArray, List.set_cons_zero, List.set_cons_succ])
    refine wpAnyH_stronger (T := fun W' => Lows w [rdL X3 (msLen 3) (encB 3 m3), rdL X2 (msLen 2) (encB 2 m2), rdL X1 (msLen 1) (encB 1 m1), rdL A14 (32 + kd) eo, blkL P13 40 (tranC r q (some ⟨g9, 0, none⟩) (16 + kd) c9), rdL (some ⟨g9, 0, none⟩) (16 + kd) (List.replicate 16 (0 : UInt8) ++ lb.take kd), blkL (w.heap.size + 1 + 1) 36 m3.cells, blkL (w.heap.size + 1) 32 m2.cells, blkL w.heap.size 30 m1.cells, rdL A kd (lb.take kd)] W') (fun _ h' => (h'.tail 0)) _ _ _ _ ?_
    replace hHeld := HM.out
    refine take_first (v := ?_) 6 rfl (by kernel_rfl) (by kernel_rfl) (by kernel_rfl) (fun _ _ _ h => h) (Or.inl ⟨by rfl, ?_⟩) (by assumption) ?_
    rotate_left
    · (intro w hSw; (try dsimp only at hSw); go_simp; try with_reducible rfl)
    (try simp only [Act.put, List.setIfInBounds_toArray, List.set_cons_zero, List.set_cons_succ])
    refine take_first (v := ?_) 7 rfl (by kernel_rfl) (by kernel_rfl) (by kernel_rfl) (fun _ _ _ h => h) (Or.inl ⟨by rfl, ?_⟩) (by assumption) ?_
    rotate_left
    · (intro w hSw; (try dsimp only at hSw); go_simp; try with_reducible rfl)
    (try simp only [Act.put, List.setIfInBounds_toArray, List.set_cons_zero, List.set_cons_succ])
    refine take_first (v := ?_) 8 rfl (by kernel_rfl) (by kernel_rfl) (by kernel_rfl) (fun _ _ _ h => h) (Or.inl ⟨by rfl, ?_⟩) (by assumption) ?_
    rotate_left
    · (intro w hSw; (try dsimp only at hSw); go_simp; try with_reducible rfl)
    (try simp only [Act.put, List.setIfInBounds_toArray, List.set_cons_zero, List.set_cons_succ])
    refine wpAnyH_done (by kernel_rfl) ?_ _
    clear hHeld
    have DA := Lib.hid (fun W h => HDA0.out X1 (msLen 1) f1 (encB 1 m1) HF1.out.1 HF1.out.2 (by decide) W h)
    have DB := Lib.hid (fun W h => HDB0.out X2 (msLen 2) f2 (encB 2 m2) HF2.out.1 HF2.out.2 (by decide) W h)
    have DC := Lib.hid (fun W h => HDC0.out X3 (msLen 3) f3 (encB 3 m3) HF3.out.1 HF3.out.2 (by decide) W h)
    have DX := Lib.hid (fun W h => HDB0.out X1 (msLen 1) f1 (encB 1 m1) HF1.out.1 HF1.out.2 (by decide) W h)
    have KA := Lib.hid (fun W h => HKN0.out X1 (msLen 1) f1 (encB 1 m1) HF1.out.1 HF1.out.2 (by decide) W h)
    have KB := Lib.hid (fun W h => HKN0.out X2 (msLen 2) f2 (encB 2 m2) HF2.out.1 HF2.out.2 (by decide) W h)
    have KC := Lib.hid (fun W h => HKN0.out X3 (msLen 3) f3 (encB 3 m3) HF3.out.1 HF3.out.2 (by decide) W h)
    rw [HQ.out.1, HC1.out] at DA
    rw [HQ.out.2.1, HC2.out] at DB
    rw [HQ.out.2.2.1, HC3.out] at DC
    rw [HQ.out.2.2.2.1, HZ2.out] at DX
    rw [HQ.out.2.2.2.2.1] at KA
    rw [HQ.out.2.2.2.2.2.1] at KB
    rw [HQ.out.2.2.2.2.2.2] at KC
    dsimp only at DA DB DC DX
    have hm1 : ((msLen 1 : Nat) : Int) = 148 := rfl
    have hm2 : ((msLen 2 : Nat) : Int) = 92 := rfl
    have hm3 : ((msLen 3 : Nat) : Int) = 64 := rfl
    generalize hwq : wy4 = w4 at HM ⊢
    clear hwq
    go_wp2_with fail
    refine (DA.out _ (HM.out.rd 2 rfl)).mono ?_
    rintro e wi4 ⟨rfl, hb⟩
    replace HM := Lib.hid (HM.out.below hb)
    clear hb
    have hA : Blk (wi4.alloc (.cells zc1 30)) wi4.heap.size 30 (msg0 1).cells := by
      have h := Blk.new wi4 30 (msg0 1).cells
      rw [show (msg0 1).cells.toArray = zc1 by kernel_rfl] at h
      exact h
    go_upto_region 5 with (refine wpList_store_blk rfl 30 (.tmp 19) (.tmp 52) rfl wi4.heap.size m1.cells rfl (by show Value.agg cm1 = _; rw [HC1.out]) 30 (msg0 1).cells hA HU1.out (by first | (rw [HL1.out]; rfl) | rfl) (MsgM.one _) ?_; intro wj4 hb hg)
    have hm9 := HM.out.stored (arr := zc1) hg hb
    generalize wi4.heap.size = P19 at hm9 ⊢
    replace HM := Lib.hid (show Lows w [blkL P19 30 m1.cells, rdL X3 (msLen 3) (encB 3 m3), rdL X2 (msLen 2) (encB 2 m2), rdL X1 (msLen 1) (encB 1 m1), rdL A14 (32 + kd) eo, blkL P13 40 (tranC r q (some ⟨g9, 0, none⟩) (16 + kd) c9), rdL (some ⟨g9, 0, none⟩) (16 + kd) (List.replicate 16 (0 : UInt8) ++ lb.take kd), blkL (w.heap.size + 1 + 1) 36 m3.cells, blkL (w.heap.size + 1) 32 m2.cells, blkL w.heap.size 30 m1.cells, rdL A kd (lb.take kd)] wj4 from hm9)
    clear hA hb hg hm9
    go_wp2_with fail
    refine (DB.out _ (HM.out.rd 2 rfl)).mono ?_
    rintro e wi5 ⟨rfl, hb⟩
    replace HM := Lib.hid (HM.out.below hb)
    clear hb
    have hA : Blk (wi5.alloc (.cells zc2 32)) wi5.heap.size 32 (msg0 2).cells := by
      have h := Blk.new wi5 32 (msg0 2).cells
      rw [show (msg0 2).cells.toArray = zc2 by kernel_rfl] at h
      exact h
    go_upto_region 6 with (refine wpList_store_blk rfl 32 (.tmp 21) (.tmp 57) rfl wi5.heap.size m2.cells rfl (by show Value.agg cm2 = _; rw [HC2.out]) 32 (msg0 2).cells hA HU2.out (by first | (rw [HL2.out]; rfl) | rfl) (MsgM.one _) ?_; intro wj5 hb hg)
    have hm9 := HM.out.stored (arr := zc2) hg hb
    generalize wi5.heap.size = P21 at hm9 ⊢
    replace HM := Lib.hid (show Lows w [blkL P21 32 m2.cells, blkL P19 30 m1.cells, rdL X3 (msLen 3) (encB 3 m3), rdL X2 (msLen 2) (encB 2 m2), rdL X1 (msLen 1) (encB 1 m1), rdL A14 (32 + kd) eo, blkL P13 40 (tranC r q (some ⟨g9, 0, none⟩) (16 + kd) c9), rdL (some ⟨g9, 0, none⟩) (16 + kd) (List.replicate 16 (0 : UInt8) ++ lb.take kd), blkL (w.heap.size + 1 + 1) 36 m3.cells, blkL (w.heap.size + 1) 32 m2.cells, blkL w.heap.size 30 m1.cells, rdL A kd (lb.take kd)] wj5 from hm9)
    clear hA hb hg hm9
    go_wp2_with fail
    refine (DC.out _ (HM.out.rd 2 rfl)).mono ?_
    rintro e wi6 ⟨rfl, hb⟩
    replace HM := Lib.hid (HM.out.below hb)
    clear hb
    have hA : Blk (wi6.alloc (.cells #[.int .u32 0, .int .u8 0, .int .u8 0, .int .u8 0, .int .u8 0, .int .u8 0, .int .u8 0, .int .u8 0, .int .u8 0, .int .u8 0, .int .u8 0, .int .u8 0, .int .u8 0, .int .u8 0, .int .u8 0, .int .u8 0, .int .u8 0, .int .u8 0, .int .u8 0, .int .u8 0, .int .u8 0, .int .u8 0, .int .u8 0, .int .u8 0, .int .u8 0, .int .u8 0, .int .u8 0, .int .u8 0, .int .u8 0, .int .u8 0, .int .u8 0, .int .u8 0, .int .u8 0, .int .u8 0, .int .u8 0, .int .u8 0, .int .u8 0, .int .u8 0, .int .u8 0, .int .u8 0, .int .u8 0, .int .u8 0, .int .u8 0, .int .u8 0, .int .u8 0, .int .u8 0, .int .u8 0, .int .u8 0, .int .u8 0, .int .u8 0, .int .u8 0, .int .u8 0, .int .u8 0, .int .u8 0, .int .u8 0, .int .u8 0, .int .u8 0] 36)) wi6.heap.size 36 (msg0 3).cells := by
      have h := Blk.new wi6 36 (msg0 3).cells
      rw [show (msg0 3).cells.toArray = #[.int .u32 0, .int .u8 0, .int .u8 0, .int .u8 0, .int .u8 0, .int .u8 0, .int .u8 0, .int .u8 0, .int .u8 0, .int .u8 0, .int .u8 0, .int .u8 0, .int .u8 0, .int .u8 0, .int .u8 0, .int .u8 0, .int .u8 0, .int .u8 0, .int .u8 0, .int .u8 0, .int .u8 0, .int .u8 0, .int .u8 0, .int .u8 0, .int .u8 0, .int .u8 0, .int .u8 0, .int .u8 0, .int .u8 0, .int .u8 0, .int .u8 0, .int .u8 0, .int .u8 0, .int .u8 0, .int .u8 0, .int .u8 0, .int .u8 0, .int .u8 0, .int .u8 0, .int .u8 0, .int .u8 0, .int .u8 0, .int .u8 0, .int .u8 0, .int .u8 0, .int .u8 0, .int .u8 0, .int .u8 0, .int .u8 0, .int .u8 0, .int .u8 0, .int .u8 0, .int .u8 0, .int .u8 0, .int .u8 0, .int .u8 0, .int .u8 0] by kernel_rfl] at h
      exact h
    go_upto_region 7 with (refine wpList_store_blk rfl 36 (.tmp 23) (.tmp 62) rfl wi6.heap.size m3.cells rfl (by show Value.agg cm3 = _; rw [HC3.out]) 36 (msg0 3).cells hA HU3.out (by first | (rw [HL3.out]; rfl) | rfl) (MsgM.one _) ?_; intro wj6 hb hg)
    have hm9 := HM.out.stored (arr := #[.int .u32 0, .int .u8 0, .int .u8 0, .int .u8 0, .int .u8 0, .int .u8 0, .int .u8 0, .int .u8 0, .int .u8 0, .int .u8 0, .int .u8 0, .int .u8 0, .int .u8 0, .int .u8 0, .int .u8 0, .int .u8 0, .int .u8 0, .int .u8 0, .int .u8 0, .int .u8 0, .int .u8 0, .int .u8 0, .int .u8 0, .int .u8 0, .int .u8 0, .int .u8 0, .int .u8 0, .int .u8 0, .int .u8 0, .int .u8 0, .int .u8 0, .int .u8 0, .int .u8 0, .int .u8 0, .int .u8 0, .int .u8 0, .int .u8 0, .int .u8 0, .int .u8 0, .int .u8 0, .int .u8 0, .int .u8 0, .int .u8 0, .int .u8 0, .int .u8 0, .int .u8 0, .int .u8 0, .int .u8 0, .int .u8 0, .int .u8 0, .int .u8 0, .int .u8 0, .int .u8 0, .int .u8 0, .int .u8 0, .int .u8 0, .int .u8 0]) hg hb
    generalize wi6.heap.size = P23 at hm9 ⊢
    replace HM := Lib.hid (show Lows w [blkL P23 36 m3.cells, blkL P21 32 m2.cells, blkL P19 30 m1.cells, rdL X3 (msLen 3) (encB 3 m3), rdL X2 (msLen 2) (encB 2 m2), rdL X1 (msLen 1) (encB 1 m1), rdL A14 (32 + kd) eo, blkL P13 40 (tranC r q (some ⟨g9, 0, none⟩) (16 + kd) c9), rdL (some ⟨g9, 0, none⟩) (16 + kd) (List.replicate 16 (0 : UInt8) ++ lb.take kd), blkL (w.heap.size + 1 + 1) 36 m3.cells, blkL (w.heap.size + 1) 32 m2.cells, blkL w.heap.size 30 m1.cells, rdL A kd (lb.take kd)] wj6 from hm9)
    clear hA hb hg hm9
    go_wp2_with fail
    refine (DT.out _ (HM.out.rd 6 rfl)).mono ?_
    rintro e wi7 ⟨A25, c25, rfl, hr9, hb⟩
    replace HM := Lib.hid (show Lows w [rdL A25 (16 + kd) (List.replicate 16 (0 : UInt8) ++ lb.take kd), blkL P23 36 m3.cells, blkL P21 32 m2.cells, blkL P19 30 m1.cells, rdL X3 (msLen 3) (encB 3 m3), rdL X2 (msLen 2) (encB 2 m2), rdL X1 (msLen 1) (encB 1 m1), rdL A14 (32 + kd) eo, blkL P13 40 (tranC r q (some ⟨g9, 0, none⟩) (16 + kd) c9), rdL (some ⟨g9, 0, none⟩) (16 + kd) (List.replicate 16 (0 : UInt8) ++ lb.take kd), blkL (w.heap.size + 1 + 1) 36 m3.cells, blkL (w.heap.size + 1) 32 m2.cells, blkL w.heap.size 30 m1.cells, rdL A kd (lb.take kd)] wi7 from (HM.out.below hb).cons (rdL A25 (16 + kd) (List.replicate 16 (0 : UInt8) ++ lb.take kd)) hr9)
    clear hb hr9
    have hA : Blk (wi7.alloc (.cells #[.int .u32 0, .int .u64 0, .slice none 0 0] 40)) wi7.heap.size 40 [Value.int .u32 0, .int .u64 0, .slice none 0 0] := Blk.new wi7 40 [Value.int .u32 0, .int .u64 0, .slice none 0 0]
    go_upto_region 8 with (refine wpList_store_blk rfl 40 (.tmp 25) (.tmp 67) rfl wi7.heap.size (tranC r q A25 (16 + kd) c25) rfl (by rfl) 40 [Value.int .u32 0, .int .u64 0, .slice none 0 0] hA (by kernel_rfl) (by rfl) tran_one ?_; intro wj7 hb hg)
    have hm9 := HM.out.stored (arr := #[.int .u32 0, .int .u64 0, .slice none 0 0]) hg hb
    generalize wi7.heap.size = P25 at hm9 ⊢
    replace HM := Lib.hid (show Lows w [blkL P25 40 (tranC r q A25 (16 + kd) c25), rdL A25 (16 + kd) (List.replicate 16 (0 : UInt8) ++ lb.take kd), blkL P23 36 m3.cells, blkL P21 32 m2.cells, blkL P19 30 m1.cells, rdL X3 (msLen 3) (encB 3 m3), rdL X2 (msLen 2) (encB 2 m2), rdL X1 (msLen 1) (encB 1 m1), rdL A14 (32 + kd) eo, blkL P13 40 (tranC r q (some ⟨g9, 0, none⟩) (16 + kd) c9), rdL (some ⟨g9, 0, none⟩) (16 + kd) (List.replicate 16 (0 : UInt8) ++ lb.take kd), blkL (w.heap.size + 1 + 1) 36 m3.cells, blkL (w.heap.size + 1) 32 m2.cells, blkL w.heap.size 30 m1.cells, rdL A kd (lb.take kd)] wj7 from hm9)
    clear hA hb hg hm9
    go_wp2_with fail
    refine (DX.out _ (HM.out.rd 7 rfl)).mono ?_
    rintro e wi8 ⟨rfl, hb⟩
    replace HM := Lib.hid (HM.out.below hb)
    clear hb
    have hA : Blk (wi8.alloc (.cells zc2 32)) wi8.heap.size 32 (msg0 2).cells := by
      have h := Blk.new wi8 32 (msg0 2).cells
      rw [show (msg0 2).cells.toArray = zc2 by kernel_rfl] at h
      exact h
    go_upto_region 9 with (refine wpList_store_blk rfl 32 (.tmp 27) (.tmp 72) rfl wi8.heap.size (msg0 2).cells rfl (by show Value.agg cz2 = _; rw [HZ2.out]) 32 (msg0 2).cells hA HUZ2.out (by first | (rw [HLZ2.out]; rfl) | rfl) (MsgM.one _) ?_; intro wj8 hb hg)
    have hm9 := HM.out.stored (arr := zc2) hg hb
    generalize wi8.heap.size = P27 at hm9 ⊢
    replace HM := Lib.hid (show Lows w [blkL P27 32 (msg0 2).cells, blkL P25 40 (tranC r q A25 (16 + kd) c25), rdL A25 (16 + kd) (List.replicate 16 (0 : UInt8) ++ lb.take kd), blkL P23 36 m3.cells, blkL P21 32 m2.cells, blkL P19 30 m1.cells, rdL X3 (msLen 3) (encB 3 m3), rdL X2 (msLen 2) (encB 2 m2), rdL X1 (msLen 1) (encB 1 m1), rdL A14 (32 + kd) eo, blkL P13 40 (tranC r q (some ⟨g9, 0, none⟩) (16 + kd) c9), rdL (some ⟨g9, 0, none⟩) (16 + kd) (List.replicate 16 (0 : UInt8) ++ lb.take kd), blkL (w.heap.size + 1 + 1) 36 m3.cells, blkL (w.heap.size + 1) 32 m2.cells, blkL w.heap.size 30 m1.cells, rdL A kd (lb.take kd)] wj8 from hm9)
    clear hA hb hg hm9
    go_wp2_with fail
    refine (DY.out _ (HM.out.rd 9 rfl)).mono ?_
    rintro e wi9 ⟨rfl, hb⟩
    replace HM := Lib.hid (HM.out.below hb)
    clear hb
    have hA : Blk (wi9.alloc (.cells #[.int .u32 0, .int .u8 0, .int .u8 0, .int .u8 0, .int .u8 0, .int .u8 0, .int .u8 0, .int .u8 0, .int .u8 0, .int .u8 0, .int .u8 0, .int .u8 0, .int .u8 0, .int .u8 0, .int .u8 0, .int .u8 0, .int .u8 0, .int .u8 0, .int .u8 0, .int .u8 0, .int .u8 0, .int .u8 0, .int .u8 0, .int .u8 0, .int .u8 0, .int .u8 0, .int .u8 0, .int .u8 0, .int .u8 0, .int .u8 0, .int .u8 0, .int .u8 0, .int .u8 0, .int .u8 0, .int .u8 0, .int .u8 0, .int .u8 0, .int .u8 0, .int .u8 0, .int .u8 0, .int .u8 0, .int .u8 0, .int .u8 0, .int .u8 0, .int .u8 0, .int .u8 0, .int .u8 0, .int .u8 0, .int .u8 0, .int .u8 0, .int .u8 0, .int .u8 0, .int .u8 0, .int .u8 0, .int .u8 0, .int .u8 0, .int .u8 0] 36)) wi9.heap.size 36 (msg0 3).cells := by
      have h := Blk.new wi9 36 (msg0 3).cells
      rw [show (msg0 3).cells.toArray = #[.int .u32 0, .int .u8 0, .int .u8 0, .int .u8 0, .int .u8 0, .int .u8 0, .int .u8 0, .int .u8 0, .int .u8 0, .int .u8 0, .int .u8 0, .int .u8 0, .int .u8 0, .int .u8 0, .int .u8 0, .int .u8 0, .int .u8 0, .int .u8 0, .int .u8 0, .int .u8 0, .int .u8 0, .int .u8 0, .int .u8 0, .int .u8 0, .int .u8 0, .int .u8 0, .int .u8 0, .int .u8 0, .int .u8 0, .int .u8 0, .int .u8 0, .int .u8 0, .int .u8 0, .int .u8 0, .int .u8 0, .int .u8 0, .int .u8 0, .int .u8 0, .int .u8 0, .int .u8 0, .int .u8 0, .int .u8 0, .int .u8 0, .int .u8 0, .int .u8 0, .int .u8 0, .int .u8 0, .int .u8 0, .int .u8 0, .int .u8 0, .int .u8 0, .int .u8 0, .int .u8 0, .int .u8 0, .int .u8 0, .int .u8 0, .int .u8 0] by kernel_rfl] at h
      exact h
    go_upto_region 10 with (refine wpList_store_blk rfl 36 (.tmp 29) (.tmp 77) rfl wi9.heap.size (msg0 3).cells rfl (by show Value.agg cz3 = _; rw [HZ3.out]) 36 (msg0 3).cells hA HUZ3.out (by first | (rw [HLZ3.out]; rfl) | rfl) (MsgM.one _) ?_; intro wj9 hb hg)
    have hm9 := HM.out.stored (arr := #[.int .u32 0, .int .u8 0, .int .u8 0, .int .u8 0, .int .u8 0, .int .u8 0, .int .u8 0, .int .u8 0, .int .u8 0, .int .u8 0, .int .u8 0, .int .u8 0, .int .u8 0, .int .u8 0, .int .u8 0, .int .u8 0, .int .u8 0, .int .u8 0, .int .u8 0, .int .u8 0, .int .u8 0, .int .u8 0, .int .u8 0, .int .u8 0, .int .u8 0, .int .u8 0, .int .u8 0, .int .u8 0, .int .u8 0, .int .u8 0, .int .u8 0, .int .u8 0, .int .u8 0, .int .u8 0, .int .u8 0, .int .u8 0, .int .u8 0, .int .u8 0, .int .u8 0, .int .u8 0, .int .u8 0, .int .u8 0, .int .u8 0, .int .u8 0, .int .u8 0, .int .u8 0, .int .u8 0, .int .u8 0, .int .u8 0, .int .u8 0, .int .u8 0, .int .u8 0, .int .u8 0, .int .u8 0, .int .u8 0, .int .u8 0, .int .u8 0]) hg hb
    generalize wi9.heap.size = P29 at hm9 ⊢
    replace HM := Lib.hid (show Lows w [blkL P29 36 (msg0 3).cells, blkL P27 32 (msg0 2).cells, blkL P25 40 (tranC r q A25 (16 + kd) c25), rdL A25 (16 + kd) (List.replicate 16 (0 : UInt8) ++ lb.take kd), blkL P23 36 m3.cells, blkL P21 32 m2.cells, blkL P19 30 m1.cells, rdL X3 (msLen 3) (encB 3 m3), rdL X2 (msLen 2) (encB 2 m2), rdL X1 (msLen 1) (encB 1 m1), rdL A14 (32 + kd) eo, blkL P13 40 (tranC r q (some ⟨g9, 0, none⟩) (16 + kd) c9), rdL (some ⟨g9, 0, none⟩) (16 + kd) (List.replicate 16 (0 : UInt8) ++ lb.take kd), blkL (w.heap.size + 1 + 1) 36 m3.cells, blkL (w.heap.size + 1) 32 m2.cells, blkL w.heap.size 30 m1.cells, rdL A kd (lb.take kd)] wj9 from hm9)
    clear hA hb hg hm9
    go_wp2_with fail
    simp only [List.append_eq, List.cons_append, List.nil_append]
    go_wp2_with (first | (refine wpList_load_obj_g (by rfl) 30 (.tmp 19) rfl P19 0 rfl m1.cells (HM.out.blk 6 rfl).all _ Try.underlying30 rfl HU1.out ?_; rw [HC1.out]) | (refine wpList_load_obj_g (by rfl) 30 (.tmp 6) rfl w.heap.size 0 rfl m1.cells (HM.out.blk 15 rfl).all _ Try.underlying30 rfl HU1.out ?_; rw [HC1.out]) | (refine wpList_load_obj_g (by rfl) 32 (.tmp 21) rfl P21 0 rfl m2.cells (HM.out.blk 5 rfl).all _ Try.underlying32 rfl HU2.out ?_; rw [HC2.out]) | (refine wpList_load_obj_g (by rfl) 32 (.tmp 7) rfl (w.heap.size + 1) 0 rfl m2.cells (HM.out.blk 14 rfl).all _ Try.underlying32 rfl HU2.out ?_; rw [HC2.out]) | (refine wpList_load_obj_g (by rfl) 36 (.tmp 23) rfl P23 0 rfl m3.cells (HM.out.blk 4 rfl).all _ Try.underlying36 rfl HU3.out ?_; rw [HC3.out]) | (refine wpList_load_obj_g (by rfl) 36 (.tmp 8) rfl (w.heap.size + 1 + 1) 0 rfl m3.cells (HM.out.blk 13 rfl).all _ Try.underlying36 rfl HU3.out ?_; rw [HC3.out]) | (refine wpList_load_obj_g (by rfl) 40 (.tmp 25) rfl P25 0 rfl (tranC r q A25 (16 + kd) c25) (HM.out.blk 2 rfl).all _ Try.underlying40 rfl (by kernel_rfl) ?_) | (refine wpList_load_obj_g (by rfl) 40 (.tmp 13) rfl P13 0 rfl (tranC r q (some ⟨g9, 0, none⟩) (16 + kd) c9) (HM.out.blk 11 rfl).all _ Try.underlying40 rfl (by kernel_rfl) ?_) | (refine wpList_eql_agg (by rfl) 30 30 106 107 rfl cm1 cm1 true rfl rfl msg_noguard1 (HS1.out _) ?_) | (refine wpList_eql_agg (by rfl) 32 32 111 112 rfl cm2 cm2 true rfl rfl msg_noguard2 (HS2.out _) ?_) | (refine wpList_eql_agg (by rfl) 36 36 116 117 rfl cm3 cm3 true rfl rfl msg_noguard3 (HS3.out _) ?_))
    refine (sameTran_any r q A25 (some ⟨g9, 0, none⟩) (16 + kd) c25 c9 (List.replicate 16 (0 : UInt8) ++ lb.take kd) _ (HM.out.rd 3 rfl) (HM.out.rd 12 rfl)).mono ?_
    rintro e wk ⟨rfl, hb⟩
    replace HM := Lib.hid (HM.out.below hb)
    clear hb
    have f2 : wk.cell? ⟨P13, 2, none⟩ = some (.slice (some ⟨g9, 0, none⟩) (16 + kd) c9) := (HM.out.blk 11 rfl).cell 2
    have hlen1 : IntKind.i64.wrap (16 + ((16 + kd : Nat) : Int)) = ((32 + kd : Nat) : Int) := by rw [IntWalk.i64_in _ (by omega)]; omega
    have hlen2 : (16 : Int) + ((16 + kd : Nat) : Int) = ((32 + kd : Nat) : Int) := by omega
    go_wp2_with fail
    refine (KA.out _ (HM.out.rd 9 rfl)).mono ?_
    rintro e wl0 ⟨rfl, hb⟩
    replace HM := Lib.hid (HM.out.below hb)
    clear hb
    go_wp2_with fail
    refine (KB.out _ (HM.out.rd 8 rfl)).mono ?_
    rintro e wl1 ⟨rfl, hb⟩
    replace HM := Lib.hid (HM.out.below hb)
    clear hb
    go_wp2_with fail
    refine (KC.out _ (HM.out.rd 7 rfl)).mono ?_
    rintro e wl2 ⟨rfl, hb⟩
    replace HM := Lib.hid (HM.out.below hb)
    clear hb
    go_wp2_with fail
    refine (KT.out _ (HM.out.rd 10 rfl)).mono ?_
    rintro e wl3 ⟨rfl, hb⟩
    replace HM := Lib.hid (HM.out.below hb)
    clear hb
    go_wp2_with fail
    refine (HBG.out _).mono ?_
    rintro e wz ⟨rfl, hb⟩
    have HF := Lib.hid (HM.out.below hb).bel
    clear hb HM
    go_wp2_with fail
    go_ret
    exact ⟨rfl, HF.out⟩
end Go.Proofs.Ytaolhndbpgjlcaa
