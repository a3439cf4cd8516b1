/-
  MacsChecks returns true for every input, and changes nothing that was there: the walk. Codes are laid into the cells of a message. What is asked of an encoder whose bytes lie in memory of its own. A message with other codes, and what is asked of the function that encodes it. The bytes of a text, laid in memory of the call. The contract of math/bits.RotateLeft32 at the four distances of ChaCha20. The contracts of math/bits.RotateLeft32 at the distances of BLAKE2s, and of blake.mix. Words for a region that draws its order, in which several loads may come up at once, all ahead of what changes memory: such a load can be taken first, though its cell is written later. The builtin copy of bytes that are read somewhere to the beginning of a block. The contract of codec.ReadLittle: the number of the first eight bytes at most. The contract of blake.blockOf: the words of at most 64 bytes, with zero bytes behind them. No statement is proved here.
-/
import Derived.Lib.ConvBytes
import Derived.Laws.ShiftsVarLaws
import Derived.Laws.Bits64
import Derived.Deep.DeepCutAuto
import Derived.Test.YtlddafkikkaonaaDoorMacsChecksB7
namespace Go.Proofs.YtlddafkikkaonaaDoor
open Go.RowKit

set_option maxRecDepth 100000 in
set_option maxHeartbeats 16000000 in
set_option linter.unusedSimpArgs false in
theorem mc_checks_walk (HSI : McSealC 7 1) (HC1 : McCheck1C 17) (HC2 : McCheck2C 19) (w : World) (hlv : LvBlake w)
    (p p2 ck : List UInt8) (hp : p.length = 32) (hp2 : p2.length = 32) (hck : ck.length = 16) (m1 m2 : MsgM) (hok1 : m1.ok 1) (hok2 : m2.ok 2) (wh ia ib : Nat) (hia : ia ≤ 255) (hib : ib ≤ 255) (Ar : Option Addr) (nb cr : Nat) (lr : List UInt8) (hnb : nb ≤ cr) (hcr : cr ≤ maxLen) (hrr : Rd w w.heap.size Ar nb lr) :
    Calls Tryd.prog 4 #[.agg (p.map u8v).toArray, .agg (p2.map u8v).toArray, .agg (ck.map u8v).toArray, .agg m1.cells.toArray, .agg m2.cells.toArray, .int .u8 (wh : Int), .int .u8 (ia : Int), .int .u8 (ib : Int), .slice Ar nb cr] w fun e w' => e = .returned (.bool true) ∧ Below w.heap.size w w' := by
  obtain ⟨i0, hi, hz0, hz1, hz2⟩ := info_parts Tryd.info5
  have HLV := Lib.hid hlv
  have HBG := Lib.hid (fun W (h : LvBlake W) => mc_begun_any HSI HC1 W h)
  obtain ⟨v, hv⟩ : ∃ v : UInt8, v.toNat = ib := ⟨UInt8.ofNat ib, by rw [UInt8.toNat_ofNat']; exact Nat.mod_eq_of_lt (by omega)⟩
  subst hv
  obtain ⟨u1, he1⟩ : ∃ u : Int, bits BinOp.and IntKind.u8 (wh : Int) 1 = u := ⟨_, rfl⟩
  obtain ⟨has, he2⟩ : ∃ b, (u1 == 0) = b := ⟨_, rfl⟩
  obtain ⟨u2, he3⟩ : ∃ u : Int, bits BinOp.and IntKind.u8 (wh : Int) 2 = u := ⟨_, rfl⟩
  obtain ⟨two, he4⟩ : ∃ b, (u2 == 2) = b := ⟨_, rfl⟩
  have HE1 := Lib.hid he1
  have HE2 := Lib.hid he2
  have hs1 := refSealI p ck hp hck has m1 hok1
  have hs2 := refSealR p ck hp hck has m2 hok2
  have hc1 := HC1
  have hc2 := HC2 ck hck
  obtain ⟨kd, hk⟩ : ∃ k, min nb 160 = k := ⟨_, rfl⟩
  have HCU := Lib.hid (caseCut_any Ar nb cr 160 kd (by omega) hnb hcr hk)
  have HNUM := Lib.hid (show kd ≤ nb ∧ kd ≤ 160 ∧ kd ≤ cr ∧ cr ≤ maxLen from by omega)
  have ha1 : (macM p 1 m1).length = 16 := macM_length _ _ _
  generalize encB 1 (sealM p has ck 1 m1) = X1 at hs1
  generalize encB 2 (sealM p has ck 2 m2) = X2 at hs2
  generalize macM p 1 m1 = mt1 at hs1 ha1
  generalize macM p 2 m2 = mt2 at hs2
  have hl1 := MsgM.cells_length hok1
  have hl2 := MsgM.cells_length hok2
  have HU1 := Lib.hid (show (Tryd.prog.info? 35).map (·.size) = some m1.cells.length from by rw [hl1]; kernel_rfl)
  have HU2 := Lib.hid (show (Tryd.prog.info? 37).map (·.size) = some m2.cells.length from by rw [hl2]; kernel_rfl)
  have HP := Lib.hid hp
  have HP2 := Lib.hid hp2
  have HK := Lib.hid hck
  have HMT1 := Lib.hid ha1
  obtain ⟨cp, hcp⟩ : ∃ z, (p.map u8v).toArray = z := ⟨_, rfl⟩
  obtain ⟨co, hco⟩ : ∃ z, (p2.map u8v).toArray = z := ⟨_, rfl⟩
  obtain ⟨cc, hcc⟩ : ∃ z, (ck.map u8v).toArray = z := ⟨_, rfl⟩
  obtain ⟨cm1, hcm1⟩ : ∃ z, m1.cells.toArray = z := ⟨_, rfl⟩
  obtain ⟨cm2, hcm2⟩ : ∃ z, m2.cells.toArray = z := ⟨_, rfl⟩
  obtain ⟨ct1, hct1⟩ : ∃ z, (mt1.map u8v).toArray = z := ⟨_, rfl⟩
  obtain ⟨ct2, hct2⟩ : ∃ z, (mt2.map u8v).toArray = z := ⟨_, rfl⟩
  rw [hcp, hcc, hcm1, hct1] at hs1
  rw [hcp, hcc, hcm2, hct2] at hs2
  have HS1 := Lib.hid hs1
  have HS2 := Lib.hid hs2
  have HC1P := Lib.hid hc1
  have HC2P := Lib.hid hc2
  have HCP := Lib.hid hcp
  have HCO := Lib.hid hco
  have HCC := Lib.hid hcc
  have HCM1 := Lib.hid hcm1
  have HCM2 := Lib.hid hcm2
  have HCT1 := Lib.hid hct1
  rw [hcp, hco, hcc, hcm1, hcm2]
  have HM := Lib.hid (show Lows w [blkL (w.heap.size + 1 + 1 + 1 + 1) 37 m2.cells, blkL (w.heap.size + 1 + 1 + 1) 35 m1.cells, blkL (w.heap.size + 1 + 1) 30 (ck.map u8v), blkL (w.heap.size + 1) 23 (p2.map u8v), blkL w.heap.size 23 (p.map u8v), rdL Ar nb lr] (((((w.alloc (.cells cp 23)).alloc (.cells co 23)).alloc (.cells cc 30)).alloc (.cells cm1 35)).alloc (.cells cm2 37)) from (((((((Lows.nil w).cons (rdL Ar nb lr) hrr).allocAt rfl 23 cp (p.map u8v) hcp.symm).allocAt (by simp) 23 co (p2.map u8v) hco.symm).allocAt (by simp) 30 cc (ck.map u8v) hcc.symm).allocAt (by simp) 35 cm1 m1.cells hcm1.symm).allocAt (by simp) 37 cm2 m2.cells hcm2.symm))
  clear hs1 hs2 hc1 hc2 ha1 hl1 hl2 hcp hco hcc hcm1 hcm2 hct1 hct2 hp hp2 hck hok1 hok2 hnb hcr hrr hk hib hlv HSI HC1 HC2
  go_enter Tryd.func4, Tryd.ntmps4
  go_upto_region 1 with fail
  generalize (((((w.alloc (.cells cp 23)).alloc (.cells co 23)).alloc (.cells cc 30)).alloc (.cells cm1 35)).alloc (.cells cm2 37)) = w1 at HM ⊢
  go_wp2_with (first | (refine wpList_load_obj rfl 23 (.tmp 9) rfl w.heap.size 0 rfl (p.map u8v) (HM.out.blk 4 rfl).all _ Tryd.underlying23 rfl (cells32 p HP.out) ?_; rw [HCP.out]) | (refine wpList_load_obj rfl 30 (.tmp 11) rfl (w.heap.size + 1 + 1) 0 rfl (ck.map u8v) (HM.out.blk 2 rfl).all _ Tryd.underlying30 rfl (ae_cellsT ck HK.out) ?_; rw [HCC.out]) | (refine wpList_load_obj rfl 35 (.tmp 12) rfl (w.heap.size + 1 + 1 + 1) 0 rfl m1.cells (HM.out.blk 1 rfl).all _ Tryd.underlying35 rfl HU1.out ?_; rw [HCM1.out]))
  refine (HS1.out _ (HLV.out.below HM.out.bel)).mono ?_
  rintro e wa1 ⟨A1, c1, rfl, h11, h12, hr, hb⟩
  replace hr := hr.rd
  rw [show msLen 1 = 148 from rfl] at h11 hr ⊢
  replace HM := Lib.hid (show Lows w [rdL A1 148 X1, blkL (w.heap.size + 1 + 1 + 1 + 1) 37 m2.cells, blkL (w.heap.size + 1 + 1 + 1) 35 m1.cells, blkL (w.heap.size + 1 + 1) 30 (ck.map u8v), blkL (w.heap.size + 1) 23 (p2.map u8v), blkL w.heap.size 23 (p.map u8v), rdL Ar nb lr] wa1 from (HM.out.below hb).cons (rdL A1 148 X1) hr)
  have HC1 := Lib.hid (And.intro h11 h12)
  clear hr hb h11 h12
  have hnew : Blk (wa1.alloc (.cells #[.int .u8 0, .int .u8 0, .int .u8 0, .int .u8 0, .int .u8 0, .int .u8 0, .int .u8 0, .int .u8 0, .int .u8 0, .int .u8 0, .int .u8 0, .int .u8 0, .int .u8 0, .int .u8 0, .int .u8 0, .int .u8 0] 30)) wa1.heap.size 30 ((List.replicate 16 (0 : UInt8)).map u8v) := Blk.new wa1 30 ((List.replicate 16 (0 : UInt8)).map u8v)
  go_upto_region 2 with (refine wpList_store_blk rfl 30 (.tmp 20) (.tmp 35) rfl wa1.heap.size (mt1.map u8v) rfl (by show Value.agg ct1 = _; rw [HCT1.out]) 30 ((List.replicate 16 (0 : UInt8)).map u8v) hnew (ae_cellsT mt1 HMT1.out) (by rw [List.length_map, List.length_map, HMT1.out]; rfl) (u8v_one _) ?_; intro wb1 hb5 hg5)
  (try simp only [Act.put])
  have hm9 := HM.out.stored (arr := #[.int .u8 0, .int .u8 0, .int .u8 0, .int .u8 0, .int .u8 0, .int .u8 0, .int .u8 0, .int .u8 0, .int .u8 0, .int .u8 0, .int .u8 0, .int .u8 0, .int .u8 0, .int .u8 0, .int .u8 0, .int .u8 0]) hg5 hb5
  generalize wa1.heap.size = G1 at hm9 ⊢
  replace HM := Lib.hid (show Lows w [blkL G1 30 (mt1.map u8v), rdL A1 148 X1, blkL (w.heap.size + 1 + 1 + 1 + 1) 37 m2.cells, blkL (w.heap.size + 1 + 1 + 1) 35 m1.cells, blkL (w.heap.size + 1 + 1) 30 (ck.map u8v), blkL (w.heap.size + 1) 23 (p2.map u8v), blkL w.heap.size 23 (p.map u8v), rdL Ar nb lr] wb1 from hm9)
  clear hm9 hb5 hg5 hnew he1 he2
  go_upto_if 38 with fail
  go_cut [19] (fun v19 wx => ∃ A n c X, v19 = .slice A n c ∧ 92 ≤ n ∧ n ≤ 148 ∧ n ≤ c ∧ c ≤ maxLen ∧ Lows w [rdL A n X, blkL (w.heap.size + 1 + 1) 30 (ck.map u8v), blkL (w.heap.size + 1) 23 (p2.map u8v), blkL w.heap.size 23 (p.map u8v), rdL Ar nb lr] wx)
  case first =>
    cases two
    · go_wp2_with fail
      go_meet
      exact ⟨A1, 148, c1, X1, rfl, by omega, by omega, HC1.out.1, HC1.out.2, (((((((Lows.nil w).below HM.out.bel).cons (rdL Ar nb lr) (HM.out.rd 7 rfl)).cons (blkL w.heap.size 23 (p.map u8v)) (HM.out.blk 6 rfl)).cons (blkL (w.heap.size + 1) 23 (p2.map u8v)) (HM.out.blk 5 rfl)).cons (blkL (w.heap.size + 1 + 1) 30 (ck.map u8v)) (HM.out.blk 4 rfl)).cons (rdL A1 148 X1) (HM.out.rd 1 rfl))⟩
    · have he1 := HE1.out
      have he2 := HE2.out
      go_wp2_with (first | (refine wpList_load_obj rfl 23 (.tmp 9) rfl w.heap.size 0 rfl (p.map u8v) (HM.out.blk 6 rfl).all _ Tryd.underlying23 rfl (cells32 p HP.out) ?_; rw [HCP.out]) | (refine wpList_load_obj rfl 30 (.tmp 11) rfl (w.heap.size + 1 + 1) 0 rfl (ck.map u8v) (HM.out.blk 4 rfl).all _ Tryd.underlying30 rfl (ae_cellsT ck HK.out) ?_; rw [HCC.out]) | (refine wpList_load_obj rfl 37 (.tmp 13) rfl (w.heap.size + 1 + 1 + 1 + 1) 0 rfl m2.cells (HM.out.blk 2 rfl).all _ Tryd.underlying37 rfl HU2.out ?_; rw [HCM2.out]))
      refine (HS2.out _ (HLV.out.below HM.out.bel)).mono ?_
      rintro e wa2 ⟨A2, c2, rfl, h21, h22, hr, hb⟩
      replace hr := hr.rd
      rw [show msLen 2 = 92 from rfl] at h21 hr ⊢
      replace HM := Lib.hid (HM.out.below hb)
      clear hb he1 he2
      go_wp2_with fail
      go_meet
      exact ⟨A2, 92, c2, X2, rfl, by omega, by omega, h21, h22, (((((((Lows.nil w).below HM.out.bel).cons (rdL Ar nb lr) (HM.out.rd 7 rfl)).cons (blkL w.heap.size 23 (p.map u8v)) (HM.out.blk 6 rfl)).cons (blkL (w.heap.size + 1) 23 (p2.map u8v)) (HM.out.blk 5 rfl)).cons (blkL (w.heap.size + 1 + 1) 30 (ck.map u8v)) (HM.out.blk 4 rfl)).cons (rdL A2 92 X2) (hr))⟩
  case rest =>
    clear HM HS1 HS2
    revert wc
    intro w2 hcut
    obtain ⟨A, n, c, X, rfl, hn1, hn2, hnc, hcx, hM⟩ := hcut
    have HM := Lib.hid hM
    have HNC := Lib.hid (And.intro hn1 (And.intro hn2 (And.intro hnc hcx)))
    clear hM
    go_upto_region 5 with (refine wpList_append_rd _ rfl (.const (.slice none 0 0)) (.tmp 49) 24 rfl w2.heap.size 5 i0 (.int .u8 0) Tryd.underlying24 hi hz0 hz1 hz2 rfl (.slice none 0 0) 0 [] rfl (World.ownsRow_nil _ _ _ _) _ _ _ _ _ rfl (HM.out.rd 0 rfl) (by omega) (Nat.le_refl _) ?_; intro v1 w3 hown hg)
    rw [Nat.zero_add, List.nil_append] at hown
    obtain ⟨A2, c2, rfl, -⟩ := own_slice hown
    have hoa := own_addr hown
    obtain ⟨g2, rfl⟩ := hoa.2.2 (by omega)
    have HC2 := Lib.hid (And.intro hoa.1 hoa.2.1)
    have hb2 : Below w2.heap.size w2 w3 := (Below.refl _ _).grown hg (Nat.le_refl _) (by intro k hk; cases hk)
    have hg2 := (hown.lt g2 rfl).1
    have hlx : X.length = n := (HM.out.rd 0 rfl).1
    obtain ⟨i, hii⟩ : ∃ i, ia % n = i := ⟨_, rfl⟩
    have hin : i < n := by have := Nat.mod_lt ia (show 0 < n by omega); omega
    have hiI : (ia : Int) % (n : Int) = (i : Int) := by omega
    have hit : ((ia : Int)).tmod (n : Int) = (i : Int) := by rw [Int.tmod_eq_emod_of_nonneg (by omega)]; exact hiI
    have hiw : IntKind.i64.wrap (ia : Int) = (ia : Int) := IntWalk.i64_in _ (by omega)
    have hiw2 : IntKind.i64.wrap (i : Int) = (i : Int) := IntWalk.i64_in _ (by omega)
    have hnz : ¬ n = 0 := by omega
    have hpi : (X.map u8v)[i]? = some (.int .u8 ((X.getD i 0).toNat : Int)) := by
      rw [List.getElem?_map, List.getElem?_eq_getElem (by omega)]
      simp [u8v, List.getD, show i < X.length by omega]
    have fx := (hown.cellAt i (by omega)).trans hpi
    have zx := hown.frozenAt i
    have hst := hown.stored i (.int .u8 (((X.getD i 0) ^^^ v).toNat : Int))
    have hxor := xor_bits (X.getD i 0) v
    have hset : (X.map u8v).set i (.int .u8 (((X.getD i 0) ^^^ v).toNat : Int)) = (X.set i (X.getD i 0 ^^^ v)).map u8v := by rw [List.map_set]; rfl
    rw [hset] at hst
    clear hset hpi hown hg hoa hii
    generalize X.getD i 0 = x0 at fx hst hxor
    generalize hy : x0 ^^^ v = y at hst hxor
    clear hy
    have HST := Lib.hid hst
    clear hst
    have hinx : (i : Int) < (n : Int) := by omega
    go_upto_region 6 with fail
    clear fx zx hxor hiI hit hiw hiw2 hinx hnz
    generalize w3.setCell ⟨g2, i, none⟩ (.int .u8 (y.toNat : Int)) = w4 at HST ⊢
    have hb3 : Below w2.heap.size w2 w4 := hb2.grown HST.out.2 hb2.size (by intro k hk; injection hk with hk; omega)
    generalize X.set i y = Y at HST
    replace HM := Lib.hid (show Lows w [rdL (some ⟨g2, 0, none⟩) n Y, rdL A n X, blkL (w.heap.size + 1 + 1) 30 (ck.map u8v), blkL (w.heap.size + 1) 23 (p2.map u8v), blkL w.heap.size 23 (p.map u8v), rdL Ar nb lr] w4 from (HM.out.below hb3).cons (rdL (some ⟨g2, 0, none⟩) n Y) (Rd.of_own HST.out.1))
    clear hb2 hb3 HST hin hlx hg2
    obtain ⟨m, hm⟩ : ∃ m, n - 1 = m := ⟨_, rfl⟩
    have hmI : (n : Int) - 1 = (m : Int) := by omega
    have hmw : IntKind.i64.wrap (m : Int) = (m : Int) := IntWalk.i64_in _ (by omega)
    obtain ⟨gx, ox, rfl, -, -⟩ := (HM.out.rd 1 rfl).at_ (by omega)
    have HSL := Lib.hid (slice_h (some ⟨gx, ox, none⟩) ⟨gx, ox, rfl⟩ n c m (by omega))
    have HMN := Lib.hid (show m ≤ n from by omega)
    clear hm
    refine wp_region_held_drew (S := fun W' => Lows w [rdL (some ⟨g2, 0, none⟩) n Y, rdL (some ⟨gx, ox, none⟩) n X, blkL (w.heap.size + 1 + 1) 30 (ck.map u8v), blkL (w.heap.size + 1) 23 (p2.map u8v), blkL w.heap.size 23 (p.map u8v), rdL Ar nb lr] W') (by kernel_rfl) (HM.out.drew) (fun hHeld => ?_)
    replace HM := Lib.hid HM.out.drew
    generalize w4.drew = wd1 at HM hHeld ⊢
    refine take_first (v := ?_) 0 rfl (by kernel_rfl) (by kernel_rfl) (by kernel_rfl) (fun _ _ _ h => h) (Or.inl ⟨by rfl, ?_⟩) (by assumption) ?_
    rotate_left
    · (intro w hSw; (try dsimp only at hSw); go_simp; try with_reducible rfl)
    (try simp only [Act.put, List.setIfInBounds_toArray, List.set_cons_zero, List.set_cons_succ])
    refine take_first (v := ?_) 1 rfl (by kernel_rfl) (by kernel_rfl) (by kernel_rfl) (fun _ _ _ h => h) (Or.inl ⟨by rfl, ?_⟩) (by assumption) ?_
    rotate_left
    · (intro w hSw; (try dsimp only at hSw); go_simp; try with_reducible rfl)
    (try simp only [Act.put, List.setIfInBounds_toArray, List.set_cons_zero, List.set_cons_succ])
    refine take_first (v := ?_) 2 rfl (by kernel_rfl) (by kernel_rfl) (by kernel_rfl) (fun _ _ _ h => h) (Or.inl ⟨by rfl, ?_⟩) (by assumption) ?_
    rotate_left
    · (intro w hSw; (try dsimp only at hSw); go_simp; try with_reducible rfl)
    (try simp only [Act.put, List.setIfInBounds_toArray, List.set_cons_zero, List.set_cons_succ])
    refine take_first (v := ?_) 4 rfl (by kernel_rfl) (by kernel_rfl) (by kernel_rfl) (fun _ _ _ h => h) (Or.inl ⟨by rfl, ?_⟩) (by assumption) ?_
    rotate_left
    · (intro w hSw; (try dsimp only at hSw); go_simp; try with_reducible rfl)
    (try simp only [Act.put, List.setIfInBounds_toArray, List.set_cons_zero, List.set_cons_succ])
    refine take_first (v := ?_) 5 rfl (by kernel_rfl) (by kernel_rfl) (by kernel_rfl) (fun _ _ _ h => h) (Or.inl ⟨by rfl, ?_⟩) (by assumption) ?_
    rotate_left
    · (intro w hSw; (try dsimp only at hSw); go_simp; try with_reducible rfl)
    (try simp only [Act.put, List.setIfInBounds_toArray, List.set_cons_zero, List.set_cons_succ])
    refine take_first (v := ?_) 6 rfl (by kernel_rfl) (by kernel_rfl) (by kernel_rfl) (fun _ _ _ h => h) (Or.inl ⟨by rfl, ?_⟩) (by assumption) ?_
    rotate_left
    · (intro w hSw; (try dsimp only at hSw); go_simp; try with_reducible rfl)
    (try simp only [Act.put, List.setIfInBounds_toArray, List.set_cons_zero, List.set_cons_succ])
    refine take_first (v := ?_) 7 rfl (by kernel_rfl) (by kernel_rfl) (by kernel_rfl) (fun _ _ _ h => h) (Or.inl ⟨by rfl, ?_⟩) (by assumption) ?_
    rotate_left
    · (intro w hSw; (try dsimp only at hSw); go_simp; try with_reducible rfl)
    (try simp only [Act.put, List.setIfInBounds_toArray, List.set_cons_zero, List.set_cons_succ])
    refine take_first (v := ?_) 8 rfl (by kernel_rfl) (by kernel_rfl) (by kernel_rfl) (fun _ _ _ h => h) (Or.inl ⟨by rfl, ?_⟩) (by assumption) ?_
    rotate_left
    · (intro w hSw; (try dsimp only at hSw); have sl := HSL.out w; go_simp; try with_reducible rfl)
    (try simp only [Act.put, List.setIfInBounds_toArray, List.set_cons_zero, List.set_cons_succ])
    refine take_first (v := ?_) 11 rfl (by kernel_rfl) (by kernel_rfl) (by kernel_rfl) (fun _ _ _ h => h) (Or.inl ⟨by rfl, ?_⟩) (by assumption) ?_
    rotate_left
    · (intro w hSw; (try dsimp only at hSw); go_simp; try with_reducible rfl)
    (try simp only [Act.put, List.setIfInBounds_toArray, List.set_cons_zero, List.set_cons_succ])
    refine step_one 3 rfl (by kernel_rfl) (fun K hK => ?_)
    clear hHeld
    go_simp
    refine (HCU.out _).mono ?_
    rintro e wy2 ⟨rfl, hb⟩
    have hrk := ((HM.out.below hb).rd 5 rfl).take HNUM.out.1
    replace HM := Lib.hid (show Lows w [rdL Ar kd (lr.take kd), rdL (some ⟨g2, 0, none⟩) n Y, rdL (some ⟨gx, ox, none⟩) n X, blkL (w.heap.size + 1 + 1) 30 (ck.map u8v), blkL (w.heap.size + 1) 23 (p2.map u8v), blkL w.heap.size 23 (p.map u8v), rdL Ar nb lr] wy2 from (HM.out.below hb).cons (rdL Ar kd (lr.take kd)) hrk)
    clear hb hrk
    go_wp2_with fail
    refine hK.out _ _ (HM.out.tail 0) (fun hHeld => ?_)
    clear hK K
    (try simp only [Act.put, List.setIfInBounds_toArray, List.set_cons_zero, List.set_cons_succ])
    refine wpAnyH_stronger (T := fun W' => Lows w [rdL Ar kd (lr.take kd), rdL (some ⟨g2, 0, none⟩) n Y, rdL (some ⟨gx, ox, none⟩) n X, blkL (w.heap.size + 1 + 1) 30 (ck.map u8v), blkL (w.heap.size + 1) 23 (p2.map u8v), blkL w.heap.size 23 (p.map u8v), rdL Ar nb lr] W') (fun _ h' => (h'.tail 0)) _ _ _ _ ?_
    replace hHeld := HM.out
    refine step_one 9 rfl (by kernel_rfl) (fun K hK => ?_)
    clear hHeld
    go_simp
    have hm9 := HM.out.alloc 24 #[.slice (some ⟨gx, ox, none⟩) n c, .slice (some ⟨g2, 0, none⟩) n c2, .slice Ar kd cr, .slice (some ⟨gx, ox, none⟩) m c] ([.slice (some ⟨gx, ox, none⟩) n c, .slice (some ⟨g2, 0, none⟩) n c2, .slice Ar kd cr, .slice (some ⟨gx, ox, none⟩) m c]) rfl
    generalize wy2.alloc (.cells #[.slice (some ⟨gx, ox, none⟩) n c, .slice (some ⟨g2, 0, none⟩) n c2, .slice Ar kd cr, .slice (some ⟨gx, ox, none⟩) m c] 24) = wy3 at hm9 ⊢
    generalize wy2.heap.size = g9 at hm9 ⊢
    replace HM := Lib.hid (show Lows w [blkL g9 24 ([.slice (some ⟨gx, ox, none⟩) n c, .slice (some ⟨g2, 0, none⟩) n c2, .slice Ar kd cr, .slice (some ⟨gx, ox, none⟩) m c]), rdL Ar kd (lr.take kd), rdL (some ⟨g2, 0, none⟩) n Y, rdL (some ⟨gx, ox, none⟩) n X, blkL (w.heap.size + 1 + 1) 30 (ck.map u8v), blkL (w.heap.size + 1) 23 (p2.map u8v), blkL w.heap.size 23 (p.map u8v), rdL Ar nb lr] wy3 from hm9)
    clear hm9
    refine hK.out _ _ (HM.out.tail 0) (fun hHeld => ?_)
    clear hK K
    (try simp only [Act.put, List.setIfInBounds_toArray, List.set_cons_zero, List.set_cons_succ])
    refine wpAnyH_stronger (T := fun W' => Lows w [blkL g9 24 ([.slice (some ⟨gx, ox, none⟩) n c, .slice (some ⟨g2, 0, none⟩) n c2, .slice Ar kd cr, .slice (some ⟨gx, ox, none⟩) m c]), rdL Ar kd (lr.take kd), rdL (some ⟨g2, 0, none⟩) n Y, rdL (some ⟨gx, ox, none⟩) n X, blkL (w.heap.size + 1 + 1) 30 (ck.map u8v), blkL (w.heap.size + 1) 23 (p2.map u8v), blkL w.heap.size 23 (p.map u8v), rdL Ar nb lr] W') (fun _ h' => (h'.tail 0)) _ _ _ _ ?_
    replace hHeld := HM.out
    refine take_first (v := ?_) 10 rfl (by kernel_rfl) (by kernel_rfl) (by kernel_rfl) (fun _ _ _ h => h) (Or.inl ⟨by rfl, ?_⟩) (by assumption) ?_
    rotate_left
    · (intro w hSw; (try dsimp only at hSw); go_simp; try with_reducible rfl)
    (try simp only [Act.put, List.setIfInBounds_toArray, List.set_cons_zero, List.set_cons_succ])
    refine wpAnyH_done (by kernel_rfl) ?_ _
    have HI := Lib.hid (show ∀ k, k < 4 → ∃ A' n' c' l', n' ≤ c' ∧ c' ≤ maxLen ∧ n' ≤ 1000 ∧ ([.slice (some ⟨gx, ox, none⟩) n c, .slice (some ⟨g2, 0, none⟩) n c2, .slice Ar kd cr, .slice (some ⟨gx, ox, none⟩) m c] : List Value)[k]? = some (.slice A' n' c') ∧ ∀ W, Lows w [blkL g9 24 ([.slice (some ⟨gx, ox, none⟩) n c, .slice (some ⟨g2, 0, none⟩) n c2, .slice Ar kd cr, .slice (some ⟨gx, ox, none⟩) m c]), rdL Ar kd (lr.take kd), rdL (some ⟨g2, 0, none⟩) n Y, rdL (some ⟨gx, ox, none⟩) n X, blkL (w.heap.size + 1 + 1) 30 (ck.map u8v), blkL (w.heap.size + 1) 23 (p2.map u8v), blkL w.heap.size 23 (p.map u8v), rdL Ar nb lr] W → Rd W W.heap.size A' n' l' from by
      intro k hk
      have h1 := HNC.out
      have h2 := HC2.out
      have h3 := HNUM.out
      match k, hk with
      | 0, _ => exact ⟨(some ⟨gx, ox, none⟩), n, c, X, h1.2.2.1, h1.2.2.2, by omega, rfl, fun W hW => hW.rd 3 rfl⟩
      | 1, _ => exact ⟨(some ⟨g2, 0, none⟩), n, c2, Y, h2.1, h2.2, by omega, rfl, fun W hW => hW.rd 2 rfl⟩
      | 2, _ => exact ⟨Ar, kd, cr, lr.take kd, h3.2.2.1, h3.2.2.2, by omega, rfl, fun W hW => hW.rd 1 rfl⟩
      | 3, _ => exact ⟨(some ⟨gx, ox, none⟩), m, c, X.take m, by have := HMN.out; omega, h1.2.2.2, by have := HMN.out; omega, rfl, fun W hW => (hW.rd 3 rfl).take HMN.out⟩
      | k + 4, hk => exact absurd hk (by omega))
    clear hHeld
    obtain ⟨iK, hiK, zK1, zK, zK0⟩ := key_parts
    have HKI := Lib.hid (And.intro hiK (And.intro zK1 zK0))
    clear hiK zK1 zK0
    go_wp2_with fail
    clear hmI hmw hn1 hn2 hnc hcx
    go_loopw [73] (fun iv wr => ∃ k : Nat, k ≤ 4 ∧ iv = .int .i64 (k : Int) ∧ Lows w [blkL g9 24 ([.slice (some ⟨gx, ox, none⟩) n c, .slice (some ⟨g2, 0, none⟩) n c2, .slice Ar kd cr, .slice (some ⟨gx, ox, none⟩) m c]), rdL Ar kd (lr.take kd), rdL (some ⟨g2, 0, none⟩) n Y, rdL (some ⟨gx, ox, none⟩) n X, blkL (w.heap.size + 1 + 1) 30 (ck.map u8v), blkL (w.heap.size + 1) 23 (p2.map u8v), blkL w.heap.size 23 (p.map u8v), rdL Ar nb lr] wr) (fun iv _ => 4 - (intOf iv).toNat)
    case atStart => exact ⟨0, by omega, rfl, HM.out⟩
    case round =>
      clear HM
      obtain ⟨k, hk, rfl, hM⟩ := hrel
      have HM := Lib.hid hM
      clear hM
      by_cases hk4 : k < 4
      · obtain ⟨A', n', c', l', h1, h2, h3, hrow, hrd⟩ := HI.out k hk4
        have dk : decide ((k : Int) < 4) = true := by simp; omega
        have fk : wr.cell? ⟨g9, k, none⟩ = some (.slice A' n' c') := by rw [(HM.out.blk 0 rfl).cell, hrow]
        have HA' := Lib.hid (And.intro h1 (And.intro h2 h3))
        replace HM := Lib.hid (show Lows w [rdL A' n' l', blkL g9 24 ([.slice (some ⟨gx, ox, none⟩) n c, .slice (some ⟨g2, 0, none⟩) n c2, .slice Ar kd cr, .slice (some ⟨gx, ox, none⟩) m c]), rdL Ar kd (lr.take kd), rdL (some ⟨g2, 0, none⟩) n Y, rdL (some ⟨gx, ox, none⟩) n X, blkL (w.heap.size + 1 + 1) 30 (ck.map u8v), blkL (w.heap.size + 1) 23 (p2.map u8v), blkL w.heap.size 23 (p.map u8v), rdL Ar nb lr] wr from HM.out.cons (rdL A' n' l') (hrd wr HM.out))
        have hcp32 : cp.size = 32 := by rw [← HCP.out]; simp [HP.out]
        have hco32 : co.size = 32 := by rw [← HCO.out]; simp [HP2.out]
        have HKK := Lib.hid hk
        clear hrow hrd h1 h2 h3 hk
        go_upto_region 10 with (first | (refine wpList_load_obj rfl 23 (.tmp 9) rfl w.heap.size 0 rfl (p.map u8v) (HM.out.blk 7 rfl).all _ Tryd.underlying23 rfl (cells32 p HP.out) ?_; rw [HCP.out]) | (refine wpList_load_obj rfl 23 (.tmp 10) rfl (w.heap.size + 1) 0 rfl (p2.map u8v) (HM.out.blk 6 rfl).all _ Tryd.underlying23 rfl (cells32 p2 HP2.out) ?_; rw [HCO.out]) | (refine wpList_buildTwo rfl 47 23 (.tmp 77) (.tmp 78) rfl cp co rfl rfl 32 Tryd.underlying47 iK HKI.out.1 HKI.out.2.1 _ HKI.out.2.2 (by omega) (by omega) hcp32 hco32 ?_))
        have hm9 := HM.out.alloc 23 (cp ++ co) ((p ++ p2).map u8v) (by rw [← HCP.out, ← HCO.out]; simp)
        generalize wr.alloc (.cells (cp ++ co) 23) = wt at hm9 ⊢
        generalize wr.heap.size = g79 at hm9 ⊢
        replace HM := Lib.hid (show Lows w [blkL g79 23 ((p ++ p2).map u8v), rdL A' n' l', blkL g9 24 ([.slice (some ⟨gx, ox, none⟩) n c, .slice (some ⟨g2, 0, none⟩) n c2, .slice Ar kd cr, .slice (some ⟨gx, ox, none⟩) m c]), rdL Ar kd (lr.take kd), rdL (some ⟨g2, 0, none⟩) n Y, rdL (some ⟨gx, ox, none⟩) n X, blkL (w.heap.size + 1 + 1) 30 (ck.map u8v), blkL (w.heap.size + 1) 23 (p2.map u8v), blkL w.heap.size 23 (p.map u8v), rdL Ar nb lr] wt from hm9)
        clear hm9 hcp32 hco32 fk
        go_loopw [81] (fun iv wr => ∃ j : Nat, j ≤ 2 ∧ iv = .int .i64 (j : Int) ∧ Lows w [blkL g79 23 ((p ++ p2).map u8v), rdL A' n' l', blkL g9 24 ([.slice (some ⟨gx, ox, none⟩) n c, .slice (some ⟨g2, 0, none⟩) n c2, .slice Ar kd cr, .slice (some ⟨gx, ox, none⟩) m c]), rdL Ar kd (lr.take kd), rdL (some ⟨g2, 0, none⟩) n Y, rdL (some ⟨gx, ox, none⟩) n X, blkL (w.heap.size + 1 + 1) 30 (ck.map u8v), blkL (w.heap.size + 1) 23 (p2.map u8v), blkL w.heap.size 23 (p.map u8v), rdL Ar nb lr] wr) (fun iv _ => 2 - (intOf iv).toNat)
        case atStart => exact ⟨0, by omega, rfl, HM.out⟩
        case round =>
          clear HM
          obtain ⟨j, hj, rfl, hM⟩ := hrel
          have HM := Lib.hid hM
          clear hM
          by_cases hj2 : j < 2
          · have dj : decide ((j : Int) < 2) = true := by simp; omega
            obtain ⟨x, hxd⟩ : ∃ x, ((p ++ p2).drop (j * 32)).take 32 = x := ⟨_, rfl⟩
            have hxl : x.length = 32 := by rw [← hxd]; simp [HP.out, HP2.out]; omega
            have hxc : At wr g79 (j * 32) (x.map u8v) := by
              have h0 := (HM.out.blk 0 rfl).sub (j * 32) 32
              rw [← List.map_drop, ← List.map_take, hxd] at h0
              exact h0
            have HXL := Lib.hid hxl
            have HXC := Lib.hid hxc
            have hx1 := HC1P.out x hxl A' n' c' l' HA'.out.1 HA'.out.2.1 (by have := HA'.out; omega)
            have hy1 := fun (W : World) (h : Rd W W.heap.size A' n' l') => refCheckMac1_any x hxl A' n' c' l' HA'.out.1 HA'.out.2.1 (by have := HA'.out; omega) W h
            have hx2 := HC2P.out A' n' c' l' HA'.out.1 HA'.out.2.1 (by have := HA'.out; omega)
            have hy2 := fun (W : World) (h : Rd W W.heap.size A' n' l') => refCheckMac2_any ck HK.out A' n' c' l' HA'.out.1 HA'.out.2.1 (by have := HA'.out; omega) W h
            obtain ⟨cx, hcxx⟩ : ∃ z, (x.map u8v).toArray = z := ⟨_, rfl⟩
            obtain ⟨t1, ht1⟩ : ∃ z, check1B x l' = z := ⟨_, rfl⟩
            obtain ⟨t2, ht2⟩ : ∃ z, check2B ck l' = z := ⟨_, rfl⟩
            rw [hcxx, ht1] at hx1 hy1
            rw [ht2] at hx2 hy2
            rw [HCC.out] at hx2 hy2
            have HX1 := Lib.hid hx1
            have HY1 := Lib.hid hy1
            have HX2 := Lib.hid hx2
            have HY2 := Lib.hid hy2
            have HCX := Lib.hid hcxx
            have HJJ := Lib.hid hj
            have hA0 : Blk (wr.alloc (.cells #[.int .u8 0, .int .u8 0, .int .u8 0, .int .u8 0, .int .u8 0, .int .u8 0, .int .u8 0, .int .u8 0, .int .u8 0, .int .u8 0, .int .u8 0, .int .u8 0, .int .u8 0, .int .u8 0, .int .u8 0, .int .u8 0, .int .u8 0, .int .u8 0, .int .u8 0, .int .u8 0, .int .u8 0, .int .u8 0, .int .u8 0, .int .u8 0, .int .u8 0, .int .u8 0, .int .u8 0, .int .u8 0, .int .u8 0, .int .u8 0, .int .u8 0, .int .u8 0] 23)) wr.heap.size 23 ((List.replicate 32 (0 : UInt8)).map u8v) := Blk.new wr 23 ((List.replicate 32 (0 : UInt8)).map u8v)
            clear hx1 hy1 hx2 hy2 hcxx ht1 ht2 hxd hxl hxc hj
            go_upto_region 12 with (first | (refine wpList_load_obj rfl 23 (.tmp 83) rfl g79 (j * 32) rfl (x.map u8v) HXC.out _ Tryd.underlying23 rfl (cells32 x HXL.out) ?_; rw [HCX.out]) | (refine wpList_store_blk rfl 23 (.tmp 25) (.tmp 84) rfl wr.heap.size (x.map u8v) rfl (by show Value.agg cx = _; rw [HCX.out]) 23 ((List.replicate 32 (0 : UInt8)).map u8v) hA0 (cells32 x HXL.out) (by rw [List.length_map, List.length_map, HXL.out]; rfl) (u8v_one _) ?_; intro w5 hb5 hg5))
            (try simp only [Act.put])
            have hm9 := HM.out.stored (arr := #[.int .u8 0, .int .u8 0, .int .u8 0, .int .u8 0, .int .u8 0, .int .u8 0, .int .u8 0, .int .u8 0, .int .u8 0, .int .u8 0, .int .u8 0, .int .u8 0, .int .u8 0, .int .u8 0, .int .u8 0, .int .u8 0, .int .u8 0, .int .u8 0, .int .u8 0, .int .u8 0, .int .u8 0, .int .u8 0, .int .u8 0, .int .u8 0, .int .u8 0, .int .u8 0, .int .u8 0, .int .u8 0, .int .u8 0, .int .u8 0, .int .u8 0, .int .u8 0]) hg5 hb5
            generalize wr.heap.size = g25 at hm9 ⊢
            replace HM := Lib.hid (show Lows w [blkL g25 23 (x.map u8v), blkL g79 23 ((p ++ p2).map u8v), rdL A' n' l', blkL g9 24 ([.slice (some ⟨gx, ox, none⟩) n c, .slice (some ⟨g2, 0, none⟩) n c2, .slice Ar kd cr, .slice (some ⟨gx, ox, none⟩) m c]), rdL Ar kd (lr.take kd), rdL (some ⟨g2, 0, none⟩) n Y, rdL (some ⟨gx, ox, none⟩) n X, blkL (w.heap.size + 1 + 1) 30 (ck.map u8v), blkL (w.heap.size + 1) 23 (p2.map u8v), blkL w.heap.size 23 (p.map u8v), rdL Ar nb lr] w5 from hm9)
            clear hm9 hb5 hg5 hA0 dj HXC
            have hj := HJJ.out
            refine wp_region_held_drew (S := fun W' => Lows w [blkL g25 23 (x.map u8v), blkL g79 23 ((p ++ p2).map u8v), rdL A' n' l', blkL g9 24 ([.slice (some ⟨gx, ox, none⟩) n c, .slice (some ⟨g2, 0, none⟩) n c2, .slice Ar kd cr, .slice (some ⟨gx, ox, none⟩) m c]), rdL Ar kd (lr.take kd), rdL (some ⟨g2, 0, none⟩) n Y, rdL (some ⟨gx, ox, none⟩) n X, blkL (w.heap.size + 1 + 1) 30 (ck.map u8v), blkL (w.heap.size + 1) 23 (p2.map u8v), blkL w.heap.size 23 (p.map u8v), rdL Ar nb lr] W') (by kernel_rfl) (HM.out.drew) (fun hHeld => ?_)
            replace HM := Lib.hid HM.out.drew
            generalize w5.drew = wd1 at HM hHeld ⊢
            refine take_first (v := .agg cx) 0 rfl (by kernel_rfl) (by kernel_rfl) (by kernel_rfl) (fun _ _ _ h => h) (by rw [← HCX.out]; exact yields_load_obj (by rfl) 23 (.tmp 25) rfl g25 0 rfl (x.map u8v) (fun w' hb => (Lows.blk hb 0 rfl).all) _ Tryd.underlying23 rfl (cells32 x HXL.out)) (by assumption) ?_
            (try simp only [Act.put, List.setIfInBounds_toArray, List.set_cons_zero, List.set_cons_succ])
            refine take_first (v := ?_) 1 rfl (by kernel_rfl) (by kernel_rfl) (by kernel_rfl) (fun _ _ _ h => h) (Or.inl ⟨by rfl, ?_⟩) (by assumption) ?_
            rotate_left
            · (intro w hSw; (try dsimp only at hSw); go_simp; try with_reducible rfl)
            (try simp only [Act.put, List.setIfInBounds_toArray, List.set_cons_zero, List.set_cons_succ])
            refine take_first (v := .agg cx) 3 rfl (by kernel_rfl) (by kernel_rfl) (by kernel_rfl) (fun _ _ _ h => h) (by rw [← HCX.out]; exact yields_load_obj (by rfl) 23 (.tmp 25) rfl g25 0 rfl (x.map u8v) (fun w' hb => (Lows.blk hb 0 rfl).all) _ Tryd.underlying23 rfl (cells32 x HXL.out)) (by assumption) ?_
            (try simp only [Act.put, List.setIfInBounds_toArray, List.set_cons_zero, List.set_cons_succ])
            refine take_first (v := ?_) 4 rfl (by kernel_rfl) (by kernel_rfl) (by kernel_rfl) (fun _ _ _ h => h) (Or.inl ⟨by rfl, ?_⟩) (by assumption) ?_
            rotate_left
            · (intro w hSw; (try dsimp only at hSw); go_simp; try with_reducible rfl)
            (try simp only [Act.put, List.setIfInBounds_toArray, List.set_cons_zero, List.set_cons_succ])
            refine step_one 2 rfl (by kernel_rfl) (fun K hK => ?_)
            clear hHeld
            go_simp
            refine (HX1.out _ (HLV.out.below HM.out.bel) (HM.out.rd 2 rfl)).mono ?_
            rintro e wy2 ⟨rfl, hb⟩
            replace HM := Lib.hid (show Lows w [blkL g25 23 (x.map u8v), blkL g79 23 ((p ++ p2).map u8v), rdL A' n' l', blkL g9 24 ([.slice (some ⟨gx, ox, none⟩) n c, .slice (some ⟨g2, 0, none⟩) n c2, .slice Ar kd cr, .slice (some ⟨gx, ox, none⟩) m c]), rdL Ar kd (lr.take kd), rdL (some ⟨g2, 0, none⟩) n Y, rdL (some ⟨gx, ox, none⟩) n X, blkL (w.heap.size + 1 + 1) 30 (ck.map u8v), blkL (w.heap.size + 1) 23 (p2.map u8v), blkL w.heap.size 23 (p.map u8v), rdL Ar nb lr] wy2 from HM.out.below hb)
            clear hb
            go_wp2_with fail
            refine hK.out _ _ (HM.out) (fun hHeld => ?_)
            clear hK K
            (try simp only [Act.put, List.setIfInBounds_toArray, List.set_cons_zero, List.set_cons_succ])
            refine step_one 5 rfl (by kernel_rfl) (fun K hK => ?_)
            clear hHeld
            go_simp
            refine (HY1.out _ (HM.out.rd 2 rfl)).mono ?_
            rintro e wy3 ⟨rfl, hb⟩
            replace HM := Lib.hid (show Lows w [blkL g25 23 (x.map u8v), blkL g79 23 ((p ++ p2).map u8v), rdL A' n' l', blkL g9 24 ([.slice (some ⟨gx, ox, none⟩) n c, .slice (some ⟨g2, 0, none⟩) n c2, .slice Ar kd cr, .slice (some ⟨gx, ox, none⟩) m c]), rdL Ar kd (lr.take kd), rdL (some ⟨g2, 0, none⟩) n Y, rdL (some ⟨gx, ox, none⟩) n X, blkL (w.heap.size + 1 + 1) 30 (ck.map u8v), blkL (w.heap.size + 1) 23 (p2.map u8v), blkL w.heap.size 23 (p.map u8v), rdL Ar nb lr] wy3 from HM.out.below hb)
            clear hb
            go_wp2_with fail
            refine hK.out _ _ (HM.out) (fun hHeld => ?_)
            clear hK K
            (try simp only [Act.put, List.setIfInBounds_toArray, List.set_cons_zero, List.set_cons_succ])
            refine take_first (v := ?_) 6 rfl (by kernel_rfl) (by kernel_rfl) (by kernel_rfl) (fun _ _ _ h => h) (Or.inl ⟨by rfl, ?_⟩) (by assumption) ?_
            rotate_left
            · (intro w hSw; (try dsimp only at hSw); go_simp; try with_reducible rfl)
            (try simp only [Act.put, List.setIfInBounds_toArray, List.set_cons_zero, List.set_cons_succ])
            refine take_first (v := ?_) 7 rfl (by kernel_rfl) (by kernel_rfl) (by kernel_rfl) (fun _ _ _ h => h) (Or.inl ⟨by rfl, ?_⟩) (by assumption) ?_
            rotate_left
            · (intro w hSw; (try dsimp only at hSw); go_simp; try with_reducible rfl)
            (try simp only [Act.put, List.setIfInBounds_toArray, List.set_cons_zero, List.set_cons_succ])
            refine take_first (v := .agg cc) 8 rfl (by kernel_rfl) (by kernel_rfl) (by kernel_rfl) (fun _ _ _ h => h) (by rw [← HCC.out]; exact yields_load_obj (by rfl) 30 (.tmp 11) rfl (w.heap.size + 1 + 1) 0 rfl (ck.map u8v) (fun w' hb => (Lows.blk hb 7 rfl).all) _ Tryd.underlying30 rfl (ae_cellsT ck HK.out)) (by assumption) ?_
            (try simp only [Act.put, List.setIfInBounds_toArray, List.set_cons_zero, List.set_cons_succ])
            refine take_first (v := ?_) 9 rfl (by kernel_rfl) (by kernel_rfl) (by kernel_rfl) (fun _ _ _ h => h) (Or.inl ⟨by rfl, ?_⟩) (by assumption) ?_
            rotate_left
            · (intro w hSw; (try dsimp only at hSw); go_simp; try with_reducible rfl)
            (try simp only [Act.put, List.setIfInBounds_toArray, List.set_cons_zero, List.set_cons_succ])
            refine take_first (v := .agg cc) 11 rfl (by kernel_rfl) (by kernel_rfl) (by kernel_rfl) (fun _ _ _ h => h) (by rw [← HCC.out]; exact yields_load_obj (by rfl) 30 (.tmp 11) rfl (w.heap.size + 1 + 1) 0 rfl (ck.map u8v) (fun w' hb => (Lows.blk hb 7 rfl).all) _ Tryd.underlying30 rfl (ae_cellsT ck HK.out)) (by assumption) ?_
            (try simp only [Act.put, List.setIfInBounds_toArray, List.set_cons_zero, List.set_cons_succ])
            refine take_first (v := ?_) 12 rfl (by kernel_rfl) (by kernel_rfl) (by kernel_rfl) (fun _ _ _ h => h) (Or.inl ⟨by rfl, ?_⟩) (by assumption) ?_
            rotate_left
            · (intro w hSw; (try dsimp only at hSw); go_simp; try with_reducible rfl)
            (try simp only [Act.put, List.setIfInBounds_toArray, List.set_cons_zero, List.set_cons_succ])
            refine step_one 10 rfl (by kernel_rfl) (fun K hK => ?_)
            clear hHeld
            go_simp
            refine (HX2.out _ (HLV.out.below HM.out.bel) (HM.out.rd 2 rfl)).mono ?_
            rintro e wy4 ⟨rfl, hb⟩
            replace HM := Lib.hid (show Lows w [blkL g25 23 (x.map u8v), blkL g79 23 ((p ++ p2).map u8v), rdL A' n' l', blkL g9 24 ([.slice (some ⟨gx, ox, none⟩) n c, .slice (some ⟨g2, 0, none⟩) n c2, .slice Ar kd cr, .slice (some ⟨gx, ox, none⟩) m c]), rdL Ar kd (lr.take kd), rdL (some ⟨g2, 0, none⟩) n Y, rdL (some ⟨gx, ox, none⟩) n X, blkL (w.heap.size + 1 + 1) 30 (ck.map u8v), blkL (w.heap.size + 1) 23 (p2.map u8v), blkL w.heap.size 23 (p.map u8v), rdL Ar nb lr] wy4 from HM.out.below hb)
            clear hb
            go_wp2_with fail
            refine hK.out _ _ (HM.out) (fun hHeld => ?_)
            clear hK K
            (try simp only [Act.put, List.setIfInBounds_toArray, List.set_cons_zero, List.set_cons_succ])
            refine step_one 13 rfl (by kernel_rfl) (fun K hK => ?_)
            clear hHeld
            go_simp
            refine (HY2.out _ (HM.out.rd 2 rfl)).mono ?_
            rintro e wy5 ⟨rfl, hb⟩
            replace HM := Lib.hid (show Lows w [blkL g25 23 (x.map u8v), blkL g79 23 ((p ++ p2).map u8v), rdL A' n' l', blkL g9 24 ([.slice (some ⟨gx, ox, none⟩) n c, .slice (some ⟨g2, 0, none⟩) n c2, .slice Ar kd cr, .slice (some ⟨gx, ox, none⟩) m c]), rdL Ar kd (lr.take kd), rdL (some ⟨g2, 0, none⟩) n Y, rdL (some ⟨gx, ox, none⟩) n X, blkL (w.heap.size + 1 + 1) 30 (ck.map u8v), blkL (w.heap.size + 1) 23 (p2.map u8v), blkL w.heap.size 23 (p.map u8v), rdL Ar nb lr] wy5 from HM.out.below hb)
            clear hb
            go_wp2_with fail
            refine hK.out _ _ (HM.out) (fun hHeld => ?_)
            clear hK K
            (try simp only [Act.put, List.setIfInBounds_toArray, List.set_cons_zero, List.set_cons_succ])
            refine take_first (v := ?_) 14 rfl (by kernel_rfl) (by kernel_rfl) (by kernel_rfl) (fun _ _ _ h => h) (Or.inl ⟨by rfl, ?_⟩) (by assumption) ?_
            rotate_left
            · (intro w hSw; (try dsimp only at hSw); go_simp; try with_reducible rfl)
            (try simp only [Act.put, List.setIfInBounds_toArray, List.set_cons_zero, List.set_cons_succ])
            refine take_first (v := ?_) 15 rfl (by kernel_rfl) (by kernel_rfl) (by kernel_rfl) (fun _ _ _ h => h) (Or.inl ⟨by rfl, ?_⟩) (by assumption) ?_
            rotate_left
            · (intro w hSw; (try dsimp only at hSw); go_simp; try with_reducible rfl)
            (try simp only [Act.put, List.setIfInBounds_toArray, List.set_cons_zero, List.set_cons_succ])
            refine wpAnyH_done (by kernel_rfl) ?_ _
            have HB7 := Lib.hid (show Lows w [blkL g79 23 ((p ++ p2).map u8v), rdL A' n' l', blkL g9 24 ([.slice (some ⟨gx, ox, none⟩) n c, .slice (some ⟨g2, 0, none⟩) n c2, .slice Ar kd cr, .slice (some ⟨gx, ox, none⟩) m c]), rdL Ar kd (lr.take kd), rdL (some ⟨g2, 0, none⟩) n Y, rdL (some ⟨gx, ox, none⟩) n X, blkL (w.heap.size + 1 + 1) 30 (ck.map u8v), blkL (w.heap.size + 1) 23 (p2.map u8v), blkL w.heap.size 23 (p.map u8v), rdL Ar nb lr] wy5 from HM.out.tail 0)
            clear hHeld HM
            go_wp2_with fail
            go_roundw
            case rel => exact ⟨j + 1, by omega, by go_num, HB7.out⟩
            case measure => simp [intOf]; omega
          · obtain rfl : j = 2 := by omega
            have dj : decide ((2 : Int) < 2) = false := by simp
            have HB6 := Lib.hid (show Lows w [blkL g9 24 ([.slice (some ⟨gx, ox, none⟩) n c, .slice (some ⟨g2, 0, none⟩) n c2, .slice Ar kd cr, .slice (some ⟨gx, ox, none⟩) m c]), rdL Ar kd (lr.take kd), rdL (some ⟨g2, 0, none⟩) n Y, rdL (some ⟨gx, ox, none⟩) n X, blkL (w.heap.size + 1 + 1) 30 (ck.map u8v), blkL (w.heap.size + 1) 23 (p2.map u8v), blkL w.heap.size 23 (p.map u8v), rdL Ar nb lr] wr from (HM.out.tail 0).tail 0)
            have hkk := HKK.out
            clear HM
            rw [show ((2 : Nat) : Int) = 2 from rfl]
            go_wp2_with fail
            go_roundw
            case rel => exact ⟨k + 1, by omega, by go_num, HB6.out⟩
            case measure => simp [intOf]; omega
      · obtain rfl : k = 4 := by omega
        have dk : decide ((4 : Int) < 4) = false := by simp
        rw [show ((4 : Nat) : Int) = 4 from rfl]
        go_wp2_with fail
        refine (HBG.out _ (HLV.out.below HM.out.bel)).mono ?_
        rintro e wz ⟨rfl, hb⟩
        have HF := Lib.hid (HM.out.below hb).bel
        clear hb HM
        go_wp2_with fail
        go_ret
        exact ⟨rfl, HF.out⟩
end Go.Proofs.YtlddafkikkaonaaDoor
namespace Go.Proofs.YtlddafkikkaonaaDoor
open Go.RowKit

theorem setL_len {α : Type} (l : List α) (off : Nat) (xs : List α) (h : off + xs.length ≤ l.length) : (setL l off xs).length = l.length := by
  simp only [setL, List.length_append, List.length_take, List.length_drop]
  omega
theorem setL_mid {α : Type} (x r a : List α) (q : Nat) (hq : x.length = q) : setL (x ++ r) q a = x ++ a ++ r.drop a.length := by
  subst hq
  rw [setL, List.take_left, ← List.drop_drop, List.drop_left]
theorem set_codes {k : Nat} (hk : k = 1 ∨ k = 2) {m : MsgM} (h : m.ok k) (a b : List UInt8) (ha : a.length = 16) (hb : b.length = 16) (q1 q2 : Nat) (h1 : q1 = msN k + (msB k - 32)) (h2 : q2 = q1 + 16) :
    setL (setL m.cells q1 (a.map u8v)) q2 (b.map u8v) = (MsgM.mk m.nums (m.bs.take (msB k - 32) ++ (a ++ b))).cells := by
  have hB := two_big hk
  have hm : m.cells = (m.nums.map u32c ++ (m.bs.take (msB k - 32)).map u8v) ++ (m.bs.drop (msB k - 32)).map u8v := by
    rw [List.append_assoc, ← List.map_append, List.take_append_drop]; rfl
  have hx : (m.nums.map u32c ++ (m.bs.take (msB k - 32)).map u8v).length = q1 := by
    rw [List.length_append, List.length_map, List.length_map, List.length_take, h.1, h.2.1, h1]; omega
  have hd : (m.bs.drop (msB k - 32)).length = 32 := by rw [List.length_drop, h.2.1]; omega
  rw [hm, setL_mid _ _ _ q1 hx]
  rw [setL_mid (m.nums.map u32c ++ (m.bs.take (msB k - 32)).map u8v ++ a.map u8v) _ _ q2 (by rw [List.length_append, hx, List.length_map, ha, h2])]
  rw [List.drop_of_length_le (by rw [List.length_drop, List.length_map, List.length_map, List.length_map, hd, ha, hb]; decide), List.append_nil]
  simp only [MsgM.cells, List.map_append, List.append_assoc]
end Go.Proofs.YtlddafkikkaonaaDoor
namespace Go.Proofs.YtlddafkikkaonaaDoor
open Go.RowKit

/-- what is asked of an encoder whose bytes lie in memory of its own -/
def MsEncNC (F k : Nat) : Prop := ∀ m : MsgM, m.ok k → ∀ w : World,
  Calls Tryd.prog F #[.agg m.cells.toArray] w fun e w' => ∃ A c, e = .returned (.slice A (msLen k) c) ∧ msLen k ≤ c ∧ c ≤ maxLen ∧ RdIn w.heap.size w'.heap.size A (msLen k) (encB k m) w' ∧ Below w.heap.size w w'
end Go.Proofs.YtlddafkikkaonaaDoor
namespace Go.Proofs.YtlddafkikkaonaaDoor
open Go.RowKit

/-- a message with other codes -/
def withC (k : Nat) (m : MsgM) (f s : List UInt8) : MsgM := ⟨m.nums, m.bs.take (msB k - 32) ++ (f ++ s)⟩
section
variable {k : Nat} {m : MsgM} {f s f' s' : List UInt8}
theorem withC_ok (hk : k = 1 ∨ k = 2) (h : m.ok k) (hf : f.length = 16) (hs : s.length = 16) : (withC k m f s).ok k := by
  refine ⟨h.1, ?_, h.2.2⟩
  have := two_big hk
  simp only [withC, List.length_append, hf, hs, List.length_take, h.2.1]
  omega
theorem withC_twice (h : m.ok k) (hk : k = 1 ∨ k = 2) : withC k (withC k m f s) f' s' = withC k m f' s' := by
  have := two_big hk
  simp only [withC]
  rw [List.take_append_of_le_length (by rw [List.length_take, h.2.1]; omega), List.take_take, Nat.min_self]
theorem withC_enc (hk : k = 1 ∨ k = 2) (h : m.ok k) : encB k (withC k m f s) = (encB k m).take (msLen k - 32) ++ (f ++ s) := by
  rw [enc_take hk h]
  simp only [encB, withC, List.append_assoc]
theorem withC_pre (hk : k = 1 ∨ k = 2) (h : m.ok k) : (encB k (withC k m f s)).take (msLen k - 32) = (encB k m).take (msLen k - 32) := by
  rw [withC_enc hk h, List.take_left' (pre_length h)]
theorem withC_pre2 (hk : k = 1 ∨ k = 2) (h : m.ok k) (hf : f.length = 16) : (encB k (withC k m f s)).take (msLen k - 16) = (encB k m).take (msLen k - 32) ++ f := by
  have hl := two_len hk
  rw [withC_enc hk h, ← List.append_assoc, List.take_left' (by rw [List.length_append, pre_length h, hf]; omega)]
end
/-- what is asked of the function that encodes a message with two codes: the message lies in a variable that the function keeps -/
def McEncF (F k T : Nat) : Prop := ∀ m : MsgM, m.ok k → ∀ f s : List UInt8, f.length = 16 → s.length = 16 → ∀ (w0 w : World) (E : List Ent) (i G : Nat), E[i]? = some (blkE G T m.cells) → Mem w0 E w →
  Calls Tryd.prog F #[.agg (f.map u8v).toArray, .agg (s.map u8v).toArray, .pointer (some ⟨G, 0, none⟩)] w fun e w' => ∃ A c, e = .returned (.slice A (msLen k) c) ∧ msLen k ≤ c ∧ c ≤ maxLen ∧ Mem w0 (rdE w.heap.size w'.heap.size A (msLen k) (encB k (withC k m f s)) :: E.set i (blkE G T (withC k m f s).cells)) w'
theorem mem_set_get {E : List Ent} {i : Nat} {a b : Ent} (h : E[i]? = some a) : (E.set i b)[i]? = some b := by
  rw [List.getElem?_set_self (List.getElem?_eq_some_iff.1 h).1]
theorem mem_set_set {E : List Ent} {i : Nat} {a b : Ent} : (E.set i a).set i b = E.set i b := by simp
theorem widen {w0 w W : World} {lo hi n : Nat} {A : Option Addr} {l : List UInt8} {b1 b2 : Ent} {E : List Ent} (h : Mem w0 (rdE lo hi A n l :: b2 :: b1 :: E) W) (hw : b1.lo = w.heap.size) (h2 : b2.lo = w.heap.size + 1) (hhi : hi = W.heap.size) : Mem w0 (rdE w.heap.size W.heap.size A n l :: E) W := by
  obtain ⟨⟨q1, q2, q3, ⟨r1, r2, r3, ⟨s1, s2, s3, s4⟩⟩⟩, hb⟩ := h
  subst hhi
  refine ⟨⟨Nat.le_refl _, ?_, RdIn.from_ q3 ?_, ?_⟩, hb⟩
  all_goals first | (show w.heap.size ≤ _; simp only [rdE] at *; omega) | (rw [← hw]; exact s4)
theorem widen5 {w0 w W : World} {lo hi n : Nat} {A : Option Addr} {l : List UInt8} {b1 b2 b3 b4 b5 : Ent} {E : List Ent} (h : Mem w0 (rdE lo hi A n l :: b5 :: b4 :: b3 :: b2 :: b1 :: E) W) (hw : b1.lo = w.heap.size) : Mem w0 (rdE w.heap.size W.heap.size A n l :: E) W := by
  obtain ⟨⟨q1, q2, q3, ⟨r1, r2, _, ⟨s1, s2, _, ⟨t1, t2, _, ⟨u1, u2, _, ⟨v1, v2, _, h4⟩⟩⟩⟩⟩⟩, hb⟩ := h
  have hlo : w.heap.size ≤ lo := by show w.heap.size ≤ (rdE lo hi A n l).lo; omega
  refine ⟨⟨Nat.le_refl _, ?_, ⟨q3.1, fun hn => ?_⟩, ?_⟩, hb⟩
  · show w.heap.size ≤ W.heap.size
    exact Nat.le_trans hlo (Nat.le_trans q2 q1)
  · obtain ⟨b, off, e, h1, h2, hc⟩ := q3.2 hn
    exact ⟨b, off, e, Nat.le_trans hlo h1, Nat.lt_of_lt_of_le h2 q1, hc⟩
  · show MemE w0.heap.size E w.heap.size W
    rw [← hw]; exact h4
theorem Mem.rdIn0 {w0 W : World} {lo hi lo' n g : Nat} {t : TypeId} {cs : List Value} {A : Option Addr} {l : List UInt8} {E : List Ent} (h : Mem w0 (rdE lo hi A n l :: blkE g t cs :: E) W) (hg : lo' ≤ g) : RdIn lo' W.heap.size A n l W := by
  obtain ⟨⟨q1, q2, q3, ⟨r1, _⟩⟩, _⟩ := h
  refine ⟨q3.1, fun hn => ?_⟩
  obtain ⟨b, off, e, h1, h2, hc⟩ := q3.2 hn
  exact ⟨b, off, e, Nat.le_trans hg (Nat.le_trans (Nat.le_of_succ_le r1) h1), Nat.lt_of_lt_of_le h2 q1, hc⟩
end Go.Proofs.YtlddafkikkaonaaDoor
namespace Go.Proofs.YtlddafkikkaonaaDoor
open Go.RowKit

theorem run_text (w : World) (s : ByteArray) : (convert 9 24 (.string s)).run Tryd.prog w = .ok (.slice (some ⟨w.heap.size, 0, none⟩) s.size (grownCap w s.size 0 5)) (Lib.bytesWorld w 5 s) :=
  Lib.run_convert_string_bytes w 9 24 5 s Tryd.underlying9 Tryd.underlying24 Tryd.underlying5
theorem text_below (w : World) (s : ByteArray) : Below w.heap.size w (Lib.bytesWorld w 5 s) := by
  refine ⟨?_, ?_, ?_, by rw [Lib.bytesWorld_size]; omega, fun k hk => Lib.bytesWorld_at_old w _ s k hk⟩
  all_goals simp [Lib.bytesWorld, World.freeze, World.alloc, World.drew, -World.alloc_eq, -World.drew_eq]
theorem text_in (w : World) (s : ByteArray) (l : List UInt8) (hs : s.data.toList = l) (n : Nat) (hn : s.size = n) : RdIn w.heap.size (Lib.bytesWorld w 5 s).heap.size (some ⟨w.heap.size, 0, none⟩) n l (Lib.bytesWorld w 5 s) := by
  have hl : l.length = n := by rw [← hs, ← hn]; exact Array.length_toList
  refine ⟨hl, fun _ => ⟨w.heap.size, 0, rfl, Nat.le_refl _, by rw [Lib.bytesWorld_size]; omega, fun j hj => ?_⟩⟩
  rw [Nat.zero_add, Lib.bytesWorld_cell w _ s j (by omega), hs, List.getD_eq_getElem?_getD, List.getElem?_eq_getElem hj]
  rfl
end Go.Proofs.YtlddafkikkaonaaDoor
namespace Go.Proofs.YtlddafkikkaonaaDoor
open Go.RowKit

theorem results_tmp4 {fn : Func} {t u v x : Tmp} (h : fn.results = #[.tmp t, .tmp u, .tmp v, .tmp x]) (tmps : Array Value) (P : Program) (w : World) :
    (results fn tmps).run P w = .ok (.tuple #[tmps.getD t undef, tmps.getD u undef, tmps.getD v undef, tmps.getD x undef]) w := by
  simp [results, h]

end Go.Proofs.YtlddafkikkaonaaDoor
namespace Go.Proofs.YtlddafkikkaonaaDoor
open Go.RowKit

set_option maxRecDepth 100000 in
theorem rotneg_any (x : UInt32) (n : Nat) (h : n = 16 ∨ n = 12 ∨ n = 8 ∨ n = 7) (w : World) :
    Calls Tryd.prog 107 #[.int .u32 (x.toNat : Int), .int .i64 (-(n : Int))] w fun e w' => e = .returned (.int .u32 ((rotr x n).toNat : Int)) ∧ w = w' := by
  have hx : x.toNat < 4294967296 := x.toNat_lt
  rcases h with rfl | rfl | rfl | rfl
  · have HR := u32_rotl x 16 (by omega) (by omega)
    simp only [show (2 : Int) ^ 16 = 65536 from rfl] at HR
    rw [show rotl x 16 = rotr x 16 from (rotr_rotl x 16 (by omega) (by omega)).symm] at HR
    have HR2 := Lib.hid HR
    clear HR
    have hb : bits BinOp.and IntKind.u64 (IntKind.u64.wrap (-16)) 31 = 16 := by decide
    rw [show -((16 : Nat) : Int) = -16 from rfl]
    go_enter Tryd.func107, Tryd.ntmps107
    go_wp2
    rw [HR2.out]
    go_ret
    exact ⟨rfl, rfl⟩
  · have HR := u32_rotl x 20 (by omega) (by omega)
    simp only [show (2 : Int) ^ 20 = 1048576 from rfl, show (2 : Int) ^ (32 - 20) = 4096 from rfl] at HR
    rw [show rotl x 20 = rotr x 12 from (rotr_rotl x 12 (by omega) (by omega)).symm] at HR
    have HR2 := Lib.hid HR
    clear HR
    have hb : bits BinOp.and IntKind.u64 (IntKind.u64.wrap (-12)) 31 = 20 := by decide
    rw [show -((12 : Nat) : Int) = -12 from rfl]
    go_enter Tryd.func107, Tryd.ntmps107
    go_wp2
    rw [HR2.out]
    go_ret
    exact ⟨rfl, rfl⟩
  · have HR := u32_rotl x 24 (by omega) (by omega)
    simp only [show (2 : Int) ^ 24 = 16777216 from rfl, show (2 : Int) ^ (32 - 24) = 256 from rfl] at HR
    rw [show rotl x 24 = rotr x 8 from (rotr_rotl x 8 (by omega) (by omega)).symm] at HR
    have HR2 := Lib.hid HR
    clear HR
    have hb : bits BinOp.and IntKind.u64 (IntKind.u64.wrap (-8)) 31 = 24 := by decide
    rw [show -((8 : Nat) : Int) = -8 from rfl]
    go_enter Tryd.func107, Tryd.ntmps107
    go_wp2
    rw [HR2.out]
    go_ret
    exact ⟨rfl, rfl⟩
  · have HR := u32_rotl x 25 (by omega) (by omega)
    simp only [show (2 : Int) ^ 25 = 33554432 from rfl, show (2 : Int) ^ (32 - 25) = 128 from rfl] at HR
    rw [show rotl x 25 = rotr x 7 from (rotr_rotl x 7 (by omega) (by omega)).symm] at HR
    have HR2 := Lib.hid HR
    clear HR
    have hb : bits BinOp.and IntKind.u64 (IntKind.u64.wrap (-7)) 31 = 25 := by decide
    rw [show -((7 : Nat) : Int) = -7 from rfl]
    go_enter Tryd.func107, Tryd.ntmps107
    go_wp2
    rw [HR2.out]
    go_ret
    exact ⟨rfl, rfl⟩

theorem rotneg_any' (v : Int) (n : Nat) (x : UInt32) (hv : v = (x.toNat : Int)) (h : n = 16 ∨ n = 12 ∨ n = 8 ∨ n = 7) (w : World) :
    Calls Tryd.prog 107 #[.int .u32 v, .int .i64 (-(n : Int))] w fun e w' => e = .returned (.int .u32 ((rotr x n).toNat : Int)) ∧ w = w' := by
  rw [hv]
  exact rotneg_any x n h w
/-- four words, mixed with two words of the message -/
def mixT (x : UInt32 × UInt32 × UInt32 × UInt32) (p q : UInt32) : UInt32 × UInt32 × UInt32 × UInt32 :=
  let (a, b, c, d) := x
  let a1 := a + b + p
  let d1 := rotr (d ^^^ a1) 16
  let c1 := c + d1
  let b1 := rotr (b ^^^ c1) 12
  let a2 := a1 + b1 + q
  let d2 := rotr (d1 ^^^ a2) 8
  let c2 := c1 + d2
  (a2, rotr (b1 ^^^ c2) 7, c2, d2)
theorem u32_add3 (x y z : UInt32) : x + y + z = x + (y + z) := by
  apply UInt32.toNat.inj
  rw [UInt32.toNat_add, UInt32.toNat_add, UInt32.toNat_add, UInt32.toNat_add]
  omega

set_option maxRecDepth 100000 in
theorem bpMix_any (a b c d p q bp bq a1 d1 c1 b1 a2 d2 c2 b2 : UInt32) (e0 : b + p = bp) (e1 : a + bp = a1) (e2 : rotr (d ^^^ a1) 16 = d1) (e3 : c + d1 = c1) (e4 : rotr (b ^^^ c1) 12 = b1) (e50 : b1 + q = bq) (e5 : a1 + bq = a2) (e6 : rotr (d1 ^^^ a2) 8 = d2) (e7 : c1 + d2 = c2) (e8 : rotr (b1 ^^^ c2) 7 = b2) (w : World) :
    Calls Tryd.prog 106 #[.int .u32 (a.toNat : Int), .int .u32 (b.toNat : Int), .int .u32 (c.toNat : Int), .int .u32 (d.toNat : Int), .int .u32 (p.toNat : Int), .int .u32 (q.toNat : Int)] w fun e w' => e = .returned (.tuple #[.int .u32 (a2.toNat : Int), .int .u32 (b2.toNat : Int), .int .u32 (c2.toNat : Int), .int .u32 (d2.toNat : Int)]) ∧ w = w' := by
  have s0 := u32_sum b p
  have s1 := u32_sum a bp
  have x1 := u32_xor d a1
  have s2 := u32_sum c d1
  have x2 := u32_xor b c1
  have s30 := u32_sum b1 q
  have s3 := u32_sum a1 bq
  have x3 := u32_xor d1 a2
  have s4 := u32_sum c1 d2
  have x4 := u32_xor b1 c2
  rw [e0] at s0
  rw [e1] at s1
  rw [e3] at s2
  rw [e50] at s30
  rw [e5] at s3
  rw [e7] at s4
  go_enter Tryd.func106, Tryd.ntmps106
  go_wp2_with fail
  refine (rotneg_any' _ 16 (d ^^^ a1) (by rw [UInt32.toNat_xor]) (by omega) _).mono ?_
  rintro e w1 ⟨rfl, rfl⟩
  rw [e2]
  go_wp2_with fail
  refine (rotneg_any' _ 12 (b ^^^ c1) (by rw [UInt32.toNat_xor]) (by omega) _).mono ?_
  rintro e w1 ⟨rfl, rfl⟩
  rw [e4]
  go_wp2_with fail
  refine (rotneg_any' _ 8 (d1 ^^^ a2) (by rw [UInt32.toNat_xor]) (by omega) _).mono ?_
  rintro e w1 ⟨rfl, rfl⟩
  rw [e6]
  go_wp2_with fail
  refine (rotneg_any' _ 7 (b1 ^^^ c2) (by rw [UInt32.toNat_xor]) (by omega) _).mono ?_
  rintro e w1 ⟨rfl, rfl⟩
  rw [e8]
  go_wp2_with fail
  refine bodyPost_ret (results_tmp4 rfl _ _ _) rfl ⟨rfl, rfl⟩
set_option maxRecDepth 100000 in
theorem bpMix_of {a b c d p q a2 b2 c2 d2 : UInt32} (h : mixT (a, b, c, d) p q = (a2, b2, c2, d2)) (w : World) :
    Calls Tryd.prog 106 #[.int .u32 (a.toNat : Int), .int .u32 (b.toNat : Int), .int .u32 (c.toNat : Int), .int .u32 (d.toNat : Int), .int .u32 (p.toNat : Int), .int .u32 (q.toNat : Int)] w fun e w' => e = .returned (.tuple #[.int .u32 (a2.toNat : Int), .int .u32 (b2.toNat : Int), .int .u32 (c2.toNat : Int), .int .u32 (d2.toNat : Int)]) ∧ w = w' := by
  simp only [mixT, Prod.mk.injEq] at h
  obtain ⟨rfl, rfl, rfl, rfl⟩ := h
  exact bpMix_any a b c d p q _ _ _ _ _ _ _ _ _ _ rfl (u32_add3 a b p).symm rfl rfl rfl rfl (u32_add3 _ _ q).symm rfl rfl rfl w
/-- mixing at four different places is setting them to what mixT gives -/
theorem mixB_mixT (v : List UInt32) (hv : v.length = 16) (a b c d : Nat) (ha : a < 16) (hb : b < 16) (hc : c < 16) (hd : d < 16) (hab : a ≠ b) (hac : a ≠ c) (had : a ≠ d) (hbc : b ≠ c) (hbd : b ≠ d) (hcd : c ≠ d) (p q : UInt32) :
    mixB v a b c d p q = let r := mixT (wd v a, wd v b, wd v c, wd v d) p q; (((v.set a r.1).set b r.2.1).set c r.2.2.1).set d r.2.2.2 := by
  have hs : ∀ (l : List UInt32) (i j : Nat) (x : UInt32), i ≠ j → wd (l.set i x) j = wd l j := by
    intro l i j x h
    simp [wd, List.getD, List.getElem?_set_ne h]
  have hg : ∀ (l : List UInt32) (i : Nat) (x : UInt32), l.length = 16 → i < 16 → wd (l.set i x) i = x := by
    intro l i x hl hi
    simp [wd, List.getD, hl, hi]
  have hab' := hab.symm
  have hac' := hac.symm
  have had' := had.symm
  have hbc' := hbc.symm
  have hbd' := hbd.symm
  have hcd' := hcd.symm
  simp only [mixB, addX, addW, xrot, mixT]
  simp only [hs, hg, List.length_set, hv, ha, hb, hc, hd, hab, hac, had, hbc, hbd, hcd, hab', hac', had', hbc', hbd', hcd', ne_eq, not_false_eq_true]
  apply List.ext_getElem?
  intro i
  simp only [List.getElem?_set, List.length_set, hv]
  by_cases h1 : d = i <;> by_cases h2 : c = i <;> by_cases h3 : b = i <;> by_cases h4 : a = i <;> simp_all
end Go.Proofs.YtlddafkikkaonaaDoor
namespace Go.Proofs.YtlddafkikkaonaaDoor
open Go.RowKit

/-- what runs to its end leaves the world as it is -/
def StillS {α : Type} (s : Sem α) : Prop := ∀ (P : Program) (w : World) (v : α) (w' : World), s.run P w = .ok v w' → w' = w
theorem StillS.pure {α : Type} (a : α) : StillS (Pure.pure a : Sem α) := fun _ _ _ _ h => by
  simp only [Sem.run_pure, Result.ok.injEq] at h
  exact h.2.symm
theorem StillS.halt {α : Type} (x : Halt) : StillS (Sem.halt x : Sem α) := fun _ _ _ _ h => by simp [Sem.run] at h
theorem StillS.bind {α β : Type} {s : Sem α} {f : α → Sem β} (h : StillS s) (hf : ∀ a, StillS (f a)) : StillS (s >>= f) := fun P w v w' e => by
  rw [Sem.run_bind] at e
  cases hr : s.run P w with
  | ok a w1 =>
    rw [hr, Result.andThen_ok] at e
    have h1 := h P w a w1 hr
    subst h1
    exact hf a P _ v w' e
  | halt x w1 => rw [hr] at e; cases e
theorem still_load (a : Addr) (m : Mode) : StillS (load a m) := fun P w v w' h => by
  unfold load at h
  simp only [Sem.run] at h
  split at h
  · cases h; rfl
  · split at h
    · cases h; rfl
    · cases h
theorem still_program : StillS program := fun P w v w' h => by
  unfold program at h
  simp only [Sem.run] at h
  cases h
  rfl
theorem still_typeInfo (t : TypeId) : StillS (typeInfo t) := by
  unfold typeInfo
  refine still_program.bind fun p => ?_
  split
  · exact StillS.pure _
  · exact StillS.halt _
theorem still_underlying (t : TypeId) : StillS (underlying t) := by
  unfold underlying
  refine still_program.bind fun p => ?_
  split
  · exact StillS.pure _
  · exact StillS.halt _
theorem still_isAgg (t : TypeId) : StillS (isAgg t) := by
  unfold isAgg
  refine (still_underlying t).bind fun d => ?_
  split <;> exact StillS.pure _
theorem still_loadCellsFrom (a : Addr) : ∀ (n i : Nat) (acc : Array Value), StillS (loadCellsFrom a i n acc)
  | 0, _, _ => StillS.pure _
  | n + 1, _, _ => (still_load _ _).bind fun _ => still_loadCellsFrom a n _ _
theorem still_loadAt (t : TypeId) (v : Value) : StillS (Instr.loadAt t v) := by
  unfold Instr.loadAt
  refine StillS.bind ?_ fun a => ?_
  · unfold Instr.sureAddr
    split
    · exact StillS.pure _
    · exact StillS.halt _
  · unfold loadVar
    refine (still_isAgg t).bind fun b => ?_
    cases b
    · exact still_load _ _
    · exact StillS.bind (s := sizeOf t) (StillS.bind (still_typeInfo t) fun _ => StillS.pure _) fun n => StillS.bind (s := loadCells a n) (still_loadCellsFrom a n 0 _) fun _ => StillS.pure _
def Oper.isLoad (o : Oper) : Bool := match o.op with
  | .load _ _ => true
  | _ => false
theorem still_op {o : Oper} (h : Oper.isLoad o = true) (ev : Operand → Value) (P : Program) (w w' : World) (n : Next) (e : (execOp ev o).run P w = .ok n w') : w' = w := by
  unfold Oper.isLoad at h
  cases ho : o.op <;> rw [ho] at h <;> try cases h
  unfold execOp at e
  simp only [ho] at e
  exact StillS.bind (still_loadAt _ _) (fun _ => StillS.pure _) P w n w' e

section
variable {P : Program} {ops : Array Oper} {Q : Exit → Act → World → Prop} {md : Region.Mode} {S : World → Prop}
theorem wpOp_load {j : Nat} {o : Oper} (hj : ops[j]? = some o) (h : Oper.isLoad o = true) {K : Act → World → Prop} {a : Act} {w : World} (hk : wpOp P ops Q j K a w) : wpOp P ops Q j (fun a' w' => w' = w ∧ K a' w') a w := by
  unfold wpOp at *
  simp only [hj] at *
  split
  · rename_i hw
    simp only [hw, if_true] at hk
    rcases hk with hk | hk
    case inr => exact .inr hk
    refine .inl ?_
    unfold Oper.wp at *
    have st := still_op h a.eval P w
    have hn : ∀ n w', (execOp a.eval o).run P w = .ok n w' → ∃ v, n = .value v := by
      intro n w' e
      unfold Oper.isLoad at h
      cases ho : o.op <;> rw [ho] at h <;> try cases h
      unfold execOp at e
      simp only [ho] at e
      rw [Sem.run_bind] at e
      rename_i ty x
      cases hr : (Instr.loadAt ty (a.eval x)).run P w with
      | ok v w1 =>
        rw [hr, Result.andThen_ok, Sem.run_pure] at e
        cases e
        exact ⟨v, rfl⟩
      | halt x w1 => rw [hr] at e; cases e
    generalize (execOp a.eval o).run P w = r at *
    cases r with
    | ok n w' =>
      obtain ⟨v, rfl⟩ := hn n w' rfl
      have := st w' _ rfl
      subst this
      exact ⟨rfl, hk⟩
    | halt x w' =>
      cases x <;> simp only [Oper.upon] at hk ⊢ <;> exact hk
  · rename_i hw
    simp only [hw] at hk
    exact ⟨trivial, hk⟩
/-- every operation that has not come up, but i and those of R, waits for i or for one that is not of R -/
def waitsL (md : Region.Mode) (ops : Array Oper) (R : List Nat) (i : Nat) (listed : Array Bool) : Bool :=
  (List.range ops.size).all fun j => listed.getD j true || j == i || R.contains j ||
    match ops[j]? with
    | none => true
    | some o => o.after.toList.any fun e => Region.binds md e && (e.on == i || (!(listed.getD e.on false) && !(R.contains e.on)))
theorem waitsL_set {R : List Nat} {i j : Nat} {listed : Array Bool} (hj : R.contains j = true) (h : waitsL md ops R i listed = true) : waitsL md ops R i (listed.setIfInBounds j true) = true := by
  unfold waitsL at *
  rw [List.all_eq_true] at *
  intro k hk
  have h1 := h k hk
  by_cases hjk : j = k
  · subst hjk
    simp only [hj, Bool.or_true, Bool.true_or]
  · rw [getD_set_ne true hjk]
    cases ho : ops[k]? with
    | none => simp
    | some o =>
      rw [ho] at h1
      simp only [Bool.or_eq_true] at h1 ⊢
      refine h1.imp id fun h2 => ?_
      rw [List.any_eq_true] at h2 ⊢
      obtain ⟨e, he, h3⟩ := h2
      refine ⟨e, he, ?_⟩
      simp only [Bool.and_eq_true, Bool.or_eq_true] at h3 ⊢
      refine ⟨h3.1, h3.2.imp id fun h4 => ⟨?_, h4.2⟩⟩
      have hne : j ≠ e.on := fun h5 => by
        have h6 := h4.2
        rw [← h5, hj] at h6
        cases h6
      rw [getD_set_ne false hne]
      exact h4.1
theorem wpAnyH_load {R : List Nat} {i : Nat} {oi : Oper} {v : Value} (hi : ops[i]? = some oi) (hsel : ∀ (j : Nat) (o : Oper) cs b, ops[j]? = some o → o.op ≠ .select cs b)
    (hQ : ∀ c a w, Q (.panic c) (a.put oi.dst v) w → Q (.panic c) a w) (hR : ∀ j ∈ R, ∀ o, ops[j]? = some o → Oper.isLoad o = true) (w : World) (hS : S w) :
    ∀ (fuel : Nat) (listed : Array Bool) (a : Act), waitsL md ops R i listed = true →
      (∀ j oj, ops[j]? = some oj → j ≠ i → listed.getD j true = false → (∀ e ∈ oj.after, Region.binds md e = true → e.on ≠ i) → oi.apart ops oj = true) →
      i ∈ Region.ready md ops listed → YieldsIf P ops (fun w' => w' = w) oi v a →
      wpAnyH P md ops Q S fuel (listed.setIfInBounds i true) (a.put oi.dst v) w → wpAnyH P md ops Q S (fuel + 1) listed a w := by
  intro fuel
  induction fuel with
  | zero =>
    intro listed a hwt _ hr hy H
    refine ⟨fun h => (by rw [h] at hr; cases hr), fun j hj => ?_⟩
    by_cases hji : j = i
    · subst hji; exact hy.wpOp hi rfl ⟨hS, H⟩
    · have := ready_mono hj hji
      rw [H.1] at this
      cases this
  | succ fuel ih =>
    intro listed a hwt hfree hr hy H
    refine ⟨fun h => (by rw [h] at hr; cases hr), fun j hj => ?_⟩
    by_cases hji : j = i
    · subst hji; exact hy.wpOp hi rfl ⟨hS, H⟩
    · have h1 := H.2 j (ready_mono hj hji)
      obtain ⟨hjun, oj, hoj, hall⟩ := mem_ready.1 hj
      have hnot : ∀ e ∈ oj.after, Region.binds md e = true → e.on ≠ i := fun e he hb heq => by
        have h1 := hall e he hb
        have h0 := (mem_ready.1 hr).1
        rw [heq] at h1
        rcases Nat.lt_or_ge i listed.size with h' | h'
        · simp [h'] at h0 h1; rw [h0] at h1; cases h1
        · simp [Array.getElem?_eq_none h'] at h1
      have hjR : R.contains j = true := by
        have hjs : j < ops.size := by
          rcases Nat.lt_or_ge j ops.size with h' | h'
          · exact h'
          · rw [Array.getElem?_eq_none h'] at hoj; cases hoj
        have h0 := List.all_eq_true.1 hwt j (List.mem_range.2 hjs)
        rw [hoj, hjun] at h0
        simp only [Bool.or_eq_true, Bool.false_eq_true, false_or, beq_iff_eq] at h0
        rcases h0 with (h0 | h0) | h0
        · exact absurd h0 hji
        · exact h0
        · exfalso
          rw [List.any_eq_true] at h0
          obtain ⟨e, he, h3⟩ := h0
          simp only [Bool.and_eq_true, Bool.or_eq_true, beq_iff_eq] at h3
          have he' : e ∈ oj.after := by simpa using he
          rcases h3.2 with h4 | h4
          · exact hnot e he' h3.1 h4
          · rw [hall e he' h3.1] at h4
            simp at h4
      have h2 := wpOp_load hoj (hR j (by simpa using hjR) oj hoj) (wpOp_putIf hoj (hfree j oj hoj hji hjun hnot) (fun cs b => hsel i oi cs b hi) (fun cs b => hsel j oj cs b hoj) hQ hy h1)
      have hfree' : ∀ k ok, ops[k]? = some ok → k ≠ i → (listed.setIfInBounds j true).getD k true = false →
          (∀ e ∈ ok.after, Region.binds md e = true → e.on ≠ i) → oi.apart ops ok = true := fun k ok hk hki hun hno => by
        refine hfree k ok hk hki ?_ hno
        by_cases hjk : j = k
        · subst hjk; exact hjun
        · rw [getD_set_ne true hjk] at hun; exact hun
      refine wpOp_mono (fun a' w' h3 => ?_) h2
      obtain ⟨rfl, h4, h5, h6⟩ := h3
      refine ⟨h5, ih (listed.setIfInBounds j true) a' (waitsL_set hjR hwt) hfree' (ready_mono hr (Ne.symm hji)) h4 ?_⟩
      rw [Array.setIfInBounds_comm _ _ hji]
      exact h6
/-- a load may be taken first, if all that may come up ahead of it are loads (R) -/
theorem take_load {r : List Oper} {oi : Oper} {v : Value} {fuel : Nat} {listed : Array Bool} {a : Act} {w : World} (R : List Nat) (i : Nat) (hi : ops.toList.drop i = oi :: r)
    (hs : Region.noSelect ops = true) (hf : Region.free md ops listed i = true) (hr : (Region.ready md ops listed).contains i = true) (hR : (R.all fun j => (ops[j]?).all Oper.isLoad) = true) (hw : waitsL md ops R i listed = true)
    (hQ : ∀ c a w, Q (.panic c) (a.put oi.dst v) w → Q (.panic c) a w) (hy : YieldsIf P ops (fun w' => w' = w) oi v a) (hS : S w)
    (h : wpAnyH P md ops Q S fuel (listed.setIfInBounds i true) (a.put oi.dst v) w) : wpAnyH P md ops Q S (fuel + 1) listed a w :=
  wpAnyH_load (getElem?_of_drop hi) (Region.noSelect_spec hs) hQ (fun j hj o ho => by have := List.all_eq_true.1 hR j hj; rw [ho] at this; exact this) w hS fuel listed a hw (Region.free_spec (getElem?_of_drop hi) hf) (by simpa using hr) hy h
end
end Go.Proofs.YtlddafkikkaonaaDoor
namespace Go.Proofs.YtlddafkikkaonaaDoor
open Go.RowKit

theorem grown_same (w : World) (k : Option Nat) : w.grownBy w k := ⟨rfl, rfl, rfl, Nat.le_refl _, fun _ _ _ => rfl⟩
theorem putL_nil {α : Type} (l : List α) (off : Nat) : putL l off [] = l := by
  simp [putL]
/-- the builtin copy of bytes that are read somewhere, or of none, to the beginning of a block -/
theorem wpList_copy_rd {P : Program} (w : World) {ops : Array Oper} {rest : List Oper} {o : Oper} {a : Act} {Q : Exit → Act → World → Prop} (hgd : o.guard = none) (d s : Operand) (dT sT : TypeId)
    (ho : o.op = .call { callee := .builtin .copy, args := #[d, s], argTypes := #[dT, sT] }) (elem : TypeId) (hu : P.underlying dT = some (.slice elem)) (hsz : (P.info? elem).map (·.size) = some 1)
    (g dLen dCap : Nat) (A : Option Addr) (sLen sCap : Nat) (hd : a.eval d = .slice (some ⟨g, 0, none⟩) dLen dCap) (hs : a.eval s = .slice A sLen sCap)
    (l0 : List UInt8) (t : TypeId) (hg : Blk w g t (l0.map u8v)) (B : Nat) (l : List UInt8) (hr : Rd w B A sLen l) (hle : sLen ≤ dLen) (hfit : dLen ≤ l0.length)
    (h : ∀ w', Blk w' g t ((putL l0 0 l).map u8v) → w.grownBy w' (some g) → wpList P ops Q rest (a.put o.dst (goInt sLen)) w') : wpList P ops Q (o :: rest) a w := by
  have hl : l.length = sLen := hr.1
  by_cases h0 : sLen = 0
  · subst h0
    have hnil : l = [] := List.eq_nil_of_length_eq_zero hl
    refine wpList_plain hgd fun K hK => ?_
    have hrun := run_copy_none (P := P) w dT sT o.type elem (some ⟨g, 0, none⟩) A dLen dCap 0 sCap hu hsz (by simp)
    unfold Oper.wp execOp
    simp only [ho, resolve, invoke, builtin, Sem.run_bind, Sem.run_pure, Result.andThen_ok, List.map_toArray, List.map_cons, List.map_nil, hs, hd, hrun]
    exact hK _ _ (h w (by rw [hnil, putL_nil]; exact hg) (grown_same w _))
  · obtain ⟨b, off, rfl, hb, hc⟩ := hr.2 (by omega)
    have hn : (l.map u8v).length = Nat.min sLen dLen := by rw [List.length_map, hl]; exact (Nat.min_eq_left hle).symm
    refine wpList_copy_bytes w hgd d s dT sT ho elem hu hsz g 0 dLen dCap ⟨b, off, none⟩ sLen sCap hd hs (l0.map u8v) t hg (l.map u8v) hn hr.src (by rw [List.length_map, List.length_map, hl]; omega) (u8v_one _) ?_
    intro w' hb' hg'
    rw [putL_map] at hb'
    have := h w' hb' hg'
    rw [List.length_map, hl]
    exact this
end Go.Proofs.YtlddafkikkaonaaDoor
namespace Go.Proofs.YtlddafkikkaonaaDoor
open Go.RowKit

set_option maxRecDepth 100000 in
theorem readLittle_any (B : Nat) (A : Option Addr) (n cap : Nat) (l : List UInt8) (hn : n ≤ 1000000) (w : World) (hr : Rd w B A n l) :
    Calls Tryd.prog 70 #[.slice A n cap] w fun e w' => e = .returned (.int .u64 (numL (l.take 8) : Nat)) ∧ w = w' := by
  have hl : l.length = n := hr.1
  have HR := Lib.hid hr
  have HL := Lib.hid hl
  clear hr hl
  obtain ⟨m, hm⟩ : ∃ m, m = min n 8 := ⟨_, rfl⟩
  have hm8 : m ≤ 8 := by omega
  have hmn : m ≤ n := by omega
  have HM : Hid (l.take m = l.take 8) := by
    have := HL.out
    refine Lib.hid ?_
    by_cases h : n ≤ 8
    · rw [List.take_of_length_le (by omega), List.take_of_length_le (by omega)]
    · rw [show m = 8 from by omega]
  by_cases h8 : n ≤ 8
  · obtain rfl : m = n := by omega
    clear hm
    go_enter Tryd.func70, Tryd.ntmps70
    go_wp2
    go_loop [3, 8, 4] (fun v i _ => ∃ j : Nat, j ≤ m ∧ i = .int .i64 j ∧ v = .int .u64 (numL (l.take j) : Nat)) (fun _ i _ => m - (intOf i).toNat)
    case atStart => exact ⟨0, by omega, rfl, rfl⟩
    case round =>
      obtain ⟨j, hj, rfl, rfl⟩ := hrel
      by_cases hlt : j < m
      · obtain ⟨b, off, rfl, _, hc⟩ := HR.out.at_ (by omega)
        have hlj : j < l.length := by have := HL.out; omega
        have hc1 := hc j hlj
        clear hc
        go_wp2
        go_round
        case rel => exact ⟨j + 1, by omega, by go_num, by rw [or64_little _ j _ (by omega) (numL_take_lt l j), numL_take_succ l j hlj]⟩
        case measure => simp [intOf]; omega
      · obtain rfl : j = m := by omega
        have HM2 := HM
        clear HM
        go_wp2
        go_ret
        exact ⟨ret_int (by rw [HM2.out]), rfl⟩
  · obtain rfl : m = 8 := by omega
    clear hm HM
    go_enter Tryd.func70, Tryd.ntmps70
    go_wp2
    go_loop [3, 8, 4] (fun v i _ => ∃ j : Nat, j ≤ 8 ∧ i = .int .i64 j ∧ v = .int .u64 (numL (l.take j) : Nat)) (fun _ i _ => 8 - (intOf i).toNat)
    case atStart => exact ⟨0, by omega, rfl, rfl⟩
    case round =>
      obtain ⟨j, hj, rfl, rfl⟩ := hrel
      by_cases hlt : j < 8
      · obtain ⟨b, off, rfl, _, hc⟩ := HR.out.at_ (by omega)
        have hlj : j < l.length := by have := HL.out; omega
        have hc1 := hc j hlj
        clear hc
        go_wp2
        go_round
        case rel => exact ⟨j + 1, by omega, by go_num, by rw [or64_little _ j _ (by omega) (numL_take_lt l j), numL_take_succ l j hlj]⟩
        case measure => simp [intOf]; omega
      · obtain rfl : j = 8 := by omega
        go_wp2
        go_ret
        exact ⟨rfl, rfl⟩
end Go.Proofs.YtlddafkikkaonaaDoor
namespace Go.Proofs.YtlddafkikkaonaaDoor
open Go.RowKit

theorem cellsBk (l : List UInt32) (h : l.length = 16) : (Tryd.prog.info? 121).map (·.size) = some (l.map u32v).length := by
  rw [List.length_map, h]; kernel_rfl
theorem bpFill16 (b : List UInt8) : fillW (List.replicate 16 (0 : UInt32)) 0 (wordL b) 16 = wordsL b := by
  simp [fillW, wordsL, List.range_succ]
/-- at most 64 bytes, filled with zero bytes -/
def to64 (l : List UInt8) : List UInt8 := l ++ List.replicate (64 - l.length) 0
theorem to64_length (l : List UInt8) (h : l.length ≤ 64) : (to64 l).length = 64 := by
  rw [to64, List.length_append, List.length_replicate]; omega
theorem putL_zeros (l : List UInt8) (_h : l.length ≤ 64) : putL (List.replicate 64 (0 : UInt8)) 0 l = to64 l := by
  rw [putL, to64, List.take_zero, List.nil_append, List.drop_replicate, Nat.zero_add]

set_option maxRecDepth 100000 in
set_option maxHeartbeats 8000000 in
theorem bpBlock_any (A : Option Addr) (n cap : Nat) (l : List UInt8) (hn : n ≤ 64) (w : World) (hr : Rd w w.heap.size A n l) :
    Calls Tryd.prog 84 #[.slice A n cap] w fun e w' => e = .returned (.agg ((wordsL (to64 l)).map u32v).toArray) ∧ Below w.heap.size w w' := by
  have HM := Lib.hid (show Mem w [blkE (w.heap.size + 1) 123 ((List.replicate 64 (0 : UInt8)).map u8v), blkE w.heap.size 121 (zw 16)] ((w.alloc (.cells #[.int .u32 0, .int .u32 0, .int .u32 0, .int .u32 0, .int .u32 0, .int .u32 0, .int .u32 0, .int .u32 0, .int .u32 0, .int .u32 0, .int .u32 0, .int .u32 0, .int .u32 0, .int .u32 0, .int .u32 0, .int .u32 0] 121)).alloc (.cells #[.int .u8 0, .int .u8 0, .int .u8 0, .int .u8 0, .int .u8 0, .int .u8 0, .int .u8 0, .int .u8 0, .int .u8 0, .int .u8 0, .int .u8 0, .int .u8 0, .int .u8 0, .int .u8 0, .int .u8 0, .int .u8 0, .int .u8 0, .int .u8 0, .int .u8 0, .int .u8 0, .int .u8 0, .int .u8 0, .int .u8 0, .int .u8 0, .int .u8 0, .int .u8 0, .int .u8 0, .int .u8 0, .int .u8 0, .int .u8 0, .int .u8 0, .int .u8 0, .int .u8 0, .int .u8 0, .int .u8 0, .int .u8 0, .int .u8 0, .int .u8 0, .int .u8 0, .int .u8 0, .int .u8 0, .int .u8 0, .int .u8 0, .int .u8 0, .int .u8 0, .int .u8 0, .int .u8 0, .int .u8 0, .int .u8 0, .int .u8 0, .int .u8 0, .int .u8 0, .int .u8 0, .int .u8 0, .int .u8 0, .int .u8 0, .int .u8 0, .int .u8 0, .int .u8 0, .int .u8 0, .int .u8 0, .int .u8 0, .int .u8 0, .int .u8 0] 123)) from ((Mem.nil w).alloc rfl 121 #[.int .u32 0, .int .u32 0, .int .u32 0, .int .u32 0, .int .u32 0, .int .u32 0, .int .u32 0, .int .u32 0, .int .u32 0, .int .u32 0, .int .u32 0, .int .u32 0, .int .u32 0, .int .u32 0, .int .u32 0, .int .u32 0] (zw 16) rfl).alloc (by simp) 123 #[.int .u8 0, .int .u8 0, .int .u8 0, .int .u8 0, .int .u8 0, .int .u8 0, .int .u8 0, .int .u8 0, .int .u8 0, .int .u8 0, .int .u8 0, .int .u8 0, .int .u8 0, .int .u8 0, .int .u8 0, .int .u8 0, .int .u8 0, .int .u8 0, .int .u8 0, .int .u8 0, .int .u8 0, .int .u8 0, .int .u8 0, .int .u8 0, .int .u8 0, .int .u8 0, .int .u8 0, .int .u8 0, .int .u8 0, .int .u8 0, .int .u8 0, .int .u8 0, .int .u8 0, .int .u8 0, .int .u8 0, .int .u8 0, .int .u8 0, .int .u8 0, .int .u8 0, .int .u8 0, .int .u8 0, .int .u8 0, .int .u8 0, .int .u8 0, .int .u8 0, .int .u8 0, .int .u8 0, .int .u8 0, .int .u8 0, .int .u8 0, .int .u8 0, .int .u8 0, .int .u8 0, .int .u8 0, .int .u8 0, .int .u8 0, .int .u8 0, .int .u8 0, .int .u8 0, .int .u8 0, .int .u8 0, .int .u8 0, .int .u8 0, .int .u8 0] ((List.replicate 64 (0 : UInt8)).map u8v) rfl)
  have HL := Lib.hid (show l.length ≤ 64 by rw [hr.1]; exact hn)
  have HR := Lib.hid hr
  have HL64 := Lib.hid (to64_length l HL.out)
  obtain ⟨b, hb⟩ : ∃ b, to64 l = b := ⟨_, rfl⟩
  rw [hb] at HL64 ⊢
  have HBE := Lib.hid hb
  obtain ⟨wz, hwz⟩ : ∃ x, wordsL b = x := ⟨_, rfl⟩
  rw [hwz]
  have HWZ := Lib.hid hwz
  have HZL := Lib.hid (show wz.length = 16 by rw [← hwz]; exact wordsL_length b)
  clear hr hb hwz
  go_enter Tryd.func84, Tryd.ntmps84
  go_upto_region 2 with fail
  generalize ((w.alloc (.cells #[.int .u32 0, .int .u32 0, .int .u32 0, .int .u32 0, .int .u32 0, .int .u32 0, .int .u32 0, .int .u32 0, .int .u32 0, .int .u32 0, .int .u32 0, .int .u32 0, .int .u32 0, .int .u32 0, .int .u32 0, .int .u32 0] 121)).alloc (.cells #[.int .u8 0, .int .u8 0, .int .u8 0, .int .u8 0, .int .u8 0, .int .u8 0, .int .u8 0, .int .u8 0, .int .u8 0, .int .u8 0, .int .u8 0, .int .u8 0, .int .u8 0, .int .u8 0, .int .u8 0, .int .u8 0, .int .u8 0, .int .u8 0, .int .u8 0, .int .u8 0, .int .u8 0, .int .u8 0, .int .u8 0, .int .u8 0, .int .u8 0, .int .u8 0, .int .u8 0, .int .u8 0, .int .u8 0, .int .u8 0, .int .u8 0, .int .u8 0, .int .u8 0, .int .u8 0, .int .u8 0, .int .u8 0, .int .u8 0, .int .u8 0, .int .u8 0, .int .u8 0, .int .u8 0, .int .u8 0, .int .u8 0, .int .u8 0, .int .u8 0, .int .u8 0, .int .u8 0, .int .u8 0, .int .u8 0, .int .u8 0, .int .u8 0, .int .u8 0, .int .u8 0, .int .u8 0, .int .u8 0, .int .u8 0, .int .u8 0, .int .u8 0, .int .u8 0, .int .u8 0, .int .u8 0, .int .u8 0, .int .u8 0, .int .u8 0] 123)) = w1 at HM ⊢
  go_upto_region 3 with (refine wpList_copy_rd _ rfl (.tmp 6) (.tmp 7) 24 24 rfl 5 Tryd.underlying24 (by kernel_rfl) (w.heap.size + 1) 64 64 A n cap rfl rfl (List.replicate 64 (0 : UInt8)) 123 (HM.out.blk 0 rfl) _ l (HM.out.arg HR.out) hn (by simp) ?_; intro w2 hb hg)
  rw [putL_zeros l HL.out, HBE.out] at hb
  replace HM := Lib.hid (show Mem w [blkE (w.heap.size + 1) 123 ((b).map u8v), blkE w.heap.size 121 (zw 16)] w2 from HM.out.put 0 rfl _ hg hb)
  clear hb hg HR HL HBE
  replace HM := Lib.hid (show Mem w [blkE w2.heap.size 121 ((List.replicate 16 (0 : UInt32)).map u32v), blkE (w.heap.size + 1) 123 ((b).map u8v), blkE w.heap.size 121 (zw 16)] (w2.alloc (.cells #[.int .u32 0, .int .u32 0, .int .u32 0, .int .u32 0, .int .u32 0, .int .u32 0, .int .u32 0, .int .u32 0, .int .u32 0, .int .u32 0, .int .u32 0, .int .u32 0, .int .u32 0, .int .u32 0, .int .u32 0, .int .u32 0] 121)) from HM.out.alloc rfl 121 #[.int .u32 0, .int .u32 0, .int .u32 0, .int .u32 0, .int .u32 0, .int .u32 0, .int .u32 0, .int .u32 0, .int .u32 0, .int .u32 0, .int .u32 0, .int .u32 0, .int .u32 0, .int .u32 0, .int .u32 0, .int .u32 0] _ rfl)
  go_upto_region 4 with fail
  generalize w2.alloc (.cells #[.int .u32 0, .int .u32 0, .int .u32 0, .int .u32 0, .int .u32 0, .int .u32 0, .int .u32 0, .int .u32 0, .int .u32 0, .int .u32 0, .int .u32 0, .int .u32 0, .int .u32 0, .int .u32 0, .int .u32 0, .int .u32 0] 121) = w3 at HM ⊢
  generalize w2.heap.size = G at HM ⊢
  go_wp2_with fail
  go_loopw [9] (fun i wr => ∃ j : Nat, j ≤ 16 ∧ i = .int .i64 (j : Int) ∧ Mem w [blkE G 121 ((fillW (List.replicate 16 (0 : UInt32)) 0 (wordL b) j).map u32v), blkE (w.heap.size + 1) 123 ((b).map u8v), blkE w.heap.size 121 (zw 16)] wr) (fun i _ => 16 - (intOf i).toNat)
  case atStart => exact ⟨0, by omega, rfl, HM.out⟩
  case round =>
    clear HM
    obtain ⟨j, hj, rfl, hM⟩ := hrel
    have HM := Lib.hid hM
    clear hM
    by_cases hlt : j < 16
    · have d16 : decide ((j : Int) < 16) = true := by simp; omega
      have rd := ((blk_all (HM.out.blk 1 rfl) HL64.out).drop (4 * j) (w.heap.size + 1) 0 rfl (by omega)).take (m := 4) (by omega)
      rw [Nat.zero_add] at rd
      have RL := Lib.hid (readLittle_any _ _ 4 (64 - 4 * j) _ (by omega) wr rd)
      have hlen : (fillW (List.replicate 16 (0 : UInt32)) 0 (wordL b) j).length = 16 := by rw [fillW_length]; rfl
      have fx := (HM.out.blk 0 rfl).word j (by omega)
      have zx := (HM.out.blk 0 rfl).frozen j
      have WW := Lib.hid (word_wrap b j)
      have HN := Lib.hid (show Mem w [blkE G 121 ((fillW (List.replicate 16 (0 : UInt32)) 0 (wordL b) (j + 1)).map u32v), blkE (w.heap.size + 1) 123 ((b).map u8v), blkE w.heap.size 121 (zw 16)] (wr.setCell ⟨G, j, none⟩ (.int .u32 ((wordL b j).toNat : Int))) from by
        have h := HM.out.setCell 0 rfl j (u32v (wordL b j))
        rw [← List.map_set] at h
        rw [fillW, Nat.zero_add]
        exact h)
      clear rd hlen HM
      have e1 : (j : Int) * 4 = ((4 * j : Nat) : Int) := by omega
      have e2 : ((j : Int) + 1) * 4 = ((4 * j + 4 : Nat) : Int) := by omega
      have b1 : 4 * (j : Int) + 4 ≤ 64 := by omega
      have q5 : (0 : Int) ≤ 4 * (j : Int) := by omega
      have q6 : (4 * (j : Int)).toNat = 4 * j := by omega
      have q7 : (4 * (j : Int) + 4).toNat = 4 * j + 4 := by omega
      have q8 : (4 * (j : Int)) ≤ 4 * (j : Int) + 4 := by omega
      have b2 : ¬ 64 = 4 * j := by omega
      have b3 : ¬ 4 * j = 64 := by omega
      go_wp2_with fail
      try rw [show 4 * j + 4 - 4 * j = 4 by omega]
      refine RL.out.mono ?_
      rintro e w1 ⟨rfl, rfl⟩
      clear RL
      obtain ⟨M, hM⟩ : ∃ M, numL (((b.drop (4 * j)).take 4).take 8) = M := ⟨_, rfl⟩
      have WN := WW.out
      rw [hM] at WN ⊢
      clear hM WW
      go_wp2
      refine ⟨⟨j + 1, by omega, by go_num, HN.out⟩, ?_⟩
      simp [intOf]
      omega
    · obtain rfl : j = 16 := by omega
      rw [bpFill16, HWZ.out] at HM
      obtain ⟨cz, hcz⟩ : ∃ c, (wz.map u32v).toArray = c := ⟨_, rfl⟩
      have HCZ := Lib.hid hcz
      clear hcz
      rw [show ((16 : Nat) : Int) = 16 from rfl]
      go_wp2_with (first | (refine wpList_load_blk rfl 121 (.tmp 4) rfl G rfl 121 (wz.map u32v) (HM.out.blk 0 rfl) 16 31 Tryd.underlying121 (cellsBk wz HZL.out) ?_; rw [HCZ.out]) | (refine wpList_store_blk rfl 121 (.tmp 2) (.tmp 23) rfl w.heap.size (wz.map u32v) rfl (by show Value.agg cz = _; rw [HCZ.out]) 121 (zw 16) (HM.out.blk 2 rfl) (cellsBk wz HZL.out) (by rw [List.length_map, HZL.out]; rfl) (u32v_one _) ?_; intro w9 hb9 hg9))
      exact bodyPost_ret (results_blk rfl _ _ w.heap.size 121 (wz.map u32v) 16 31 rfl hb9 Tryd.underlying121 (cellsBk wz HZL.out)) rfl ⟨rfl, (HM.out.put 2 rfl _ hg9 hb9).bel⟩
end Go.Proofs.YtlddafkikkaonaaDoor
