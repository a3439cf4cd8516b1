/-
  What is asked of the function that SealResponse hands on holds of the landed one. What is asked of SealResponse holds of the landed function. The contract of the program's hasCodes. The contract of codec.Equal: the same length and the same bytes (as XEqual, without Join). What is asked of CheckMac1 holds of the landed function. What is asked of CheckMac2 holds of the landed function. The contracts of xchacha.readWords, writeWords and stateOf: words out of bytes, bytes out of words, and the words that are mixed. What is asked of xchacha.Derive, Seal and Open. The contract of xchacha.Derive. The contracts of aead.padding, length and tagData: the data that a tag is for. No statement is proved here.
-/
import Derived.Shelf.Abstract
import Derived.Laws.BitsAllLaws
import Derived.RegionTactic
import Derived.BigQuiet
import Derived.Deep.QuietTactic
import Derived.Maps.AppendAt
import Derived.Outline
import Derived.Test.YtlddafkikkaonaaDoorMacsReturnsB8
namespace Go.Proofs.YtlddafkikkaonaaDoor
open Go.RowKit

set_option maxRecDepth 100000 in
set_option maxHeartbeats 4000000 in
theorem mcEnc2 : McEncF 33 2 37 := by
  intro m hok f s hf hs w0 w E i G he hm
  have HF := Lib.hid hf
  have HS := Lib.hid hs
  have HE := Lib.hid he
  have hml := MsgM.cells_length hok
  have HML := Lib.hid (show m.cells.length = 82 from hml)
  have HEN := Lib.hid (msEncN2 (withC 2 m f s) (withC_ok (.inr rfl) hok hf hs))
  have hwl := MsgM.cells_length (withC_ok (.inr rfl) hok hf hs)
  have HUM := Lib.hid (show (Tryd.prog.info? 37).map (·.size) = some (withC 2 m f s).cells.length from by rw [hwl]; kernel_rfl)
  have HSC := Lib.hid (show setL (setL m.cells 50 (f.map u8v)) 66 (s.map u8v) = (withC 2 m f s).cells from set_codes (.inr rfl) hok f s hf hs 50 66 rfl rfl)
  obtain ⟨cf, hcf⟩ : ∃ z, (f.map u8v).toArray = z := ⟨_, rfl⟩
  obtain ⟨cs, hcs⟩ : ∃ z, (s.map u8v).toArray = z := ⟨_, rfl⟩
  obtain ⟨cm, hcm⟩ : ∃ z, (withC 2 m f s).cells.toArray = z := ⟨_, rfl⟩
  rw [hcm] at HEN
  rw [hcf, hcs]
  have HM := Lib.hid (show Mem w0 (blkE (w.heap.size + 1) 30 (s.map u8v) :: blkE w.heap.size 30 (f.map u8v) :: E) ((w.alloc (.cells cf 30)).alloc (.cells cs 30)) from (hm.alloc rfl 30 cf (f.map u8v) hcf.symm).alloc (by simp) 30 cs (s.map u8v) hcs.symm)
  have HCF := Lib.hid hcf
  have HCS := Lib.hid hcs
  have HCM := Lib.hid hcm
  have HLT := Lib.hid (show G < w.heap.size from (hm.blk i he).lt)
  clear hcf hcs hcm hf hs he hm hok hml hwl
  go_enter Tryd.func33, Tryd.ntmps33
  go_upto_region 1 with fail
  generalize ((w.alloc (.cells cf 30)).alloc (.cells cs 30)) = w1 at HM ⊢
  have HNE := Lib.hid (show w.heap.size ≠ G ∧ w.heap.size + 1 ≠ G from ⟨by have := HLT.out; omega, by have := HLT.out; omega⟩)
  refine wp_region_held_drew (S := fun W' => Blk W' w.heap.size 30 (f.map u8v) ∧ Blk W' (w.heap.size + 1) 30 (s.map u8v)) (by kernel_rfl) ⟨HM.out.drew.blk 1 rfl, HM.out.drew.blk 0 rfl⟩ (fun hHeld => ?_)
  replace HM := Lib.hid HM.out.drew
  generalize w1.drew = wd1 at HM hHeld ⊢
  refine take_first (v := .agg cf) 0 rfl (by kernel_rfl) (by kernel_rfl) (by kernel_rfl) (fun _ _ _ h => h) (by rw [← HCF.out]; exact yields_load_blk (by rfl) 30 (.tmp 3) rfl w.heap.size rfl 30 (f.map u8v) (fun w' hb => hb.1) 16 5 Tryd.underlying30 (ae_cellsT f HF.out)) (by assumption) ?_
  (try simp only [Act.put, List.setIfInBounds_toArray, List.set_cons_zero, List.set_cons_succ])
  refine take_first (v := .agg cs) 1 rfl (by kernel_rfl) (by kernel_rfl) (by kernel_rfl) (fun _ _ _ h => h) (by rw [← HCS.out]; exact yields_load_blk (by rfl) 30 (.tmp 4) rfl (w.heap.size + 1) rfl 30 (s.map u8v) (fun w' hb => hb.2) 16 5 Tryd.underlying30 (ae_cellsT s HS.out)) (by assumption) ?_
  (try simp only [Act.put, List.setIfInBounds_toArray, List.set_cons_zero, List.set_cons_succ])
  refine take_first (v := ?_) 2 rfl (by kernel_rfl) (by kernel_rfl) (by kernel_rfl) (fun _ _ _ h => h) (Or.inl ⟨by rfl, ?_⟩) (by assumption) ?_
  rotate_left
  · (intro w hSw; (try dsimp only at hSw); go_simp; try with_reducible rfl)
  (try simp only [Act.put, List.setIfInBounds_toArray, List.set_cons_zero, List.set_cons_succ])
  refine step_one 3 rfl (by kernel_rfl) (fun K hK => ?_)
  clear hHeld
  refine step_store_obj rfl 30 (.tmp 8) (.tmp 6) rfl G 50 (f.map u8v) rfl (by show Value.agg cf = _; rw [HCF.out]) 37 m.cells (HM.out.blk (i + 2) HE.out) (ae_cellsT f HF.out) (by rw [List.length_map, HF.out, HML.out]; omega) (u8v_one _) ?_
  intro wy2 hb hg
  replace HM := Lib.hid (show Mem w0 (blkE (w.heap.size + 1) 30 (s.map u8v) :: blkE w.heap.size 30 (f.map u8v) :: E.set i (blkE G 37 (setL m.cells 50 (f.map u8v)))) wy2 from HM.out.put (i + 2) HE.out _ hg hb)
  clear hb hg
  refine hK.out _ _ (⟨HM.out.blk 1 rfl, HM.out.blk 0 rfl⟩) (fun hHeld => ?_)
  clear hK K
  (try simp only [Act.put])
  refine take_first (v := ?_) 4 rfl (by kernel_rfl) (by kernel_rfl) (by kernel_rfl) (fun _ _ _ h => h) (Or.inl ⟨by rfl, ?_⟩) (by assumption) ?_
  rotate_left
  · (intro w hSw; (try dsimp only at hSw); go_simp; try with_reducible rfl)
  (try simp only [Act.put, List.setIfInBounds_toArray, List.set_cons_zero, List.set_cons_succ])
  refine step_one 5 rfl (by kernel_rfl) (fun K hK => ?_)
  clear hHeld
  refine step_store_obj rfl 30 (.tmp 9) (.tmp 7) rfl G 66 (s.map u8v) rfl (by show Value.agg cs = _; rw [HCS.out]) 37 (setL m.cells 50 (f.map u8v)) (HM.out.blk (i + 2) (mem_set_get HE.out)) (ae_cellsT s HS.out) (by rw [List.length_map, HS.out, setL_len _ _ _ (by rw [List.length_map, HF.out, HML.out]; omega), HML.out]; omega) (u8v_one _) ?_
  intro wy3 hb hg
  rw [HSC.out] at hb
  have hm3 := HM.out.put (i + 2) (mem_set_get HE.out) _ hg hb
  replace HM := Lib.hid (show Mem w0 (blkE (w.heap.size + 1) 30 (s.map u8v) :: blkE w.heap.size 30 (f.map u8v) :: E.set i (blkE G 37 (withC 2 m f s).cells)) wy3 from by
    have h := hm3
    simp only [List.set_cons_succ, mem_set_set] at h
    exact h)
  clear hb hg hm3
  refine hK.out _ _ (⟨HM.out.blk 1 rfl, HM.out.blk 0 rfl⟩) (fun hHeld => ?_)
  clear hK K
  (try simp only [Act.put])
  refine wpAnyH_done (by kernel_rfl) ?_ _
  clear hHeld
  have HG := Lib.hid (HM.out.blk (i + 2) (mem_set_get HE.out))
  go_wp2_with (refine wpList_load_obj rfl 37 (.tmp 2) rfl G 0 rfl (withC 2 m f s).cells HG.out.all _ Tryd.underlying37 rfl HUM.out ?_)
  rw [HCM.out]
  refine (HEN.out _).mono ?_
  rintro e wy4 ⟨A, c, rfl, h1, h2, hr, hb⟩
  have HR := Lib.hid (And.intro h1 (And.intro h2 hr))
  replace HM := Lib.hid ((HM.out.call hb (rdE wy3.heap.size wy4.heap.size A 92 (encB 2 (withC 2 m f s))) rfl rfl hr))
  clear hb h1 h2 hr
  go_wp2_with fail
  go_ret
  exact ⟨A, c, rfl, HR.out.1, HR.out.2.1, widen HM.out rfl rfl rfl⟩
end Go.Proofs.YtlddafkikkaonaaDoor
namespace Go.Proofs.YtlddafkikkaonaaDoor
open Go.RowKit

set_option maxRecDepth 100000 in
set_option maxHeartbeats 4000000 in
theorem mcSealR : McSealC 9 2 := by
  intro p ck hp hck has m hok w hlv
  have HP := Lib.hid hp
  have HK := Lib.hid hck
  have HLV := Lib.hid hlv
  have HOK := Lib.hid hok
  obtain ⟨cp, hcp⟩ : ∃ z, (p.map u8v).toArray = z := ⟨_, rfl⟩
  obtain ⟨cc, hcc⟩ : ∃ z, (ck.map u8v).toArray = z := ⟨_, rfl⟩
  obtain ⟨cm, hcm⟩ : ∃ z, m.cells.toArray = z := ⟨_, rfl⟩
  have HSA := Lib.hid (fun W G (E : List Ent) i hei (hm : Mem w E W) => seal_any (F := 33) (k := 2) (T := 37) (.inr rfl) mcEnc2 (enters_of Tryd.func33 (by kernel_rfl) rfl) p ck hp hck has m hok w W E i G hei hlv hm)
  obtain ⟨mt, hmt⟩ : ∃ z, macM p 2 m = z := ⟨_, rfl⟩
  have HML := Lib.hid (show mt.length = 16 from by rw [← hmt]; exact macM_length _ _ _)
  obtain ⟨cmt, hct⟩ : ∃ z, (mt.map u8v).toArray = z := ⟨_, rfl⟩
  rw [hmt, hct, hcp, hcc] at HSA
  rw [hmt, hct, hcp, hcc, hcm]
  have HCT := Lib.hid hct
  have HM := Lib.hid (show Mem w [blkE (w.heap.size + 1 + 1 + 1) 30 ((List.replicate 16 (0 : UInt8)).map u8v), blkE (w.heap.size + 1 + 1) 37 m.cells, blkE (w.heap.size + 1) 30 (ck.map u8v), blkE w.heap.size 23 (p.map u8v)] ((((w.alloc (.cells cp 23)).alloc (.cells cc 30)).alloc (.cells cm 37)).alloc (.cells #[.int .u8 0, .int .u8 0, .int .u8 0, .int .u8 0, .int .u8 0, .int .u8 0, .int .u8 0, .int .u8 0, .int .u8 0, .int .u8 0, .int .u8 0, .int .u8 0, .int .u8 0, .int .u8 0, .int .u8 0, .int .u8 0] 30)) from ((((Mem.nil w).alloc rfl 23 cp (p.map u8v) hcp.symm).alloc (by simp) 30 cc (ck.map u8v) hcc.symm).alloc (by simp) 37 cm m.cells hcm.symm).alloc (by simp) 30 #[.int .u8 0, .int .u8 0, .int .u8 0, .int .u8 0, .int .u8 0, .int .u8 0, .int .u8 0, .int .u8 0, .int .u8 0, .int .u8 0, .int .u8 0, .int .u8 0, .int .u8 0, .int .u8 0, .int .u8 0, .int .u8 0] ((List.replicate 16 (0 : UInt8)).map u8v) rfl)
  have HCP := Lib.hid hcp
  have HCC := Lib.hid hcc
  clear hcp hcc hcm hmt hct hp hck hok hlv
  go_enter Tryd.func9, Tryd.ntmps9
  go_upto_region 1 with fail
  generalize ((((w.alloc (.cells cp 23)).alloc (.cells cc 30)).alloc (.cells cm 37)).alloc (.cells #[.int .u8 0, .int .u8 0, .int .u8 0, .int .u8 0, .int .u8 0, .int .u8 0, .int .u8 0, .int .u8 0, .int .u8 0, .int .u8 0, .int .u8 0, .int .u8 0, .int .u8 0, .int .u8 0, .int .u8 0, .int .u8 0] 30)) = w1 at HM ⊢
  have hmf : ∀ (fn : Fn) (first cap : Array Value) (w : World), (Instr.makeFunc fn first cap).run Tryd.prog w = .ok (.func fn first cap) w := fun _ _ _ _ => rfl
  go_wp2_with (first | (refine wpList_load_blk rfl 23 (.tmp 4) rfl w.heap.size rfl 23 (p.map u8v) (HM.out.blk 3 rfl) 32 5 Tryd.underlying23 (cells32 p HP.out) ?_) | (refine wpList_load_blk rfl 30 (.tmp 6) rfl (w.heap.size + 1) rfl 30 (ck.map u8v) (HM.out.blk 2 rfl) 16 5 Tryd.underlying30 (ae_cellsT ck HK.out) ?_))
  clear hmf
  rw [HCP.out, HCC.out]
  refine (HSA.out w1 (w.heap.size + 1 + 1) [blkE (w.heap.size + 1 + 1 + 1) 30 ((List.replicate 16 (0 : UInt8)).map u8v), blkE (w.heap.size + 1 + 1) 37 m.cells, blkE (w.heap.size + 1) 30 (ck.map u8v), blkE w.heap.size 23 (p.map u8v)] 1 rfl HM.out).mono ?_
  rintro e w2 ⟨A, c, rfl, h1, h2, m', hm⟩
  have HC := Lib.hid (And.intro h1 h2)
  replace HM := Lib.hid (show Mem w [rdE w1.heap.size w2.heap.size A 92 (encB 2 (sealM p has ck 2 m)), blkE (w.heap.size + 1 + 1 + 1) 30 ((List.replicate 16 (0 : UInt8)).map u8v), blkE (w.heap.size + 1 + 1) 37 m'.cells, blkE (w.heap.size + 1) 30 (ck.map u8v), blkE w.heap.size 23 (p.map u8v)] w2 from hm)
  clear h1 h2 hm HSA
  go_wp2_with (refine wpList_store_blk rfl 30 (.tmp 9) (.tmp 16) rfl (w.heap.size + 1 + 1 + 1) (mt.map u8v) rfl (by show Value.agg cmt = _; rw [HCT.out]) 30 ((List.replicate 16 (0 : UInt8)).map u8v) (HM.out.blk 1 rfl) (ae_cellsT mt HML.out) (by rw [List.length_map, List.length_map, HML.out]; rfl) (u8v_one _) ?_; intro w9 hb hg)
  replace HM := Lib.hid (HM.out.put 1 rfl _ hg hb)
  exact bodyPost_ret (results_tmp_obj rfl _ _ (w.heap.size + 1 + 1 + 1) 30 (mt.map u8v) _ rfl (HM.out.blk 1 rfl) Tryd.underlying30 rfl (ae_cellsT mt HML.out)) rfl ⟨A, c, by rw [HCT.out]; rfl, HC.out.1, HC.out.2, Mem.rdIn0 HM.out (by omega), HM.out.bel⟩
end Go.Proofs.YtlddafkikkaonaaDoor
namespace Go.Proofs.YtlddafkikkaonaaDoor
open Go.RowKit

set_option maxRecDepth 100000 in
theorem hasCodes_any (A : Option Addr) (n c : Nat) (l : List UInt8) (hnc : n ≤ c) (hcm : c ≤ maxLen) (hn : n ≤ 100000) (w : World) (hr : Rd w w.heap.size A n l) :
    Calls Tryd.prog 42 #[.slice A n c] w fun e w' => e = .returned (.bool (codedB l)) ∧ Below w.heap.size w w' := by
  have HK := Lib.hid (msKindC A n c l hnc hcm hn)
  have HR := Lib.hid hr
  have HCB := Lib.hid (show codedB l = (kindB l == 1 || kindB l == 2) from rfl)
  generalize kindB l = k at HK HCB
  clear hr
  go_enter Tryd.func42, Tryd.ntmps42
  go_wp2_with fail
  refine (HK.out _ HR.out).mono ?_
  rintro e w1 ⟨rfl, hb⟩
  have HB := Lib.hid hb
  clear hb
  by_cases h1 : k = 1
  · subst h1
    go_wp2
    go_ret
    exact ⟨by rw [HCB.out]; rfl, HB.out⟩
  · have e1 : ((k : Int) == 1) = false := by rw [beq_eq_false_iff_ne]; omega
    have hk : codedB l = ((k : Int) == 2) := by
      rw [HCB.out, show (k == 1) = false from by simpa using h1, Bool.false_or]
      by_cases h2 : k = 2
      · subst h2; rfl
      · rw [show (k == 2) = false from by simpa using h2, show ((k : Int) == 2) = false from by rw [beq_eq_false_iff_ne]; omega]
    have h1' : ¬ ((k : Int) = 1) := by omega
    clear h1
    go_wp2
    go_ret
    exact ⟨by rw [hk]; rfl, HB.out⟩
end Go.Proofs.YtlddafkikkaonaaDoor
namespace Go.Proofs.YtlddafkikkaonaaDoor
open Go.RowKit

theorem or_zero (a b : Nat) : a ||| b = 0 ↔ a = 0 ∧ b = 0 := Nat.or_eq_zero_iff
theorem xor_zero (a b : Nat) : a ^^^ b = 0 ↔ a = b := by
  constructor
  · intro h
    apply Nat.eq_of_testBit_eq
    intro i
    have := congrArg (fun x => x.testBit i) h
    simp only [Nat.testBit_xor, Nat.zero_testBit] at this
    simpa using this
  · rintro rfl
    simp
/-- one round of Equal -/
theorem equal_step (d : Nat) (a b : UInt8) (hd : d < 256) : ∃ d' : Nat, d' < 256 ∧ bits BinOp.or IntKind.u8 (d : Int) (bits BinOp.xor IntKind.u8 (a.toNat : Int) (b.toNat : Int)) = (d' : Int) ∧ (d' = 0 ↔ d = 0 ∧ a = b) := by
  have h1 := a.toNat_lt
  have h2 := b.toNat_lt
  have hx : a.toNat ^^^ b.toNat < 2 ^ 8 := Nat.xor_lt_two_pow h1 h2
  refine ⟨d ||| (a.toNat ^^^ b.toNat), Nat.or_lt_two_pow hd hx, ?_, ?_⟩
  · rw [u8_xor_nat _ _ (by omega) (by omega), u8_or_nat _ _ (by omega) (by omega)]
  · rw [or_zero, xor_zero, UInt8.toNat_inj]
theorem take_eq_step (la lb : List UInt8) (j : Nat) (ha : j < la.length) (hb : j < lb.length) : la.take (j + 1) = lb.take (j + 1) ↔ la.take j = lb.take j ∧ la[j] = lb[j] := by
  rw [List.take_succ_eq_append_getElem ha, List.take_succ_eq_append_getElem hb]
  constructor
  · intro h
    have h2 := List.append_inj h (by simp; omega)
    exact ⟨h2.1, by simpa using h2.2⟩
  · rintro ⟨h1, h2⟩
    rw [h1, h2]

set_option maxRecDepth 100000 in
theorem equal_any (B n n' c c' : Nat) (A A' : Option Addr) (la lb : List UInt8) (hn : n ≤ 1000000) (hn' : n' ≤ 1000000) (w : World) (hB : B ≤ w.heap.size) (ha : Rd w B A n la) (hb : Rd w B A' n' lb) :
    Calls Tryd.prog 44 #[.slice A n c, .slice A' n' c'] w fun e w' => e = .returned (.bool (la == lb)) ∧ Below w.heap.size w w' := by
  have hla : la.length = n := ha.1
  have hlb : lb.length = n' := hb.1
  have HA := Lib.hid ha
  have HB := Lib.hid hb
  have HLA := Lib.hid hla
  have HLB := Lib.hid hlb
  clear ha hb hla hlb
  by_cases hne : n = n'
  · subst hne
    go_enter Tryd.func44, Tryd.ntmps44
    go_wp2
    go_loopw [5, 14, 6] (fun d i _ wr => ∃ j dn : Nat, j ≤ n ∧ i = .int .i64 j ∧ dn < 256 ∧ d = .int .u8 dn ∧ (dn = 0 ↔ la.take j = lb.take j) ∧ Below w.heap.size w wr) (fun _ i _ _ => n - (intOf i).toNat)
    case atStart => exact ⟨0, 0, by omega, rfl, by omega, rfl, by simp, Below.refl _ _⟩
    case round =>
      obtain ⟨j, dn, hj, rfl, hd, rfl, hiff, hbl⟩ := hrel
      by_cases hlt : j < n
      · obtain ⟨b1, o1, rfl, hb1, hc1⟩ := HA.out.at_ (by omega)
        obtain ⟨b2, o2, rfl, hb2, hc2⟩ := HB.out.at_ (by omega)
        have hja : j < la.length := by have := HLA.out; omega
        have hjb : j < lb.length := by have := HLB.out; omega
        have q1 := (hbl.cell (p := ⟨b1, o1 + j, none⟩) (Nat.lt_of_lt_of_le hb1 hB)).trans (hc1 j hja)
        have q2 := (hbl.cell (p := ⟨b2, o2 + j, none⟩) (Nat.lt_of_lt_of_le hb2 hB)).trans (hc2 j hjb)
        clear hc1 hc2
        obtain ⟨d', hd', hbits, hz⟩ := equal_step dn la[j] lb[j] hd
        have HI := Lib.hid hiff
        have HZ := Lib.hid hz
        clear hiff hz
        go_wp2
        go_quiet (fail)
        go_wp2
        go_roundw
        case rel => exact ⟨j + 1, d', by omega, by go_num, hd', rfl, by rw [take_eq_step _ _ _ hja hjb, HZ.out, HI.out], below_drewN hbl _⟩
        case measure => simp [intOf]; omega
      · obtain rfl : j = n := by omega
        rw [List.take_of_length_le (by have := HLA.out; omega), List.take_of_length_le (by have := HLB.out; omega)] at hiff
        have hfin : ((dn : Int) == 0) = (la == lb) := by
          rw [Bool.eq_iff_iff, beq_iff_eq, beq_iff_eq, ← hiff]
          omega
        have HF := Lib.hid hfin
        clear hfin hiff
        go_wp2
        go_ret
        exact ⟨by rw [← HF.out]; rfl, hbl⟩
  · have hfin : (la == lb) = false := by
      rw [beq_eq_false_iff_ne]
      intro h
      have := HLA.out
      have := HLB.out
      rw [h] at *
      omega
    rw [hfin]
    have hne' : ((n : Int) == (n' : Int)) = false := by
      rw [beq_eq_false_iff_ne]; omega
    clear hfin
    go_enter Tryd.func44, Tryd.ntmps44
    go_wp2
    go_ret
    exact ⟨rfl, Below.refl _ _⟩
end Go.Proofs.YtlddafkikkaonaaDoor
namespace Go.Proofs.YtlddafkikkaonaaDoor
open Go.RowKit

set_option maxRecDepth 100000 in
set_option maxHeartbeats 8000000 in
theorem mcCheck1C : McCheck1C 17 := by
  intro p hp A n c l hnc hcm hn w hlv hr
  have HR := Lib.hid hr
  have HP := Lib.hid hp
  have HLV := Lib.hid hlv
  have HNN := Lib.hid (And.intro hnc (And.intro hcm hn))
  have HCD := Lib.hid (hasCodes_any A n c l hnc hcm hn)
  have HV := Lib.hid (show check1B p l = (codedB l && mac1B p (l.take (l.length - 32)) == (l.drop (l.length - 32)).take 16) from rfl)
  obtain ⟨cp, hcp⟩ : ∃ z, (p.map u8v).toArray = z := ⟨_, rfl⟩
  rw [hcp]
  have HCP := Lib.hid hcp
  have HM := Lib.hid (show Mem w [blkE w.heap.size 23 (p.map u8v)] (w.alloc (.cells cp 23)) from (Mem.nil w).alloc rfl 23 cp (p.map u8v) hcp.symm)
  clear hcp hr hp hlv
  have hcl := fun h : codedB l = true => codedB_len h
  have hln := HR.out.1
  generalize hcd : codedB l = cd at HCD HV hcl
  go_enter Tryd.func17, Tryd.ntmps17
  go_upto_region 1 with fail
  generalize (w.alloc (.cells cp 23)) = w1 at HM ⊢
  go_wp2_with fail
  refine (HCD.out w1 (HM.out.arg HR.out)).mono ?_
  rintro e w2 ⟨rfl, hb⟩
  replace HM := Lib.hid (show Mem w [blkE w.heap.size 23 (p.map u8v)] w2 from HM.out.below hb)
  clear hb HCD
  cases cd
  · go_wp2
    go_ret
    exact ⟨by rw [HV.out]; rfl, HM.out.bel⟩
  · replace hcl := hcl rfl
    rw [hln] at hcl
    obtain ⟨m, hm⟩ : ∃ m, n - 32 = m := ⟨_, rfl⟩
    obtain ⟨k, hk⟩ : ∃ k, n - 16 = k := ⟨_, rfl⟩
    obtain ⟨gb, go, rfl, -, -⟩ := HR.out.at_ (by omega)
    have hpl := codePlaces_any (some ⟨gb, go, none⟩) n c hn
    rw [show (n : Int) - 32 = ((m : Nat) : Int) from by omega, show (n : Int) - 16 = ((k : Nat) : Int) from by omega] at hpl
    have HPL := Lib.hid hpl
    have HSL := Lib.hid (slice_lh (some ⟨gb, go, none⟩) n c m k (by omega) (by omega) hnc)
    rw [addrOf_lt gb go m c (by omega), show k - m = 16 from by omega] at HSL
    have HSH := Lib.hid (slice_h (some ⟨gb, go, none⟩) ⟨gb, go, rfl⟩ n c m (by omega))
    have HRT := Lib.hid (HR.out.take (m := m) (by omega))
    have hrd := HR.out.drop m gb go rfl (by omega)
    have HRD := Lib.hid (hrd.take (m := 16) (by omega))
    have HMC := Lib.hid (fun W hl (h : Rd W W.heap.size (some ⟨gb, go, none⟩) m (l.take m)) => mcMac1C p HP.out (some ⟨gb, go, none⟩) m c (l.take m) (by omega) hcm (by omega) W hl h)
    replace HV := Lib.hid (show check1B p l = ((l.drop m).take 16 == mac1B p (l.take m)) from by rw [HV.out, Bool.true_and, hln, hm, BEq.comm])
    obtain ⟨mt, hmt⟩ : ∃ z, mac1B p (l.take m) = z := ⟨_, rfl⟩
    have HML := Lib.hid (show mt.length = 16 from by rw [← hmt]; exact mac1B_length _ _)
    rw [hmt] at HMC HV
    obtain ⟨cm, hcm⟩ : ∃ z, (mt.map u8v).toArray = z := ⟨_, rfl⟩
    rw [hcm, HCP.out] at HMC
    have HCM := Lib.hid hcm
    have HEQ := Lib.hid (fun W A' (ha : Rd W W.heap.size (some ⟨gb, go + m, none⟩) 16 ((l.drop m).take 16)) (hb : Rd W W.heap.size A' 16 mt) => equal_any W.heap.size 16 16 (c - m) 16 (some ⟨gb, go + m, none⟩) A' ((l.drop m).take 16) mt (by omega) (by omega) W (Nat.le_refl _) ha hb)
    clear hmt hcm hpl hrd
    go_wp2_with fail
    refine (HPL.out _).mono ?_
    rintro e w3 ⟨rfl, hb⟩
    replace HM := Lib.hid (show Mem w [blkE w.heap.size 23 (p.map u8v)] w3 from HM.out.below hb)
    clear hb HPL
    go_upto_region 4 with fail
    refine wp_region_held_drew (S := fun W' => Mem w [blkE w.heap.size 23 (p.map u8v)] W') (by kernel_rfl) ((HM.out).drew) (fun hHeld => ?_)
    replace HM := Lib.hid HM.out.drew
    generalize w3.drew = wd1 at HM hHeld ⊢
    refine take_first (v := .agg cp) 0 rfl (by kernel_rfl) (by kernel_rfl) (by kernel_rfl) (fun _ _ _ h => h) (by rw [← HCP.out]; exact yields_load_blk (by rfl) 23 (.tmp 2) rfl w.heap.size rfl 23 (p.map u8v) (fun w' hb => Mem.blk hb 0 rfl) 32 5 Tryd.underlying23 (cells32 p HP.out)) (by assumption) ?_
    (try simp only [Act.put, List.setIfInBounds_toArray, List.set_cons_zero, List.set_cons_succ])
    refine take_first (v := ?_) 1 rfl (by kernel_rfl) (by kernel_rfl) (by kernel_rfl) (fun _ _ _ h => h) (Or.inl ⟨by rfl, ?_⟩) (by assumption) ?_
    rotate_left
    · (intro w hSw; (try dsimp only at hSw); go_simp; try with_reducible rfl)
    (try simp only [Act.put, List.setIfInBounds_toArray, List.set_cons_zero, List.set_cons_succ])
    refine take_first (v := ?_) 2 rfl (by kernel_rfl) (by kernel_rfl) (by kernel_rfl) (fun _ _ _ h => h) (Or.inl ⟨by rfl, ?_⟩) (by assumption) ?_
    rotate_left
    · (intro w hSw; (try dsimp only at hSw); go_simp; try with_reducible rfl)
    (try simp only [Act.put, List.setIfInBounds_toArray, List.set_cons_zero, List.set_cons_succ])
    refine take_first (v := ?_) 3 rfl (by kernel_rfl) (by kernel_rfl) (by kernel_rfl) (fun _ _ _ h => h) (Or.inl ⟨by rfl, ?_⟩) (by assumption) ?_
    rotate_left
    · (intro w hSw; (try dsimp only at hSw); have hs := HSH.out w; go_simp; try with_reducible rfl)
    (try simp only [Act.put, List.setIfInBounds_toArray, List.set_cons_zero, List.set_cons_succ])
    refine step_two 4 5 rfl rfl (by kernel_rfl) (fun K hK => ?_) (fun K hK => ?_)
    · clear hHeld
      go_simp
      refine (HMC.out _ (HLV.out.below HM.out.bel) (HM.out.arg HRT.out)).mono ?_
      rintro e wy2 ⟨rfl, hb⟩
      replace HM := Lib.hid (show Mem w [blkE w.heap.size 23 (p.map u8v)] wy2 from HM.out.below hb)
      clear hb
      go_wp2_with fail
      refine hK.out _ _ (HM.out) (fun hHeld => ?_)
      clear hK K
      (try simp only [Act.put, List.setIfInBounds_toArray, List.set_cons_zero, List.set_cons_succ])
      refine step_one 5 rfl (by kernel_rfl) (fun K hK => ?_)
      clear hHeld
      go_simp
      replace HM := Lib.hid (show Mem w [blkE wy2.heap.size 30 ((List.replicate 16 (0 : UInt8)).map u8v), blkE w.heap.size 23 (p.map u8v)] (wy2.alloc (.cells #[.int .u8 0, .int .u8 0, .int .u8 0, .int .u8 0, .int .u8 0, .int .u8 0, .int .u8 0, .int .u8 0, .int .u8 0, .int .u8 0, .int .u8 0, .int .u8 0, .int .u8 0, .int .u8 0, .int .u8 0, .int .u8 0] 30)) from HM.out.alloc rfl 30 #[.int .u8 0, .int .u8 0, .int .u8 0, .int .u8 0, .int .u8 0, .int .u8 0, .int .u8 0, .int .u8 0, .int .u8 0, .int .u8 0, .int .u8 0, .int .u8 0, .int .u8 0, .int .u8 0, .int .u8 0, .int .u8 0] ((List.replicate 16 (0 : UInt8)).map u8v) rfl)
      generalize wy2.alloc (.cells #[.int .u8 0, .int .u8 0, .int .u8 0, .int .u8 0, .int .u8 0, .int .u8 0, .int .u8 0, .int .u8 0, .int .u8 0, .int .u8 0, .int .u8 0, .int .u8 0, .int .u8 0, .int .u8 0, .int .u8 0, .int .u8 0] 30) = wy3 at HM ⊢
      generalize wy2.heap.size = GM at HM ⊢
      refine hK.out _ _ ((HM.out.erase 0)) (fun hHeld => ?_)
      clear hK K
      (try simp only [Act.put, List.setIfInBounds_toArray, List.set_cons_zero, List.set_cons_succ])
      refine step_one 6 rfl (by kernel_rfl) (fun K hK => ?_)
      clear hHeld
      refine step_store_blk _ rfl 30 (.tmp 7) (.tmp 20) rfl GM (mt.map u8v) rfl (by show Value.agg cm = _; rw [HCM.out]) 30 ((List.replicate 16 (0 : UInt8)).map u8v) (HM.out.blk 0 rfl) (ae_cellsT mt HML.out) (by rw [List.length_map, List.length_map, HML.out]; rfl) (by intro v hv; obtain ⟨_, _, rfl⟩ := List.mem_map.1 hv; rfl) ?_
      intro wy4 hb hg
      replace HM := Lib.hid (show Mem w [blkE GM 30 (mt.map u8v), blkE w.heap.size 23 (p.map u8v)] wy4 from HM.out.put 0 rfl _ hg hb)
      clear hb hg
      refine hK.out _ _ ((HM.out.erase 0)) (fun hHeld => ?_)
      clear hK K
      (try simp only [Act.put])
      refine wpAnyH_done (by kernel_rfl) ?_ _
      clear hHeld
      generalize hwq : wy4 = w5 at HM ⊢
      clear hwq
      go_upto_region 5 with fail
      refine wp_region_held_drew (S := fun W' => Mem w [blkE GM 30 (mt.map u8v), blkE w.heap.size 23 (p.map u8v)] W') (by kernel_rfl) ((HM.out).drew) (fun hHeld => ?_)
      replace HM := Lib.hid HM.out.drew
      generalize w5.drew = wd1 at HM hHeld ⊢
      refine take_first (v := ?_) 0 rfl (by kernel_rfl) (by kernel_rfl) (by kernel_rfl) (fun _ _ _ h => h) (Or.inl ⟨by rfl, ?_⟩) (by assumption) ?_
      rotate_left
      · (intro w hSw; (try dsimp only at hSw); go_simp; try with_reducible rfl)
      (try simp only [Act.put, List.setIfInBounds_toArray, List.set_cons_zero, List.set_cons_succ])
      refine take_first (v := ?_) 1 rfl (by kernel_rfl) (by kernel_rfl) (by kernel_rfl) (fun _ _ _ h => h) (Or.inl ⟨by rfl, ?_⟩) (by assumption) ?_
      rotate_left
      · (intro w hSw; (try dsimp only at hSw); go_simp; try with_reducible rfl)
      (try simp only [Act.put, List.setIfInBounds_toArray, List.set_cons_zero, List.set_cons_succ])
      refine take_first (v := ?_) 2 rfl (by kernel_rfl) (by kernel_rfl) (by kernel_rfl) (fun _ _ _ h => h) (Or.inl ⟨by rfl, ?_⟩) (by assumption) ?_
      rotate_left
      · (intro w hSw; (try dsimp only at hSw); go_simp; try with_reducible rfl)
      (try simp only [Act.put, List.setIfInBounds_toArray, List.set_cons_zero, List.set_cons_succ])
      refine take_first (v := ?_) 3 rfl (by kernel_rfl) (by kernel_rfl) (by kernel_rfl) (fun _ _ _ h => h) (Or.inl ⟨by rfl, ?_⟩) (by assumption) ?_
      rotate_left
      · (intro w hSw; (try dsimp only at hSw); have hs := HSL.out w; go_simp; try with_reducible rfl)
      (try simp only [Act.put, List.setIfInBounds_toArray, List.set_cons_zero, List.set_cons_succ])
      refine take_first (v := ?_) 4 rfl (by kernel_rfl) (by kernel_rfl) (by kernel_rfl) (fun _ _ _ h => h) (Or.inl ⟨by rfl, ?_⟩) (by assumption) ?_
      rotate_left
      · (intro w hSw; (try dsimp only at hSw); go_simp; try with_reducible rfl)
      (try simp only [Act.put, List.setIfInBounds_toArray, List.set_cons_zero, List.set_cons_succ])
      refine step_one 5 rfl (by kernel_rfl) (fun K hK => ?_)
      clear hHeld
      go_simp
      refine (HEQ.out _ (some ⟨GM, 0, none⟩) (HM.out.arg HRD.out) (blk_all (HM.out.blk 0 rfl) HML.out)).mono ?_
      rintro e wy2 ⟨rfl, hb⟩
      replace HM := Lib.hid (show Mem w [blkE GM 30 (mt.map u8v), blkE w.heap.size 23 (p.map u8v)] wy2 from HM.out.below hb)
      clear hb
      go_wp2_with fail
      refine hK.out _ _ (HM.out) (fun hHeld => ?_)
      clear hK K
      (try simp only [Act.put, List.setIfInBounds_toArray, List.set_cons_zero, List.set_cons_succ])
      refine take_first (v := ?_) 6 rfl (by kernel_rfl) (by kernel_rfl) (by kernel_rfl) (fun _ _ _ h => h) (Or.inl ⟨by rfl, ?_⟩) (by assumption) ?_
      rotate_left
      · (intro w hSw; (try dsimp only at hSw); go_simp; try with_reducible rfl)
      (try simp only [Act.put, List.setIfInBounds_toArray, List.set_cons_zero, List.set_cons_succ])
      refine wpAnyH_done (by kernel_rfl) ?_ _
      clear hHeld
      go_wp2
      go_ret
      exact ⟨by rw [HV.out]; rfl, HM.out.bel⟩
    · clear hHeld
      go_simp
      replace HM := Lib.hid (show Mem w [blkE wd1.heap.size 30 ((List.replicate 16 (0 : UInt8)).map u8v), blkE w.heap.size 23 (p.map u8v)] (wd1.alloc (.cells #[.int .u8 0, .int .u8 0, .int .u8 0, .int .u8 0, .int .u8 0, .int .u8 0, .int .u8 0, .int .u8 0, .int .u8 0, .int .u8 0, .int .u8 0, .int .u8 0, .int .u8 0, .int .u8 0, .int .u8 0, .int .u8 0] 30)) from HM.out.alloc rfl 30 #[.int .u8 0, .int .u8 0, .int .u8 0, .int .u8 0, .int .u8 0, .int .u8 0, .int .u8 0, .int .u8 0, .int .u8 0, .int .u8 0, .int .u8 0, .int .u8 0, .int .u8 0, .int .u8 0, .int .u8 0, .int .u8 0] ((List.replicate 16 (0 : UInt8)).map u8v) rfl)
      generalize wd1.alloc (.cells #[.int .u8 0, .int .u8 0, .int .u8 0, .int .u8 0, .int .u8 0, .int .u8 0, .int .u8 0, .int .u8 0, .int .u8 0, .int .u8 0, .int .u8 0, .int .u8 0, .int .u8 0, .int .u8 0, .int .u8 0, .int .u8 0] 30) = wy2 at HM ⊢
      generalize wd1.heap.size = GM at HM ⊢
      refine hK.out _ _ ((HM.out.erase 0)) (fun hHeld => ?_)
      clear hK K
      (try simp only [Act.put, List.setIfInBounds_toArray, List.set_cons_zero, List.set_cons_succ])
      refine step_one 4 rfl (by kernel_rfl) (fun K hK => ?_)
      clear hHeld
      go_simp
      refine (HMC.out _ (HLV.out.below HM.out.bel) (HM.out.arg HRT.out)).mono ?_
      rintro e wy3 ⟨rfl, hb⟩
      replace HM := Lib.hid (show Mem w [blkE GM 30 ((List.replicate 16 (0 : UInt8)).map u8v), blkE w.heap.size 23 (p.map u8v)] wy3 from HM.out.below hb)
      clear hb
      go_wp2_with fail
      refine hK.out _ _ ((HM.out.erase 0)) (fun hHeld => ?_)
      clear hK K
      (try simp only [Act.put, List.setIfInBounds_toArray, List.set_cons_zero, List.set_cons_succ])
      refine step_one 6 rfl (by kernel_rfl) (fun K hK => ?_)
      clear hHeld
      refine step_store_blk _ rfl 30 (.tmp 7) (.tmp 20) rfl GM (mt.map u8v) rfl (by show Value.agg cm = _; rw [HCM.out]) 30 ((List.replicate 16 (0 : UInt8)).map u8v) (HM.out.blk 0 rfl) (ae_cellsT mt HML.out) (by rw [List.length_map, List.length_map, HML.out]; rfl) (by intro v hv; obtain ⟨_, _, rfl⟩ := List.mem_map.1 hv; rfl) ?_
      intro wy4 hb hg
      replace HM := Lib.hid (show Mem w [blkE GM 30 (mt.map u8v), blkE w.heap.size 23 (p.map u8v)] wy4 from HM.out.put 0 rfl _ hg hb)
      clear hb hg
      refine hK.out _ _ ((HM.out.erase 0)) (fun hHeld => ?_)
      clear hK K
      (try simp only [Act.put])
      refine wpAnyH_done (by kernel_rfl) ?_ _
      clear hHeld
      generalize hwq : wy4 = w5 at HM ⊢
      clear hwq
      go_upto_region 5 with fail
      refine wp_region_held_drew (S := fun W' => Mem w [blkE GM 30 (mt.map u8v), blkE w.heap.size 23 (p.map u8v)] W') (by kernel_rfl) ((HM.out).drew) (fun hHeld => ?_)
      replace HM := Lib.hid HM.out.drew
      generalize w5.drew = wd1 at HM hHeld ⊢
      refine take_first (v := ?_) 0 rfl (by kernel_rfl) (by kernel_rfl) (by kernel_rfl) (fun _ _ _ h => h) (Or.inl ⟨by rfl, ?_⟩) (by assumption) ?_
      rotate_left
      · (intro w hSw; (try dsimp only at hSw); go_simp; try with_reducible rfl)
      (try simp only [Act.put, List.setIfInBounds_toArray, List.set_cons_zero, List.set_cons_succ])
      refine take_first (v := ?_) 1 rfl (by kernel_rfl) (by kernel_rfl) (by kernel_rfl) (fun _ _ _ h => h) (Or.inl ⟨by rfl, ?_⟩) (by assumption) ?_
      rotate_left
      · (intro w hSw; (try dsimp only at hSw); go_simp; try with_reducible rfl)
      (try simp only [Act.put, List.setIfInBounds_toArray, List.set_cons_zero, List.set_cons_succ])
      refine take_first (v := ?_) 2 rfl (by kernel_rfl) (by kernel_rfl) (by kernel_rfl) (fun _ _ _ h => h) (Or.inl ⟨by rfl, ?_⟩) (by assumption) ?_
      rotate_left
      · (intro w hSw; (try dsimp only at hSw); go_simp; try with_reducible rfl)
      (try simp only [Act.put, List.setIfInBounds_toArray, List.set_cons_zero, List.set_cons_succ])
      refine take_first (v := ?_) 3 rfl (by kernel_rfl) (by kernel_rfl) (by kernel_rfl) (fun _ _ _ h => h) (Or.inl ⟨by rfl, ?_⟩) (by assumption) ?_
      rotate_left
      · (intro w hSw; (try dsimp only at hSw); have hs := HSL.out w; go_simp; try with_reducible rfl)
      (try simp only [Act.put, List.setIfInBounds_toArray, List.set_cons_zero, List.set_cons_succ])
      refine take_first (v := ?_) 4 rfl (by kernel_rfl) (by kernel_rfl) (by kernel_rfl) (fun _ _ _ h => h) (Or.inl ⟨by rfl, ?_⟩) (by assumption) ?_
      rotate_left
      · (intro w hSw; (try dsimp only at hSw); go_simp; try with_reducible rfl)
      (try simp only [Act.put, List.setIfInBounds_toArray, List.set_cons_zero, List.set_cons_succ])
      refine step_one 5 rfl (by kernel_rfl) (fun K hK => ?_)
      clear hHeld
      go_simp
      refine (HEQ.out _ (some ⟨GM, 0, none⟩) (HM.out.arg HRD.out) (blk_all (HM.out.blk 0 rfl) HML.out)).mono ?_
      rintro e wy2 ⟨rfl, hb⟩
      replace HM := Lib.hid (show Mem w [blkE GM 30 (mt.map u8v), blkE w.heap.size 23 (p.map u8v)] wy2 from HM.out.below hb)
      clear hb
      go_wp2_with fail
      refine hK.out _ _ (HM.out) (fun hHeld => ?_)
      clear hK K
      (try simp only [Act.put, List.setIfInBounds_toArray, List.set_cons_zero, List.set_cons_succ])
      refine take_first (v := ?_) 6 rfl (by kernel_rfl) (by kernel_rfl) (by kernel_rfl) (fun _ _ _ h => h) (Or.inl ⟨by rfl, ?_⟩) (by assumption) ?_
      rotate_left
      · (intro w hSw; (try dsimp only at hSw); go_simp; try with_reducible rfl)
      (try simp only [Act.put, List.setIfInBounds_toArray, List.set_cons_zero, List.set_cons_succ])
      refine wpAnyH_done (by kernel_rfl) ?_ _
      clear hHeld
      go_wp2
      go_ret
      exact ⟨by rw [HV.out]; rfl, HM.out.bel⟩
end Go.Proofs.YtlddafkikkaonaaDoor
namespace Go.Proofs.YtlddafkikkaonaaDoor
open Go.RowKit

set_option maxRecDepth 100000 in
set_option maxHeartbeats 8000000 in
theorem mcCheck2C : McCheck2C 19 := by
  intro ck hp A n c l hnc hcm hn w hlv hr
  have HR := Lib.hid hr
  have HP := Lib.hid hp
  have HLV := Lib.hid hlv
  have HNN := Lib.hid (And.intro hnc (And.intro hcm hn))
  have HCD := Lib.hid (hasCodes_any A n c l hnc hcm hn)
  have HV := Lib.hid (show check2B ck l = (codedB l && codeB ck (l.take (l.length - 16)) == l.drop (l.length - 16)) from rfl)
  obtain ⟨cp, hcp⟩ : ∃ z, (ck.map u8v).toArray = z := ⟨_, rfl⟩
  rw [hcp]
  have HCP := Lib.hid hcp
  have HM := Lib.hid (show Mem w [blkE w.heap.size 30 (ck.map u8v)] (w.alloc (.cells cp 30)) from (Mem.nil w).alloc rfl 30 cp (ck.map u8v) hcp.symm)
  clear hcp hr hp hlv
  have hcl := fun h : codedB l = true => codedB_len h
  have hln := HR.out.1
  generalize hcd : codedB l = cd at HCD HV hcl
  go_enter Tryd.func19, Tryd.ntmps19
  go_upto_region 1 with fail
  generalize (w.alloc (.cells cp 30)) = w1 at HM ⊢
  go_wp2_with fail
  refine (HCD.out w1 (HM.out.arg HR.out)).mono ?_
  rintro e w2 ⟨rfl, hb⟩
  replace HM := Lib.hid (show Mem w [blkE w.heap.size 30 (ck.map u8v)] w2 from HM.out.below hb)
  clear hb HCD
  cases cd
  · go_wp2
    go_ret
    exact ⟨by rw [HV.out]; rfl, HM.out.bel⟩
  · replace hcl := hcl rfl
    rw [hln] at hcl
    obtain ⟨m, hm⟩ : ∃ m, n - 16 = m := ⟨_, rfl⟩
    obtain ⟨k, hk⟩ : ∃ k, n - 32 = k := ⟨_, rfl⟩
    obtain ⟨gb, go, rfl, -, -⟩ := HR.out.at_ (by omega)
    have hpl := codePlaces_any (some ⟨gb, go, none⟩) n c hn
    rw [show (n : Int) - 32 = ((k : Nat) : Int) from by omega, show (n : Int) - 16 = ((m : Nat) : Int) from by omega] at hpl
    have HPL := Lib.hid hpl
    have HSL := Lib.hid (slice_l (some ⟨gb, go, none⟩) n c m (by omega))
    rw [addrOf_lt gb go m c (by omega), show n - m = 16 from by omega] at HSL
    have HSH := Lib.hid (slice_h (some ⟨gb, go, none⟩) ⟨gb, go, rfl⟩ n c m (by omega))
    have HRT := Lib.hid (HR.out.take (m := m) (by omega))
    have hrd := HR.out.drop m gb go rfl (by omega)
    have HRD := Lib.hid (show Rd w w.heap.size (some ⟨gb, go + m, none⟩) 16 (l.drop m) from by rwa [show n - m = 16 from by omega] at hrd)
    have HMC := Lib.hid (fun W hl (h : Rd W W.heap.size (some ⟨gb, go, none⟩) m (l.take m)) => mac2_any ck HP.out (some ⟨gb, go, none⟩) m c (l.take m) (by omega) hcm (by omega) W hl h)
    replace HV := Lib.hid (show check2B ck l = (l.drop m == codeB ck (l.take m)) from by rw [HV.out, Bool.true_and, hln, hm, BEq.comm])
    obtain ⟨mt, hmt⟩ : ∃ z, codeB ck (l.take m) = z := ⟨_, rfl⟩
    have HML := Lib.hid (show mt.length = 16 from by rw [← hmt]; exact codeB_length _ _)
    rw [hmt] at HMC HV
    obtain ⟨cm, hcm⟩ : ∃ z, (mt.map u8v).toArray = z := ⟨_, rfl⟩
    rw [hcm, HCP.out] at HMC
    have HCM := Lib.hid hcm
    have HEQ := Lib.hid (fun W A' (ha : Rd W W.heap.size (some ⟨gb, go + m, none⟩) 16 (l.drop m)) (hb : Rd W W.heap.size A' 16 mt) => equal_any W.heap.size 16 16 (c - m) 16 (some ⟨gb, go + m, none⟩) A' (l.drop m) mt (by omega) (by omega) W (Nat.le_refl _) ha hb)
    clear hmt hcm hpl hrd
    go_wp2_with fail
    refine (HPL.out _).mono ?_
    rintro e w3 ⟨rfl, hb⟩
    replace HM := Lib.hid (show Mem w [blkE w.heap.size 30 (ck.map u8v)] w3 from HM.out.below hb)
    clear hb HPL
    go_upto_region 4 with fail
    refine wp_region_held_drew (S := fun W' => Mem w [blkE w.heap.size 30 (ck.map u8v)] W') (by kernel_rfl) ((HM.out).drew) (fun hHeld => ?_)
    replace HM := Lib.hid HM.out.drew
    generalize w3.drew = wd1 at HM hHeld ⊢
    refine take_first (v := .agg cp) 0 rfl (by kernel_rfl) (by kernel_rfl) (by kernel_rfl) (fun _ _ _ h => h) (by rw [← HCP.out]; exact yields_load_blk (by rfl) 30 (.tmp 2) rfl w.heap.size rfl 30 (ck.map u8v) (fun w' hb => Mem.blk hb 0 rfl) 16 5 Tryd.underlying30 (ae_cellsT ck HP.out)) (by assumption) ?_
    (try simp only [Act.put, List.setIfInBounds_toArray, List.set_cons_zero, List.set_cons_succ])
    refine take_first (v := ?_) 1 rfl (by kernel_rfl) (by kernel_rfl) (by kernel_rfl) (fun _ _ _ h => h) (Or.inl ⟨by rfl, ?_⟩) (by assumption) ?_
    rotate_left
    · (intro w hSw; (try dsimp only at hSw); go_simp; try with_reducible rfl)
    (try simp only [Act.put, List.setIfInBounds_toArray, List.set_cons_zero, List.set_cons_succ])
    refine take_first (v := ?_) 2 rfl (by kernel_rfl) (by kernel_rfl) (by kernel_rfl) (fun _ _ _ h => h) (Or.inl ⟨by rfl, ?_⟩) (by assumption) ?_
    rotate_left
    · (intro w hSw; (try dsimp only at hSw); go_simp; try with_reducible rfl)
    (try simp only [Act.put, List.setIfInBounds_toArray, List.set_cons_zero, List.set_cons_succ])
    refine take_first (v := ?_) 3 rfl (by kernel_rfl) (by kernel_rfl) (by kernel_rfl) (fun _ _ _ h => h) (Or.inl ⟨by rfl, ?_⟩) (by assumption) ?_
    rotate_left
    · (intro w hSw; (try dsimp only at hSw); have hs := HSH.out w; go_simp; try with_reducible rfl)
    (try simp only [Act.put, List.setIfInBounds_toArray, List.set_cons_zero, List.set_cons_succ])
    refine step_two 4 5 rfl rfl (by kernel_rfl) (fun K hK => ?_) (fun K hK => ?_)
    · clear hHeld
      go_simp
      refine (HMC.out _ (HLV.out.below HM.out.bel) (HM.out.arg HRT.out)).mono ?_
      rintro e wy2 ⟨rfl, hb⟩
      replace HM := Lib.hid (show Mem w [blkE w.heap.size 30 (ck.map u8v)] wy2 from HM.out.below hb)
      clear hb
      go_wp2_with fail
      refine hK.out _ _ (HM.out) (fun hHeld => ?_)
      clear hK K
      (try simp only [Act.put, List.setIfInBounds_toArray, List.set_cons_zero, List.set_cons_succ])
      refine step_one 5 rfl (by kernel_rfl) (fun K hK => ?_)
      clear hHeld
      go_simp
      replace HM := Lib.hid (show Mem w [blkE wy2.heap.size 30 ((List.replicate 16 (0 : UInt8)).map u8v), blkE w.heap.size 30 (ck.map u8v)] (wy2.alloc (.cells #[.int .u8 0, .int .u8 0, .int .u8 0, .int .u8 0, .int .u8 0, .int .u8 0, .int .u8 0, .int .u8 0, .int .u8 0, .int .u8 0, .int .u8 0, .int .u8 0, .int .u8 0, .int .u8 0, .int .u8 0, .int .u8 0] 30)) from HM.out.alloc rfl 30 #[.int .u8 0, .int .u8 0, .int .u8 0, .int .u8 0, .int .u8 0, .int .u8 0, .int .u8 0, .int .u8 0, .int .u8 0, .int .u8 0, .int .u8 0, .int .u8 0, .int .u8 0, .int .u8 0, .int .u8 0, .int .u8 0] ((List.replicate 16 (0 : UInt8)).map u8v) rfl)
      generalize wy2.alloc (.cells #[.int .u8 0, .int .u8 0, .int .u8 0, .int .u8 0, .int .u8 0, .int .u8 0, .int .u8 0, .int .u8 0, .int .u8 0, .int .u8 0, .int .u8 0, .int .u8 0, .int .u8 0, .int .u8 0, .int .u8 0, .int .u8 0] 30) = wy3 at HM ⊢
      generalize wy2.heap.size = GM at HM ⊢
      refine hK.out _ _ ((HM.out.erase 0)) (fun hHeld => ?_)
      clear hK K
      (try simp only [Act.put, List.setIfInBounds_toArray, List.set_cons_zero, List.set_cons_succ])
      refine step_one 6 rfl (by kernel_rfl) (fun K hK => ?_)
      clear hHeld
      refine step_store_blk _ rfl 30 (.tmp 7) (.tmp 20) rfl GM (mt.map u8v) rfl (by show Value.agg cm = _; rw [HCM.out]) 30 ((List.replicate 16 (0 : UInt8)).map u8v) (HM.out.blk 0 rfl) (ae_cellsT mt HML.out) (by rw [List.length_map, List.length_map, HML.out]; rfl) (by intro v hv; obtain ⟨_, _, rfl⟩ := List.mem_map.1 hv; rfl) ?_
      intro wy4 hb hg
      replace HM := Lib.hid (show Mem w [blkE GM 30 (mt.map u8v), blkE w.heap.size 30 (ck.map u8v)] wy4 from HM.out.put 0 rfl _ hg hb)
      clear hb hg
      refine hK.out _ _ ((HM.out.erase 0)) (fun hHeld => ?_)
      clear hK K
      (try simp only [Act.put])
      refine wpAnyH_done (by kernel_rfl) ?_ _
      clear hHeld
      generalize hwq : wy4 = w5 at HM ⊢
      clear hwq
      go_upto_region 5 with fail
      refine wp_region_held_drew (S := fun W' => Mem w [blkE GM 30 (mt.map u8v), blkE w.heap.size 30 (ck.map u8v)] W') (by kernel_rfl) ((HM.out).drew) (fun hHeld => ?_)
      replace HM := Lib.hid HM.out.drew
      generalize w5.drew = wd1 at HM hHeld ⊢
      refine take_first (v := ?_) 0 rfl (by kernel_rfl) (by kernel_rfl) (by kernel_rfl) (fun _ _ _ h => h) (Or.inl ⟨by rfl, ?_⟩) (by assumption) ?_
      rotate_left
      · (intro w hSw; (try dsimp only at hSw); go_simp; try with_reducible rfl)
      (try simp only [Act.put, List.setIfInBounds_toArray, List.set_cons_zero, List.set_cons_succ])
      refine take_first (v := ?_) 1 rfl (by kernel_rfl) (by kernel_rfl) (by kernel_rfl) (fun _ _ _ h => h) (Or.inl ⟨by rfl, ?_⟩) (by assumption) ?_
      rotate_left
      · (intro w hSw; (try dsimp only at hSw); go_simp; try with_reducible rfl)
      (try simp only [Act.put, List.setIfInBounds_toArray, List.set_cons_zero, List.set_cons_succ])
      refine take_first (v := ?_) 2 rfl (by kernel_rfl) (by kernel_rfl) (by kernel_rfl) (fun _ _ _ h => h) (Or.inl ⟨by rfl, ?_⟩) (by assumption) ?_
      rotate_left
      · (intro w hSw; (try dsimp only at hSw); have hs := HSL.out w; go_simp; try with_reducible rfl)
      (try simp only [Act.put, List.setIfInBounds_toArray, List.set_cons_zero, List.set_cons_succ])
      refine take_first (v := ?_) 3 rfl (by kernel_rfl) (by kernel_rfl) (by kernel_rfl) (fun _ _ _ h => h) (Or.inl ⟨by rfl, ?_⟩) (by assumption) ?_
      rotate_left
      · (intro w hSw; (try dsimp only at hSw); go_simp; try with_reducible rfl)
      (try simp only [Act.put, List.setIfInBounds_toArray, List.set_cons_zero, List.set_cons_succ])
      refine step_one 4 rfl (by kernel_rfl) (fun K hK => ?_)
      clear hHeld
      go_simp
      refine (HEQ.out _ (some ⟨GM, 0, none⟩) (HM.out.arg HRD.out) (blk_all (HM.out.blk 0 rfl) HML.out)).mono ?_
      rintro e wy2 ⟨rfl, hb⟩
      replace HM := Lib.hid (show Mem w [blkE GM 30 (mt.map u8v), blkE w.heap.size 30 (ck.map u8v)] wy2 from HM.out.below hb)
      clear hb
      go_wp2_with fail
      refine hK.out _ _ (HM.out) (fun hHeld => ?_)
      clear hK K
      (try simp only [Act.put, List.setIfInBounds_toArray, List.set_cons_zero, List.set_cons_succ])
      refine take_first (v := ?_) 5 rfl (by kernel_rfl) (by kernel_rfl) (by kernel_rfl) (fun _ _ _ h => h) (Or.inl ⟨by rfl, ?_⟩) (by assumption) ?_
      rotate_left
      · (intro w hSw; (try dsimp only at hSw); go_simp; try with_reducible rfl)
      (try simp only [Act.put, List.setIfInBounds_toArray, List.set_cons_zero, List.set_cons_succ])
      refine wpAnyH_done (by kernel_rfl) ?_ _
      clear hHeld
      go_wp2
      go_ret
      exact ⟨by rw [HV.out]; rfl, HM.out.bel⟩
    · clear hHeld
      go_simp
      replace HM := Lib.hid (show Mem w [blkE wd1.heap.size 30 ((List.replicate 16 (0 : UInt8)).map u8v), blkE w.heap.size 30 (ck.map u8v)] (wd1.alloc (.cells #[.int .u8 0, .int .u8 0, .int .u8 0, .int .u8 0, .int .u8 0, .int .u8 0, .int .u8 0, .int .u8 0, .int .u8 0, .int .u8 0, .int .u8 0, .int .u8 0, .int .u8 0, .int .u8 0, .int .u8 0, .int .u8 0] 30)) from HM.out.alloc rfl 30 #[.int .u8 0, .int .u8 0, .int .u8 0, .int .u8 0, .int .u8 0, .int .u8 0, .int .u8 0, .int .u8 0, .int .u8 0, .int .u8 0, .int .u8 0, .int .u8 0, .int .u8 0, .int .u8 0, .int .u8 0, .int .u8 0] ((List.replicate 16 (0 : UInt8)).map u8v) rfl)
      generalize wd1.alloc (.cells #[.int .u8 0, .int .u8 0, .int .u8 0, .int .u8 0, .int .u8 0, .int .u8 0, .int .u8 0, .int .u8 0, .int .u8 0, .int .u8 0, .int .u8 0, .int .u8 0, .int .u8 0, .int .u8 0, .int .u8 0, .int .u8 0] 30) = wy2 at HM ⊢
      generalize wd1.heap.size = GM at HM ⊢
      refine hK.out _ _ ((HM.out.erase 0)) (fun hHeld => ?_)
      clear hK K
      (try simp only [Act.put, List.setIfInBounds_toArray, List.set_cons_zero, List.set_cons_succ])
      refine step_one 4 rfl (by kernel_rfl) (fun K hK => ?_)
      clear hHeld
      go_simp
      refine (HMC.out _ (HLV.out.below HM.out.bel) (HM.out.arg HRT.out)).mono ?_
      rintro e wy3 ⟨rfl, hb⟩
      replace HM := Lib.hid (show Mem w [blkE GM 30 ((List.replicate 16 (0 : UInt8)).map u8v), blkE w.heap.size 30 (ck.map u8v)] wy3 from HM.out.below hb)
      clear hb
      go_wp2_with fail
      refine hK.out _ _ ((HM.out.erase 0)) (fun hHeld => ?_)
      clear hK K
      (try simp only [Act.put, List.setIfInBounds_toArray, List.set_cons_zero, List.set_cons_succ])
      refine step_one 6 rfl (by kernel_rfl) (fun K hK => ?_)
      clear hHeld
      refine step_store_blk _ rfl 30 (.tmp 7) (.tmp 20) rfl GM (mt.map u8v) rfl (by show Value.agg cm = _; rw [HCM.out]) 30 ((List.replicate 16 (0 : UInt8)).map u8v) (HM.out.blk 0 rfl) (ae_cellsT mt HML.out) (by rw [List.length_map, List.length_map, HML.out]; rfl) (by intro v hv; obtain ⟨_, _, rfl⟩ := List.mem_map.1 hv; rfl) ?_
      intro wy4 hb hg
      replace HM := Lib.hid (show Mem w [blkE GM 30 (mt.map u8v), blkE w.heap.size 30 (ck.map u8v)] wy4 from HM.out.put 0 rfl _ hg hb)
      clear hb hg
      refine hK.out _ _ ((HM.out.erase 0)) (fun hHeld => ?_)
      clear hK K
      (try simp only [Act.put])
      refine wpAnyH_done (by kernel_rfl) ?_ _
      clear hHeld
      generalize hwq : wy4 = w5 at HM ⊢
      clear hwq
      go_upto_region 5 with fail
      refine wp_region_held_drew (S := fun W' => Mem w [blkE GM 30 (mt.map u8v), blkE w.heap.size 30 (ck.map u8v)] W') (by kernel_rfl) ((HM.out).drew) (fun hHeld => ?_)
      replace HM := Lib.hid HM.out.drew
      generalize w5.drew = wd1 at HM hHeld ⊢
      refine take_first (v := ?_) 0 rfl (by kernel_rfl) (by kernel_rfl) (by kernel_rfl) (fun _ _ _ h => h) (Or.inl ⟨by rfl, ?_⟩) (by assumption) ?_
      rotate_left
      · (intro w hSw; (try dsimp only at hSw); go_simp; try with_reducible rfl)
      (try simp only [Act.put, List.setIfInBounds_toArray, List.set_cons_zero, List.set_cons_succ])
      refine take_first (v := ?_) 1 rfl (by kernel_rfl) (by kernel_rfl) (by kernel_rfl) (fun _ _ _ h => h) (Or.inl ⟨by rfl, ?_⟩) (by assumption) ?_
      rotate_left
      · (intro w hSw; (try dsimp only at hSw); go_simp; try with_reducible rfl)
      (try simp only [Act.put, List.setIfInBounds_toArray, List.set_cons_zero, List.set_cons_succ])
      refine take_first (v := ?_) 2 rfl (by kernel_rfl) (by kernel_rfl) (by kernel_rfl) (fun _ _ _ h => h) (Or.inl ⟨by rfl, ?_⟩) (by assumption) ?_
      rotate_left
      · (intro w hSw; (try dsimp only at hSw); have hs := HSL.out w; go_simp; try with_reducible rfl)
      (try simp only [Act.put, List.setIfInBounds_toArray, List.set_cons_zero, List.set_cons_succ])
      refine take_first (v := ?_) 3 rfl (by kernel_rfl) (by kernel_rfl) (by kernel_rfl) (fun _ _ _ h => h) (Or.inl ⟨by rfl, ?_⟩) (by assumption) ?_
      rotate_left
      · (intro w hSw; (try dsimp only at hSw); go_simp; try with_reducible rfl)
      (try simp only [Act.put, List.setIfInBounds_toArray, List.set_cons_zero, List.set_cons_succ])
      refine step_one 4 rfl (by kernel_rfl) (fun K hK => ?_)
      clear hHeld
      go_simp
      refine (HEQ.out _ (some ⟨GM, 0, none⟩) (HM.out.arg HRD.out) (blk_all (HM.out.blk 0 rfl) HML.out)).mono ?_
      rintro e wy2 ⟨rfl, hb⟩
      replace HM := Lib.hid (show Mem w [blkE GM 30 (mt.map u8v), blkE w.heap.size 30 (ck.map u8v)] wy2 from HM.out.below hb)
      clear hb
      go_wp2_with fail
      refine hK.out _ _ (HM.out) (fun hHeld => ?_)
      clear hK K
      (try simp only [Act.put, List.setIfInBounds_toArray, List.set_cons_zero, List.set_cons_succ])
      refine take_first (v := ?_) 5 rfl (by kernel_rfl) (by kernel_rfl) (by kernel_rfl) (fun _ _ _ h => h) (Or.inl ⟨by rfl, ?_⟩) (by assumption) ?_
      rotate_left
      · (intro w hSw; (try dsimp only at hSw); go_simp; try with_reducible rfl)
      (try simp only [Act.put, List.setIfInBounds_toArray, List.set_cons_zero, List.set_cons_succ])
      refine wpAnyH_done (by kernel_rfl) ?_ _
      clear hHeld
      go_wp2
      go_ret
      exact ⟨by rw [HV.out]; rfl, HM.out.bel⟩
end Go.Proofs.YtlddafkikkaonaaDoor
namespace Go.Proofs.YtlddafkikkaonaaDoor
open Go.RowKit

theorem xcReadWords_any (G off n c kb m : Nat) (t tk : TypeId) (l : List UInt32) (bs : List UInt8) (hl : l.length = 16) (hoff : off + n ≤ 16) (hc : n ≤ c) (hb : bs.length = m) (hm : 4 * n ≤ m) (hm2 : m ≤ 1000) (hkG : G ≠ kb) (w : World) (hG : Blk w G t (l.map u32v)) (hK : Blk w kb tk (bs.map u8v)) :
    Calls Tryd.prog 97 #[.slice (some ⟨G, off, none⟩) n c, .slice (some ⟨kb, 0, none⟩) m m] w fun e w' => e = .returned (.tuple #[]) ∧ Blk w' G t ((fillW l off (wordL bs) n).map u32v) ∧ w.grownBy w' (some G) := by
  have HG := Lib.hid hG
  have HK := Lib.hid hK
  have HL := Lib.hid hl
  have HB := Lib.hid hb
  have HKG := Lib.hid hkG
  clear hG hK hl hb hkG
  go_enter Tryd.func97, Tryd.ntmps97
  go_wp2
  go_loopw [7, 4] (fun i _ wr => ∃ j : Nat, j ≤ n ∧ i = .int .i64 j ∧ Blk wr G t ((fillW l off (wordL bs) j).map u32v) ∧ Blk wr kb tk (bs.map u8v) ∧ w.grownBy wr (some G)) (fun i _ _ => n - (intOf i).toNat)
  case atStart => exact ⟨0, by omega, rfl, HG.out, HK.out, World.grownBy.refl _ _⟩
  case round =>
    obtain ⟨j, hj, rfl, hblk, hk, hg⟩ := hrel
    by_cases hlt : j < n
    · have rd := hk.rd (4 * j) 4 (by have := HB.out; omega)
      have RL := Lib.hid (readLittle_any _ _ 4 (m - 4 * j) _ (by omega) wr rd)
      have hlen : (fillW l off (wordL bs) j).length = 16 := by rw [fillW_length]; exact HL.out
      have fx := hblk.word (off + j) (by omega)
      have zx := hblk.frozen (off + j)
      have WW := Lib.hid (word_wrap bs j)
      have HN := Lib.hid (And.intro (hblk.setWord (off + j) (wordL bs j)) (And.intro (hk.far (p := ⟨G, off + j, none⟩) HKG.out.symm (.int .u32 ((wordL bs j).toNat : Int))) (grown_set hg (off + j) (.int .u32 ((wordL bs j).toNat : Int)))))
      clear hblk hk hg rd hlen
      go_wp2_with fail
      rw [show (j + 1) * 4 - j * 4 = 4 by omega, Nat.mul_comm j 4]
      refine RL.out.mono ?_
      rintro e w1 ⟨rfl, rfl⟩
      clear RL
      obtain ⟨N, hN⟩ : ∃ N, numL (((bs.drop (4 * j)).take 4).take 8) = N := ⟨_, rfl⟩
      have WN := WW.out
      rw [hN] at WN ⊢
      clear hN WW
      go_wp2
      go_roundw
      case rel =>
        exact ⟨j + 1, by omega, by go_num, HN.out.1, HN.out.2.1, HN.out.2.2⟩
      case measure => simp [intOf]; omega
    · obtain rfl : j = n := by omega
      have HN := Lib.hid (And.intro hblk hg)
      clear hblk hg hk
      go_wp2
      refine bodyPost_end (results_none rfl _ _ _) rfl ⟨rfl, HN.out.1, HN.out.2⟩

theorem grown_trans' {a w w' : World} {row : Option Nat} (h : a.grownBy w row) (k : w.grownBy w' row) : a.grownBy w' row :=
  ⟨k.os.trans h.os, k.tape.trans h.tape, k.output.trans h.output, Nat.le_trans h.size k.size, fun i hi hr => (k.block i (Nat.lt_of_lt_of_le hi h.size) hr).trans (h.block i hi hr)⟩
theorem grown_below {a w w' : World} {row : Option Nat} (h : a.grownBy w row) (hb : Below w.heap.size w w') : a.grownBy w' row :=
  grown_trans' h ⟨hb.os, hb.tape, hb.output, hb.size, fun i hi _ => hb.block i hi⟩
theorem grown_drew {a w : World} {row : Option Nat} (h : a.grownBy w row) : a.grownBy w.drew row := ⟨h.os, h.tape, h.output, h.size, h.block⟩
/-- l with the bytes of words laid from off on -/
def writeW (l : List UInt8) (off : Nat) (f : Nat → UInt32) : Nat → List UInt8
  | 0 => l
  | j + 1 => putL (writeW l off f j) (off + 4 * j) (littleL (f j).toNat 4)
theorem writeW_length (l : List UInt8) (off : Nat) (f : Nat → UInt32) : ∀ j, off + 4 * j ≤ l.length → (writeW l off f j).length = l.length
  | 0, _ => rfl
  | j + 1, h => by
    have := writeW_length l off f j (by omega)
    rw [writeW, putL_length _ _ _ (by rw [littleL_length]; omega), this]

set_option maxRecDepth 100000 in
theorem xcWriteWords_any (G off c H o2 n c2 M : Nat) (t th : TypeId) (l : List UInt8) (ws : List UInt32) (hl : l.length = M) (hM : off + 4 * n ≤ M) (_hM2 : M ≤ 1000) (hc : 4 * n ≤ c) (hcm : c ≤ 1000) (hw : o2 + n ≤ ws.length) (hc2 : n ≤ c2) (hHG : H ≠ G) (w : World) (hG : Blk w G t (l.map u8v)) (hH : Blk w H th (ws.map u32v)) :
    Calls Tryd.prog 90 #[.slice (some ⟨G, off, none⟩) (4 * n : Nat) c, .slice (some ⟨H, o2, none⟩) n c2] w fun e w' => e = .returned (.tuple #[]) ∧ Blk w' G t ((writeW l off (fun i => wd ws (o2 + i)) n).map u8v) ∧ w.grownBy w' (some G) := by
  have HG := Lib.hid hG
  have HH := Lib.hid hH
  have HL := Lib.hid hl
  have HW := Lib.hid hw
  have HHG := Lib.hid hHG
  clear hG hH hl hw hHG
  go_enter Tryd.func90, Tryd.ntmps90
  go_wp2
  go_loopw [8, 4, 5] (fun i _ _ wr => ∃ j : Nat, j ≤ n ∧ i = .int .i64 j ∧ Blk wr G t ((writeW l off (fun i => wd ws (o2 + i)) j).map u8v) ∧ Blk wr H th (ws.map u32v) ∧ w.grownBy wr (some G)) (fun i _ _ _ => n - (intOf i).toNat)
  case atStart => exact ⟨0, by omega, rfl, HG.out, HH.out, World.grownBy.refl _ _⟩
  case round =>
    clear HG HH
    obtain ⟨j, hj, rfl, hg, hh, hgr⟩ := hrel
    by_cases hlt : j < n
    · have fx := hh.word (o2 + j) (by have := HW.out; omega)
      have hlen : (writeW l off (fun i => wd ws (o2 + i)) j).length = M := by rw [writeW_length _ _ _ _ (by have := HL.out; omega)]; exact HL.out
      have hnx : writeW l off (fun i => wd ws (o2 + i)) (j + 1) = putL (writeW l off (fun i => wd ws (o2 + i)) j) (off + 4 * j) (littleL (wd ws (o2 + j)).toNat 4) := rfl
      generalize writeW l off (fun i => wd ws (o2 + i)) j = cur at hg hlen hnx
      have HX := Lib.hid hnx
      clear hnx
      obtain ⟨x, hx⟩ : ∃ x, wd ws (o2 + j) = x := ⟨_, rfl⟩
      rw [hx] at fx
      have HB := Lib.hid (And.intro hg (And.intro hh hgr))
      clear hg hh hgr
      have hwr : IntKind.i64.wrap ((j : Int) * 4) = (j : Int) * 4 := IntWalk.i64_in _ (by omega)
      have hwc : IntKind.u64.wrap (x.toNat : Int) = (x.toNat : Int) := by
        have := x.toNat_lt
        rw [IntKind.wrap_u64]
        omega
      have hsl : ∀ w' : World, (Instr.sliceAt 24 (.slice (some ⟨G, off, none⟩) (4 * n) c) (some (.int .i64 ((j : Int) * 4))) none none).run Tryd.prog w' = .ok (.slice (some ⟨G, off + 4 * j, none⟩) (4 * n - 4 * j) (c - 4 * j)) w' := by
        intro w'
        have h := slice_l (some ⟨G, off, none⟩) (4 * n) c (4 * j) (by omega) w'
        rw [addrOf, if_neg (by omega), Option.map_some, Go.WideShapes.add_plain, Nat.mul_one, show ((4 * j : Nat) : Int) = (j : Int) * 4 by omega] at h
        exact h
      have HLI := Lib.hid (fun w' : World => little_any x.toNat (by have := x.toNat_lt; omega) 4 (by omega) (by omega) w')
      have HLEN := Lib.hid hlen
      clear hlen
      go_upto_region 3 with fail
      refine wp_region_held_drew (S := fun _ => True) (by kernel_rfl) (trivial) (fun hHeld => ?_)
      refine take_first (v := ?_) 0 rfl (by kernel_rfl) (by kernel_rfl) (by kernel_rfl) (fun _ _ _ h => h) (Or.inl ⟨by rfl, ?_⟩) (by assumption) ?_
      rotate_left
      · (intro w hSw; (try dsimp only at hSw); go_simp; try with_reducible rfl)
      (try simp only [Act.put, List.setIfInBounds_toArray, List.set_cons_zero, List.set_cons_succ])
      refine take_first (v := ?_) 1 rfl (by kernel_rfl) (by kernel_rfl) (by kernel_rfl) (fun _ _ _ h => h) (Or.inl ⟨by rfl, ?_⟩) (by assumption) ?_
      rotate_left
      · (intro w hSw; (try dsimp only at hSw); go_simp; try with_reducible rfl)
      (try simp only [Act.put, List.setIfInBounds_toArray, List.set_cons_zero, List.set_cons_succ])
      refine take_first (v := ?_) 2 rfl (by kernel_rfl) (by kernel_rfl) (by kernel_rfl) (fun _ _ _ h => h) (Or.inl ⟨by rfl, ?_⟩) (by assumption) ?_
      rotate_left
      · (intro w hSw; (try dsimp only at hSw); go_simp; try with_reducible rfl)
      (try simp only [Act.put, List.setIfInBounds_toArray, List.set_cons_zero, List.set_cons_succ])
      refine take_first (v := ?_) 3 rfl (by kernel_rfl) (by kernel_rfl) (by kernel_rfl) (fun _ _ _ h => h) (Or.inl ⟨by rfl, ?_⟩) (by assumption) ?_
      rotate_left
      · (intro w hSw; (try dsimp only at hSw); go_simp; try with_reducible rfl)
      (try simp only [Act.put, List.setIfInBounds_toArray, List.set_cons_zero, List.set_cons_succ])
      refine take_first (v := ?_) 4 rfl (by kernel_rfl) (by kernel_rfl) (by kernel_rfl) (fun _ _ _ h => h) (Or.inl ⟨by rfl, ?_⟩) (by assumption) ?_
      rotate_left
      · (intro w hSw; (try dsimp only at hSw); go_simp; try with_reducible rfl)
      (try simp only [Act.put, List.setIfInBounds_toArray, List.set_cons_zero, List.set_cons_succ])
      refine take_first (v := ?_) 5 rfl (by kernel_rfl) (by kernel_rfl) (by kernel_rfl) (fun _ _ _ h => h) (Or.inl ⟨by rfl, ?_⟩) (by assumption) ?_
      rotate_left
      · (intro w hSw; (try dsimp only at hSw); go_simp; try with_reducible rfl)
      (try simp only [Act.put, List.setIfInBounds_toArray, List.set_cons_zero, List.set_cons_succ])
      refine step_one 6 rfl (by kernel_rfl) (fun K hK => ?_)
      go_simp
      refine (HLI.out _).mono ?_
      rintro e wq ⟨rfl, hown, hbq⟩
      have HB8 := Lib.hid (show Blk wq G t (cur.map u8v) ∧ Blk wq H th (ws.map u32v) ∧ w.grownBy wq (some G) from ⟨HB.out.1.drew.below hbq HB.out.1.lt, HB.out.2.1.drew.below hbq HB.out.2.1.lt, grown_below (grown_drew HB.out.2.2) hbq⟩)
      have HO := Lib.hid hown
      clear hown hbq
      go_wp2_with fail
      refine hK.out _ _ (trivial) (fun hHeld => ?_)
      clear hK K
      (try simp only [Act.put, List.setIfInBounds_toArray, List.set_cons_zero, List.set_cons_succ])
      refine step_one 7 rfl (by kernel_rfl) (fun K hK => ?_)
      refine step_copy_bytes _ rfl (.tmp 16) (.tmp 19) 24 24 (by rfl) 5 Tryd.underlying24 (by kernel_rfl) G (off + 4 * j) (4 * n - 4 * j) (c - 4 * j) ⟨wr.heap.size, 0, none⟩ 4 4 (by rfl) (by rfl) (cur.map u8v) t HB8.out.1 ((littleL x.toNat 4).map u8v) (by rw [List.length_map, littleL_length]; exact (Nat.min_eq_left (show 4 ≤ 4 * n - 4 * j by omega)).symm) (Rd.of_own HO.out).src (by simp only [List.length_map, littleL_length, HLEN.out]; omega) (u8v_one _) ?_
      intro w8 hb8 hg8
      rw [putL_map] at hb8
      refine hK.out _ _ (trivial) (fun hHeld => ?_)
      clear hK K
      (try simp only [Act.put, List.setIfInBounds_toArray, List.set_cons_zero, List.set_cons_succ])
      refine wpAnyH_done (by kernel_rfl) ?_ _
      have HN := Lib.hid (show Blk w8 G t ((writeW l off (fun i => wd ws (o2 + i)) (j + 1)).map u8v) ∧ Blk w8 H th (ws.map u32v) ∧ w.grownBy w8 (some G) from by
        rw [HX.out, hx]
        exact ⟨hb8, HB8.out.2.1.grown hg8 (by intro e; injection e with e; exact HHG.out e), grown_trans' HB8.out.2.2 hg8⟩)
      clear hb8 hg8 HB8 HB HO hwr hwc hsl
      go_wp2
      go_roundw
      case rel => exact ⟨j + 1, by omega, by go_num, HN.out.1, HN.out.2.1, HN.out.2.2⟩
      case measure => simp [intOf]; omega
    · obtain rfl : j = n := by omega
      have HN := Lib.hid (And.intro hg hgr)
      clear hg hgr hh
      go_wp2
      refine bodyPost_end (results_none rfl _ _ _) rfl ⟨rfl, HN.out.1, HN.out.2⟩

set_option maxRecDepth 100000 in
theorem xcStateOf_any (k inn : List UInt8) (hk : k.length = 32) (hin : inn.length = 16) (w : World) :
    Calls Tryd.prog 89 #[.agg (k.map u8v).toArray, .agg (inn.map u8v).toArray] w fun e w' => e = .returned (.agg ((xcW k inn).map u32v).toArray) ∧ Below w.heap.size w w' := by
  obtain ⟨ck, hck⟩ : ∃ ck, (k.map u8v).toArray = ck := ⟨_, rfl⟩
  obtain ⟨ci, hci⟩ : ∃ ck, (inn.map u8v).toArray = ck := ⟨_, rfl⟩
  rw [hck, hci]
  have HM := Lib.hid (show Mem w [blkE (w.heap.size + 1 + 1) 120 z16, blkE (w.heap.size + 1) 25 (inn.map u8v), blkE w.heap.size 23 (k.map u8v)] (((w.alloc (.cells ck 23)).alloc (.cells ci 25)).alloc (.cells #[.int .u32 0, .int .u32 0, .int .u32 0, .int .u32 0, .int .u32 0, .int .u32 0, .int .u32 0, .int .u32 0, .int .u32 0, .int .u32 0, .int .u32 0, .int .u32 0, .int .u32 0, .int .u32 0, .int .u32 0, .int .u32 0] 120)) from (((Mem.nil w).alloc rfl 23 ck (k.map u8v) hck.symm).alloc (by simp) 25 ci (inn.map u8v) hci.symm).alloc (by simp) 120 #[.int .u32 0, .int .u32 0, .int .u32 0, .int .u32 0, .int .u32 0, .int .u32 0, .int .u32 0, .int .u32 0, .int .u32 0, .int .u32 0, .int .u32 0, .int .u32 0, .int .u32 0, .int .u32 0, .int .u32 0, .int .u32 0] z16 rfl)
  have HK := Lib.hid hk
  have HN := Lib.hid hin
  have HBM := Lib.hid base_map
  clear hk hin hck hci
  go_enter Tryd.func89, Tryd.ntmps89
  go_upto_region 1 with fail
  generalize hw1 : (((w.alloc (.cells ck 23)).alloc (.cells ci 25)).alloc (.cells #[.int .u32 0, .int .u32 0, .int .u32 0, .int .u32 0, .int .u32 0, .int .u32 0, .int .u32 0, .int .u32 0, .int .u32 0, .int .u32 0, .int .u32 0, .int .u32 0, .int .u32 0, .int .u32 0, .int .u32 0, .int .u32 0] 120)) = w1 at HM ⊢
  have HS1 := Lib.hid (show w1.heap.size = w.heap.size + 3 by rw [← hw1]; simp)
  clear hw1
  have HA := Lib.hid (show Mem w [blkE w1.heap.size 120 z16, blkE (w.heap.size + 1 + 1) 120 z16, blkE (w.heap.size + 1) 25 (inn.map u8v), blkE w.heap.size 23 (k.map u8v)] (w1.alloc (.cells #[.int .u32 0, .int .u32 0, .int .u32 0, .int .u32 0, .int .u32 0, .int .u32 0, .int .u32 0, .int .u32 0, .int .u32 0, .int .u32 0, .int .u32 0, .int .u32 0, .int .u32 0, .int .u32 0, .int .u32 0, .int .u32 0] 120)) from HM.out.alloc rfl 120 #[.int .u32 0, .int .u32 0, .int .u32 0, .int .u32 0, .int .u32 0, .int .u32 0, .int .u32 0, .int .u32 0, .int .u32 0, .int .u32 0, .int .u32 0, .int .u32 0, .int .u32 0, .int .u32 0, .int .u32 0, .int .u32 0] z16 rfl)
  go_upto_region 2 with (refine wpList_store_blk rfl 120 (.tmp 5) (.tmp 6) rfl w1.heap.size (baseW.map u32v) rfl (by rw [HBM.out]; rfl) 120 z16 (HA.out.blk 0 rfl) (cells16 baseW rfl) rfl (u32v_one _) ?_; intro w2 hb2 hg2)
  (try simp only [Act.put])
  replace HM := Lib.hid (show Mem w [blkE w1.heap.size 120 (baseW.map u32v), blkE (w.heap.size + 1 + 1) 120 z16, blkE (w.heap.size + 1) 25 (inn.map u8v), blkE w.heap.size 23 (k.map u8v)] w2 from HA.out.put 0 rfl _ hg2 hb2)
  clear hb2 hg2 HA HBM
  have HGN := Lib.hid (show w1.heap.size ≠ w.heap.size ∧ w1.heap.size ≠ w.heap.size + 1 by have := HS1.out; omega)
  clear HS1
  generalize w1.heap.size = G at HM HGN ⊢
  go_cut [] (fun wx => Mem w [blkE G 120 ((fillW baseW 4 (wordL k) 8).map u32v), blkE (w.heap.size + 1 + 1) 120 z16, blkE (w.heap.size + 1) 25 (inn.map u8v), blkE w.heap.size 23 (k.map u8v)] wx)
  case first =>
    have RW := Lib.hid (fun w' : World => fun h1 h2 => xcReadWords_any G 4 8 12 w.heap.size 32 120 23 (baseW) k rfl (by omega) (by omega) HK.out (by omega) (by omega) HGN.out.1 w' h1 h2)
    go_region_with ((go_at_call 97; refine (RW.out w2.drew (HM.out.drew.blk 0 rfl) (HM.out.drew.blk 3 rfl)).mono ?_; rintro e w4 ⟨rfl, hb4, hg4⟩))
    all_goals (go_wp2; go_meet; exact HM.out.drew.put 0 rfl _ hg4 hb4)
  case rest =>
    replace HM := Lib.hid hcut
    clear hcut
    go_upto_region 3 with fail
    go_cut [] (fun wx => Mem w [blkE G 120 ((fillW (fillW baseW 4 (wordL k) 8) 12 (wordL inn) 4).map u32v), blkE (w.heap.size + 1 + 1) 120 z16, blkE (w.heap.size + 1) 25 (inn.map u8v), blkE w.heap.size 23 (k.map u8v)] wx)
    case first =>
      have RW := Lib.hid (fun w' : World => fun h1 h2 => xcReadWords_any G 12 4 4 (w.heap.size + 1) 16 120 25 (fillW baseW 4 (wordL k) 8) inn (by rw [fillW_length]; rfl) (by omega) (by omega) HN.out (by omega) (by omega) HGN.out.2 w' h1 h2)
      go_region_with ((go_at_call 97; refine (RW.out wc.drew (HM.out.drew.blk 0 rfl) (HM.out.drew.blk 2 rfl)).mono ?_; rintro e w4 ⟨rfl, hb4, hg4⟩))
      all_goals (go_wp2; go_meet; exact HM.out.drew.put 0 rfl _ hg4 hb4)
    case rest =>
      replace HM := Lib.hid hcut
      clear hcut
      have HZ := Lib.hid (show fillW (fillW baseW 4 (wordL k) 8) 12 (wordL inn) 4 = xcW k inn from rfl)
      have HLz := Lib.hid (xcW_length k inn)
      rw [HZ.out] at HM
      clear HZ
      obtain ⟨lz, hlz⟩ : ∃ l, xcW k inn = l := ⟨_, rfl⟩
      rw [hlz] at HM HLz
      have HSZ := Lib.hid hlz
      clear hlz
      obtain ⟨cz, hcz⟩ : ∃ cz, (lz.map u32v).toArray = cz := ⟨_, rfl⟩
      have HCZ := Lib.hid hcz
      clear hcz
      go_wp2_with (first | (refine wpList_load_blk rfl 120 (.tmp 5) rfl G rfl 120 (lz.map u32v) (HM.out.blk 0 rfl) 16 31 Tryd.underlying120 (cells16 lz HLz.out) ?_; rw [HCZ.out]) | (refine wpList_store_blk rfl 120 (.tmp 4) (.tmp 13) rfl (w.heap.size + 1 + 1) (lz.map u32v) rfl (by show Value.agg cz = _; rw [HCZ.out]) 120 z16 (HM.out.blk 1 rfl) (cells16 lz HLz.out) (by rw [List.length_map, HLz.out]; rfl) (u32v_one _) ?_; intro w9 hb9 hg9))
      exact bodyPost_ret (results_blk rfl _ _ (w.heap.size + 1 + 1) 120 (lz.map u32v) 16 31 rfl hb9 Tryd.underlying120 (cells16 lz HLz.out)) rfl ⟨by rw [HSZ.out], (HM.out.put 1 rfl _ hg9 hb9).bel⟩
end Go.Proofs.YtlddafkikkaonaaDoor
namespace Go.Proofs.YtlddafkikkaonaaDoor
open Go.RowKit

def DeriveC : Prop := ∀ (k inn : List UInt8), k.length = 32 → inn.length = 16 → ∀ w : World,
  Calls Tryd.prog 79 #[.agg (k.map u8v).toArray, .agg (inn.map u8v).toArray] w fun e w' => e = .returned (.agg ((deriveL k inn).map u8v).toArray) ∧ Below w.heap.size w w'
def XSealC : Prop := ∀ (k n : List UInt8), k.length = 32 → n.length = 24 → ∀ (Ap Am : Option Addr) (np cp nm cm : Nat) (pl more : List UInt8), np ≤ cp → cp ≤ maxLen → nm ≤ cm → cm ≤ maxLen → np ≤ 100000 → nm ≤ 100000 → ∀ w : World, Rd w w.heap.size Ap np pl → Rd w w.heap.size Am nm more →
  Calls Tryd.prog 49 #[.agg (k.map u8v).toArray, .agg (n.map u8v).toArray, .slice Ap np cp, .slice Am nm cm] w fun e w' => ∃ A c', e = .returned (.slice A (np + 16) c') ∧ w'.ownsRow w.heap.size 5 1 (.slice A (np + 16) c') (np + 16) ((xsealL k n pl more).map u8v) ∧ Below w.heap.size w w'
def XOpenC : Prop := ∀ (k n : List UInt8), k.length = 32 → n.length = 24 → ∀ (As Am : Option Addr) (ns cs nm cm : Nat) (sl more : List UInt8), ns ≤ cs → cs ≤ maxLen → nm ≤ cm → cm ≤ maxLen → ns ≤ 100000 → nm ≤ 100000 → ∀ w : World, Rd w w.heap.size As ns sl → Rd w w.heap.size Am nm more →
  Calls Tryd.prog 48 #[.agg (k.map u8v).toArray, .agg (n.map u8v).toArray, .slice As ns cs, .slice Am nm cm] w fun e w' => ∃ A c', e = .returned (.tuple #[.slice A (xopenL k n sl more).1.length c', .int .i64 ((xopenL k n sl more).2 : Int)]) ∧ Rd w' w'.heap.size A (xopenL k n sl more).1.length (xopenL k n sl more).1 ∧ (xopenL k n sl more).1.length ≤ c' ∧ c' ≤ maxLen ∧ Below w.heap.size w w'
end Go.Proofs.YtlddafkikkaonaaDoor
namespace Go.Proofs.YtlddafkikkaonaaDoor
open Go.RowKit

theorem der_eight (b0 b1 b2 b3 c0 c1 c2 c3 : List UInt8) (hb0 : b0.length = 4) (hb1 : b1.length = 4) (hb2 : b2.length = 4) (hb3 : b3.length = 4) (hc0 : c0.length = 4) (hc1 : c1.length = 4) (hc2 : c2.length = 4) (hc3 : c3.length = 4) :
    putL (putL (putL (putL (putL (putL (putL (putL (List.replicate 32 0) 0 b0) 4 b1) 8 b2) 12 b3) 16 c0) 20 c1) 24 c2) 28 c3 = b0 ++ (b1 ++ (b2 ++ (b3 ++ (c0 ++ (c1 ++ (c2 ++ c3)))))) := by
  match b0, hb0, b1, hb1, b2, hb2, b3, hb3, c0, hc0, c1, hc1, c2, hc2, c3, hc3 with
  | [_, _, _, _], _, [_, _, _, _], _, [_, _, _, _], _, [_, _, _, _], _, [_, _, _, _], _, [_, _, _, _], _, [_, _, _, _], _, [_, _, _, _], _ => simp [putL]
theorem der_write (ms : List UInt32) (h : ms.length = 16) : writeW (writeW (List.replicate 32 (0 : UInt8)) 0 (fun i => wd ms (0 + i)) 4) 16 (fun i => wd ms (12 + i)) 4 = (ms.take 4 ++ ms.drop 12).flatMap fun x => littleL x.toNat 4 := by
  match ms, h with
  | [a0, a1, a2, a3, a4, a5, a6, a7, a8, a9, a10, a11, a12, a13, a14, a15], _ =>
    have h4 := der_eight (littleL a0.toNat 4) (littleL a1.toNat 4) (littleL a2.toNat 4) (littleL a3.toNat 4) (littleL a12.toNat 4) (littleL a13.toNat 4) (littleL a14.toNat 4) (littleL a15.toNat 4) (littleL_length _ _) (littleL_length _ _) (littleL_length _ _) (littleL_length _ _) (littleL_length _ _) (littleL_length _ _) (littleL_length _ _) (littleL_length _ _)
    simpa [writeW, wd] using h4

set_option maxRecDepth 100000 in
theorem deriveC : DeriveC := by
  intro k inn hk hin w
  have SC := fun w' : World => xcStateOf_any k inn hk hin w'
  have CC := fun w' : World => core_any (xcW k inn) (xcW_length k inn) w'
  rw [show coreW 10 (xcW k inn) = xcoreW k inn from rfl] at CC
  have hms := xcoreW_length k inn
  have hdr : deriveL k inn = ((xcoreW k inn).take 4 ++ (xcoreW k inn).drop 12).flatMap fun x => littleL x.toNat 4 := rfl
  rw [← der_write _ hms] at hdr
  generalize xcoreW k inn = ms at CC hms hdr
  obtain ⟨ck, hck⟩ : ∃ ck, (k.map u8v).toArray = ck := ⟨_, rfl⟩
  obtain ⟨ci, hci⟩ : ∃ ck, (inn.map u8v).toArray = ck := ⟨_, rfl⟩
  obtain ⟨cx, hcx⟩ : ∃ c, ((xcW k inn).map u32v).toArray = c := ⟨_, rfl⟩
  obtain ⟨cm, hcm⟩ : ∃ c, (ms.map u32v).toArray = c := ⟨_, rfl⟩
  rw [hck, hci, hcx] at SC
  rw [hcx, hcm] at CC
  rw [hck, hci]
  have HM := Lib.hid (show Mem w [blkE (w.heap.size + 1 + 1) 23 (aeZ 32), blkE (w.heap.size + 1) 25 (inn.map u8v), blkE w.heap.size 23 (k.map u8v)] (((w.alloc (.cells ck 23)).alloc (.cells ci 25)).alloc (.cells #[.int .u8 0, .int .u8 0, .int .u8 0, .int .u8 0, .int .u8 0, .int .u8 0, .int .u8 0, .int .u8 0, .int .u8 0, .int .u8 0, .int .u8 0, .int .u8 0, .int .u8 0, .int .u8 0, .int .u8 0, .int .u8 0, .int .u8 0, .int .u8 0, .int .u8 0, .int .u8 0, .int .u8 0, .int .u8 0, .int .u8 0, .int .u8 0, .int .u8 0, .int .u8 0, .int .u8 0, .int .u8 0, .int .u8 0, .int .u8 0, .int .u8 0, .int .u8 0] 23)) from (((Mem.nil w).alloc rfl 23 ck (k.map u8v) hck.symm).alloc (by simp) 25 ci (inn.map u8v) hci.symm).alloc (by simp) 23 #[.int .u8 0, .int .u8 0, .int .u8 0, .int .u8 0, .int .u8 0, .int .u8 0, .int .u8 0, .int .u8 0, .int .u8 0, .int .u8 0, .int .u8 0, .int .u8 0, .int .u8 0, .int .u8 0, .int .u8 0, .int .u8 0, .int .u8 0, .int .u8 0, .int .u8 0, .int .u8 0, .int .u8 0, .int .u8 0, .int .u8 0, .int .u8 0, .int .u8 0, .int .u8 0, .int .u8 0, .int .u8 0, .int .u8 0, .int .u8 0, .int .u8 0, .int .u8 0] (aeZ 32) rfl)
  have HC := Lib.hid (And.intro hck (And.intro hci hcm))
  have HL := Lib.hid (And.intro hk hin)
  have HMS := Lib.hid hms
  have HDR := Lib.hid hdr
  have HSC := Lib.hid SC
  have HCC := Lib.hid CC
  clear hck hci hcx hcm hk hin hms hdr SC CC
  go_enter Tryd.func79, Tryd.ntmps79
  go_upto_region 1 with fail
  generalize (((w.alloc (.cells ck 23)).alloc (.cells ci 25)).alloc (.cells #[.int .u8 0, .int .u8 0, .int .u8 0, .int .u8 0, .int .u8 0, .int .u8 0, .int .u8 0, .int .u8 0, .int .u8 0, .int .u8 0, .int .u8 0, .int .u8 0, .int .u8 0, .int .u8 0, .int .u8 0, .int .u8 0, .int .u8 0, .int .u8 0, .int .u8 0, .int .u8 0, .int .u8 0, .int .u8 0, .int .u8 0, .int .u8 0, .int .u8 0, .int .u8 0, .int .u8 0, .int .u8 0, .int .u8 0, .int .u8 0, .int .u8 0, .int .u8 0] 23)) = w1 at HM ⊢
  go_wp2_with (first | (refine wpList_load_blk rfl 23 (.tmp 2) rfl w.heap.size rfl 23 (k.map u8v) (HM.out.blk 2 rfl) 32 5 Tryd.underlying23 (cells32 k HL.out.1) ?_; rw [HC.out.1]) | (refine wpList_load_blk rfl 25 (.tmp 3) rfl (w.heap.size + 1) rfl 25 (inn.map u8v) (HM.out.blk 1 rfl) 16 5 Tryd.underlying25 (xc_cells16 _ HL.out.2) ?_; rw [HC.out.2.1]))
  refine (HSC.out _).mono ?_
  rintro e w2 ⟨rfl, hb⟩
  replace HM := Lib.hid (show Mem w [blkE (w.heap.size + 1 + 1) 23 (aeZ 32), blkE (w.heap.size + 1) 25 (inn.map u8v), blkE w.heap.size 23 (k.map u8v)] w2 from HM.out.below hb)
  clear hb
  go_wp2_with fail
  refine (HCC.out _).mono ?_
  rintro e w3 ⟨rfl, hb⟩
  replace HM := Lib.hid (show Mem w [blkE (w.heap.size + 1 + 1) 23 (aeZ 32), blkE (w.heap.size + 1) 25 (inn.map u8v), blkE w.heap.size 23 (k.map u8v)] w3 from HM.out.below hb)
  clear hb
  have HA := Lib.hid (show Mem w [blkE w3.heap.size 120 z16, blkE (w.heap.size + 1 + 1) 23 (aeZ 32), blkE (w.heap.size + 1) 25 (inn.map u8v), blkE w.heap.size 23 (k.map u8v)] (w3.alloc (.cells #[.int .u32 0, .int .u32 0, .int .u32 0, .int .u32 0, .int .u32 0, .int .u32 0, .int .u32 0, .int .u32 0, .int .u32 0, .int .u32 0, .int .u32 0, .int .u32 0, .int .u32 0, .int .u32 0, .int .u32 0, .int .u32 0] 120)) from HM.out.alloc rfl 120 #[.int .u32 0, .int .u32 0, .int .u32 0, .int .u32 0, .int .u32 0, .int .u32 0, .int .u32 0, .int .u32 0, .int .u32 0, .int .u32 0, .int .u32 0, .int .u32 0, .int .u32 0, .int .u32 0, .int .u32 0, .int .u32 0] z16 rfl)
  go_upto_region 2 with (refine wpList_store_blk rfl 120 (.tmp 5) (.tmp 10) rfl w3.heap.size (ms.map u32v) rfl (by show Value.agg cm = _; rw [HC.out.2.2]) 120 z16 (HA.out.blk 0 rfl) (cells16 ms HMS.out) (by rw [List.length_map, HMS.out]; rfl) (u32v_one _) ?_; intro w4 hb4 hg4)
  (try simp only [Act.put])
  replace HM := Lib.hid (show Mem w [blkE w3.heap.size 120 (ms.map u32v), blkE (w.heap.size + 1 + 1) 23 (aeZ 32), blkE (w.heap.size + 1) 25 (inn.map u8v), blkE w.heap.size 23 (k.map u8v)] w4 from HA.out.put 0 rfl _ hg4 hb4)
  have HP := Lib.hid (show w3.heap.size < w4.heap.size by have := hg4.size; simp at this; omega)
  clear hb4 hg4 HA
  generalize w3.heap.size = P at HM HP ⊢
  have HA := Lib.hid (show Mem w [blkE w4.heap.size 23 ((List.replicate 32 (0 : UInt8)).map u8v), blkE P 120 (ms.map u32v), blkE (w.heap.size + 1 + 1) 23 (aeZ 32), blkE (w.heap.size + 1) 25 (inn.map u8v), blkE w.heap.size 23 (k.map u8v)] (w4.alloc (.cells #[.int .u8 0, .int .u8 0, .int .u8 0, .int .u8 0, .int .u8 0, .int .u8 0, .int .u8 0, .int .u8 0, .int .u8 0, .int .u8 0, .int .u8 0, .int .u8 0, .int .u8 0, .int .u8 0, .int .u8 0, .int .u8 0, .int .u8 0, .int .u8 0, .int .u8 0, .int .u8 0, .int .u8 0, .int .u8 0, .int .u8 0, .int .u8 0, .int .u8 0, .int .u8 0, .int .u8 0, .int .u8 0, .int .u8 0, .int .u8 0, .int .u8 0, .int .u8 0] 23)) from HM.out.alloc rfl 23 #[.int .u8 0, .int .u8 0, .int .u8 0, .int .u8 0, .int .u8 0, .int .u8 0, .int .u8 0, .int .u8 0, .int .u8 0, .int .u8 0, .int .u8 0, .int .u8 0, .int .u8 0, .int .u8 0, .int .u8 0, .int .u8 0, .int .u8 0, .int .u8 0, .int .u8 0, .int .u8 0, .int .u8 0, .int .u8 0, .int .u8 0, .int .u8 0, .int .u8 0, .int .u8 0, .int .u8 0, .int .u8 0, .int .u8 0, .int .u8 0, .int .u8 0, .int .u8 0] ((List.replicate 32 (0 : UInt8)).map u8v) rfl)
  go_upto_region 3 with fail
  replace HM := HA
  clear HA
  generalize w4.alloc (.cells #[.int .u8 0, .int .u8 0, .int .u8 0, .int .u8 0, .int .u8 0, .int .u8 0, .int .u8 0, .int .u8 0, .int .u8 0, .int .u8 0, .int .u8 0, .int .u8 0, .int .u8 0, .int .u8 0, .int .u8 0, .int .u8 0, .int .u8 0, .int .u8 0, .int .u8 0, .int .u8 0, .int .u8 0, .int .u8 0, .int .u8 0, .int .u8 0, .int .u8 0, .int .u8 0, .int .u8 0, .int .u8 0, .int .u8 0, .int .u8 0, .int .u8 0, .int .u8 0] 23) = w5 at HM ⊢
  have HPQ := Lib.hid (show P ≠ w4.heap.size from Nat.ne_of_lt HP.out)
  clear HP
  generalize w4.heap.size = Q at HM HPQ ⊢
  go_cut [] (fun wx => Mem w [blkE Q 23 ((writeW (List.replicate 32 (0 : UInt8)) 0 (fun i => wd ms (0 + i)) 4).map u8v), blkE P 120 (ms.map u32v), blkE (w.heap.size + 1 + 1) 23 (aeZ 32), blkE (w.heap.size + 1) 25 (inn.map u8v), blkE w.heap.size 23 (k.map u8v)] wx)
  case first =>
    have RW := Lib.hid (fun w' : World => fun h1 h2 => xcWriteWords_any Q 0 32 P 0 4 16 32 23 120 (List.replicate 32 (0 : UInt8)) ms rfl (by omega) (by omega) (by omega) (by omega) (by rw [HMS.out]; omega) (by omega) HPQ.out w' h1 h2)
    go_region_with ((go_at_call 90; refine (RW.out w5.drew (HM.out.drew.blk 0 rfl) (HM.out.drew.blk 1 rfl)).mono ?_; rintro e w4 ⟨rfl, hb4, hg4⟩))
    all_goals (go_wp2; go_meet; exact HM.out.drew.put 0 rfl _ hg4 hb4)
  case rest =>
    replace HM := Lib.hid hcut
    clear hcut
    go_upto_region 4 with fail
    go_cut [] (fun wx => Mem w [blkE Q 23 ((writeW (writeW (List.replicate 32 (0 : UInt8)) 0 (fun i => wd ms (0 + i)) 4) 16 (fun i => wd ms (12 + i)) 4).map u8v), blkE P 120 (ms.map u32v), blkE (w.heap.size + 1 + 1) 23 (aeZ 32), blkE (w.heap.size + 1) 25 (inn.map u8v), blkE w.heap.size 23 (k.map u8v)] wx)
    case first =>
      have RW := Lib.hid (fun w' : World => fun h1 h2 => xcWriteWords_any Q 16 16 P 12 4 4 32 23 120 (writeW (List.replicate 32 (0 : UInt8)) 0 (fun i => wd ms (0 + i)) 4) ms (by rw [writeW_length _ _ _ _ (by simp)]; rfl) (by omega) (by omega) (by omega) (by omega) (by rw [HMS.out]; omega) (by omega) HPQ.out w' h1 h2)
      go_region_with ((go_at_call 90; refine (RW.out wc.drew (HM.out.drew.blk 0 rfl) (HM.out.drew.blk 1 rfl)).mono ?_; rintro e w4 ⟨rfl, hb4, hg4⟩))
      all_goals (go_wp2; go_meet; exact HM.out.drew.put 0 rfl _ hg4 hb4)
    case rest =>
      replace HM := Lib.hid hcut
      clear hcut
      rw [← HDR.out] at HM
      have HLz := Lib.hid (deriveL_length k inn)
      obtain ⟨lz, hlz⟩ : ∃ l, deriveL k inn = l := ⟨_, rfl⟩
      rw [hlz] at HM HLz
      have HSZ := Lib.hid hlz
      clear hlz
      obtain ⟨cz, hcz⟩ : ∃ cz, (lz.map u8v).toArray = cz := ⟨_, rfl⟩
      have HCZ := Lib.hid hcz
      clear hcz
      go_wp2_with (first | (refine wpList_load_blk rfl 23 (.tmp 6) rfl Q rfl 23 (lz.map u8v) (HM.out.blk 0 rfl) 32 5 Tryd.underlying23 (cells32 lz HLz.out) ?_; rw [HCZ.out]) | (refine wpList_store_blk rfl 23 (.tmp 4) (.tmp 17) rfl (w.heap.size + 1 + 1) (lz.map u8v) rfl (by show Value.agg cz = _; rw [HCZ.out]) 23 (aeZ 32) (HM.out.blk 2 rfl) (cells32 lz HLz.out) (by rw [List.length_map, HLz.out]; rfl) (u8v_one _) ?_; intro w9 hb9 hg9))
      exact bodyPost_ret (results_blk rfl _ _ (w.heap.size + 1 + 1) 23 (lz.map u8v) 32 5 rfl hb9 Tryd.underlying23 (cells32 lz HLz.out)) rfl ⟨by rw [HSZ.out], (HM.out.put 2 rfl _ hg9 hb9).bel⟩
end Go.Proofs.YtlddafkikkaonaaDoor
namespace Go.Proofs.YtlddafkikkaonaaDoor
open Go.RowKit

set_option maxHeartbeats 1000000 in
set_option maxRecDepth 100000 in
theorem pad_any (n c : Nat) (A : Option Addr) (l : List UInt8) (hn : n ≤ 1000000) (w : World) (hr : Rd w w.heap.size A n l) (m : Nat) (hm : (padL l).length = m) :
    Calls Tryd.prog 104 #[.slice A n c] w fun e w' => ∃ A' c', e = .returned (.slice A' m c') ∧ Rd w' w'.heap.size A' m (padL l) ∧ Below w.heap.size w w' := by
  obtain ⟨i0, hi, hz0, hz1, hz2⟩ := info_parts Tryd.info5
  have hl : l.length = n := hr.1
  have hpl : (padL l).length = (16 - n % 16) % 16 := by rw [padL, List.length_replicate, hl]
  by_cases h0 : n % 16 = 0
  · have e0 : m = 0 := by omega
    have en : padL l = [] := List.eq_nil_of_length_eq_zero (by omega)
    rw [en, e0]
    have d0 : ((n : Int) % 16 == 0) = true := by rw [beq_iff_eq]; omega
    clear hr hpl en hl hm e0
    go_enter Tryd.func104, Tryd.ntmps104
    go_wp2
    go_ret
    exact ⟨_, _, rfl, Rd.nil _ _ _, Below.refl _ _⟩
  · obtain ⟨q, hq⟩ : ∃ q, n % 16 = q := ⟨_, rfl⟩
    have hm16 : m = 16 - q := by omega
    have en : padL l = List.replicate m 0 := by rw [padL, hl, ← hm, hpl]
    rw [en]
    have d0 : ((n : Int) % 16 == 0) = false := by rw [beq_eq_false_iff_ne]; omega
    have d1 : (n : Int) % 16 = (q : Int) := by omega
    subst hm16
    have e8 : (16 : Int) - ((n : Int) % 16) = ((16 - q : Nat) : Int) := by omega
    clear hr hpl en hl hm
    go_enter Tryd.func104, Tryd.ntmps104
    go_wp2_with (refine wpList_make_full _ rfl (.tmp 10) (.tmp 10) 24 rfl w.heap.size 5 i0 (.int .u8 0) 1 Tryd.underlying24 hi hz0 hz1 .i64 .i64 _ _ (16 - q) rfl rfl (by first | omega | (rw [IntKind.wrap_i64]; omega)) (by first | omega | (rw [IntKind.wrap_i64]; omega)) (by rw [hz2]; omega) (by unfold maxLen; omega) (Nat.le_refl _) ?_; intro w1 hown1 hg1)
    rw [show (Value.int IntKind.u8 0).cells = #[.int .u8 0] from rfl, toList_madeCells_one, Nat.mul_one] at hown1
    rw [show List.replicate (16 - q) (Value.int IntKind.u8 0) = (List.replicate (16 - q) (0 : UInt8)).map u8v by rw [List.map_replicate]; rfl] at hown1
    go_ret
    exact ⟨_, _, rfl, Rd.of_own hown1, (Below.refl _ _).grown hg1 (Nat.le_refl _) (by simp)⟩

set_option maxHeartbeats 1000000 in
set_option maxRecDepth 100000 in
theorem length_any (n c : Nat) (A : Option Addr) (hn : n ≤ 1000000) (w : World) :
    Calls Tryd.prog 105 #[.slice A n c] w fun e w' => e = .returned (.slice (some ⟨w.heap.size, 0, none⟩) 8 8) ∧ Rd w' w'.heap.size (some ⟨w.heap.size, 0, none⟩) 8 (littleL n 8) ∧ Below w.heap.size w w' := by
  go_enter Tryd.func105, Tryd.ntmps105
  go_wp2_with fail
  rw [show (8 : Int) = ((8 : Nat) : Int) from rfl]
  refine (little_any n (by omega) 8 (by omega) (by omega) _).mono ?_
  rintro e w1 ⟨rfl, ho, hb⟩
  have HO := Lib.hid (Rd.of_own ho)
  clear ho
  go_wp2_with fail
  go_ret
  exact ⟨rfl, HO.out, hb⟩

set_option maxRecDepth 100000 in
theorem coJoin_six (g : Nat) (t : TypeId) (A1 A2 A3 A4 A5 A6 : Option Addr) (n1 c1 n2 c2 n3 c3 n4 c4 n5 c5 n6 c6 : Nat) (l1 l2 l3 l4 l5 l6 : List UInt8) (M : Nat) (hM : n1 + n2 + (n3 + n4) + (n5 + n6) = M) (hn : M ≤ 1000000) (w : World) (hb : Blk w g t [.slice A1 n1 c1, .slice A2 n2 c2, .slice A3 n3 c3, .slice A4 n4 c4, .slice A5 n5 c5, .slice A6 n6 c6])
    (h1 : Rd w w.heap.size A1 n1 l1) (h2 : Rd w w.heap.size A2 n2 l2) (h3 : Rd w w.heap.size A3 n3 l3) (h4 : Rd w w.heap.size A4 n4 l4) (h5 : Rd w w.heap.size A5 n5 l5) (h6 : Rd w w.heap.size A6 n6 l6) :
    Calls Tryd.prog 56 #[.slice (some ⟨g, 0, none⟩) 6 6] w fun e w' => ∃ A' c', e = .returned (.slice A' M c') ∧ Rd w' w'.heap.size A' M (l1 ++ l2 ++ (l3 ++ l4) ++ (l5 ++ l6)) ∧ M ≤ c' ∧ c' ≤ maxLen ∧ Below w.heap.size w w' := by
  have hf : flat [⟨A1, n1, c1, l1⟩, ⟨A2, n2, c2, l2⟩, ⟨A3, n3, c3, l3⟩, ⟨A4, n4, c4, l4⟩, ⟨A5, n5, c5, l5⟩, ⟨A6, n6, c6, l6⟩] 6 = l1 ++ l2 ++ (l3 ++ l4) ++ (l5 ++ l6) := by simp [flat]
  have hl : (l1 ++ l2 ++ (l3 ++ l4) ++ (l5 ++ l6)).length = M := by simp only [List.length_append]; rw [h1.1, h2.1, h3.1, h4.1, h5.1, h6.1, hM]
  have hJ := coJoin_any w.heap.size 6 (some ⟨g, 0, none⟩) [⟨A1, n1, c1, l1⟩, ⟨A2, n2, c2, l2⟩, ⟨A3, n3, c3, l3⟩, ⟨A4, n4, c4, l4⟩, ⟨A5, n5, c5, l5⟩, ⟨A6, n6, c6, l6⟩] (by simp) (by show (flat _ 6).length ≤ _; rw [hf, hl]; exact hn) w (Nat.le_refl _) (fun _ => ⟨g, rfl, hb.lt, fun j hj => by
    rw [hb.cell]
    match j, hj with
    | 0, _ => exact ⟨rfl, h1⟩
    | 1, _ => exact ⟨rfl, h2⟩
    | 2, _ => exact ⟨rfl, h3⟩
    | 3, _ => exact ⟨rfl, h4⟩
    | 4, _ => exact ⟨rfl, h5⟩
    | 5, _ => exact ⟨rfl, h6⟩
    | j + 6, hj => exact absurd hj (by simp)⟩)
  refine hJ.mono ?_
  rintro e w' ⟨A', c', he, ho, hbl⟩
  have e2 : ([⟨A1, n1, c1, l1⟩, ⟨A2, n2, c2, l2⟩, ⟨A3, n3, c3, l3⟩, ⟨A4, n4, c4, l4⟩, ⟨A5, n5, c5, l5⟩, ⟨A6, n6, c6, l6⟩] : List Part).length = 6 := rfl
  rw [e2, hf, hl] at he ho
  obtain ⟨q1, q2, _⟩ := own_addr ho
  exact ⟨A', c', he, Rd.of_own ho, q1, q2, hbl⟩

set_option maxRecDepth 100000 in
set_option maxHeartbeats 4000000 in
theorem tagData_any (Ac Am : Option Addr) (nc cc nm cm : Nat) (c more : List UInt8) (hnc : nc ≤ 400000) (hnm : nm ≤ 400000) (w : World) (hrc : Rd w w.heap.size Ac nc c) (hrm : Rd w w.heap.size Am nm more) (M : Nat) (hM : (macL more c).length = M) :
    Calls Tryd.prog 93 #[.slice Ac nc cc, .slice Am nm cm] w fun e w' => ∃ A' c', e = .returned (.slice A' M c') ∧ Rd w' w'.heap.size A' M (macL more c) ∧ M ≤ c' ∧ c' ≤ maxLen ∧ M ≤ 1000000 ∧ Below w.heap.size w w' := by
  obtain ⟨m1, hm1⟩ : ∃ m1, (padL more).length = m1 := ⟨_, rfl⟩
  obtain ⟨m2, hm2⟩ : ∃ m2, (padL c).length = m2 := ⟨_, rfl⟩
  have hMM : nm + m1 + (nc + m2) + (8 + 8) = M := by rw [← hM]; simp only [macL, List.length_append, littleL_length]; rw [hm1, hm2, hrm.1, hrc.1]
  have hp1 := padL_length more
  have hp2 := padL_length c
  have hM6 : M ≤ 1000000 := by omega
  have hmac : more ++ padL more ++ (c ++ padL c) ++ (littleL nm 8 ++ littleL nc 8) = macL more c := by rw [macL, hrc.1, hrm.1]
  have HM := Lib.hid (And.intro hMM (And.intro hM6 (And.intro hmac (And.intro hm1 hm2))))
  have HC := Lib.hid hrc
  have HR := Lib.hid hrm
  have HB := Lib.hid (Below.refl w.heap.size w)
  clear hmac hm1 hm2 hMM hM hp1 hp2 hrc hrm hM6
  go_enter Tryd.func93, Tryd.ntmps93
  go_wp2_with fail
  refine (pad_any nm cm Am more (by omega) _ HR.out m1 HM.out.2.2.2.1).mono ?_
  rintro e w1 ⟨F1, d1, rfl, hr, hb⟩
  replace HB := Lib.hid (HB.out.trans (hb.mono HB.out.size))
  replace HC := Lib.hid ((HC.out.below hb).mono hb.size)
  replace HR := Lib.hid ((HR.out.below hb).mono hb.size)
  have R1 := Lib.hid hr
  clear hb hr
  go_wp2_with fail
  refine (pad_any nc cc Ac c (by omega) _ HC.out m2 HM.out.2.2.2.2).mono ?_
  rintro e w2 ⟨F2, d2, rfl, hr, hb⟩
  replace HB := Lib.hid (HB.out.trans (hb.mono HB.out.size))
  replace HC := Lib.hid ((HC.out.below hb).mono hb.size)
  replace HR := Lib.hid ((HR.out.below hb).mono hb.size)
  replace R1 := Lib.hid ((R1.out.below hb).mono hb.size)
  have R2 := Lib.hid hr
  clear hb hr
  go_wp2_with fail
  refine (length_any nm cm Am (by omega) _).mono ?_
  rintro e w3 ⟨rfl, hr, hb⟩
  replace HB := Lib.hid (HB.out.trans (hb.mono HB.out.size))
  replace HC := Lib.hid ((HC.out.below hb).mono hb.size)
  replace HR := Lib.hid ((HR.out.below hb).mono hb.size)
  replace R1 := Lib.hid ((R1.out.below hb).mono hb.size)
  replace R2 := Lib.hid ((R2.out.below hb).mono hb.size)
  have R3 := Lib.hid hr
  clear hb hr
  generalize w2.heap.size = g3 at R3 ⊢
  go_wp2_with fail
  refine (length_any nc cc Ac (by omega) _).mono ?_
  rintro e w4 ⟨rfl, hr, hb⟩
  replace HB := Lib.hid (HB.out.trans (hb.mono HB.out.size))
  replace HC := Lib.hid ((HC.out.below hb).mono hb.size)
  replace HR := Lib.hid ((HR.out.below hb).mono hb.size)
  replace R1 := Lib.hid ((R1.out.below hb).mono hb.size)
  replace R2 := Lib.hid ((R2.out.below hb).mono hb.size)
  replace R3 := Lib.hid ((R3.out.below hb).mono hb.size)
  have R4 := Lib.hid hr
  clear hb hr
  generalize w3.heap.size = g4 at R4 ⊢
  go_wp2_with fail
  have hg := Blk.new w4 24 [Value.slice Am nm cm, .slice F1 m1 d1, .slice Ac nc cc, .slice F2 m2 d2, .slice (some ⟨g3, 0, none⟩) 8 8, .slice (some ⟨g4, 0, none⟩) 8 8]
  have hb : Below w4.heap.size w4 (w4.alloc (.cells [Value.slice Am nm cm, .slice F1 m1 d1, .slice Ac nc cc, .slice F2 m2 d2, .slice (some ⟨g3, 0, none⟩) 8 8, .slice (some ⟨g4, 0, none⟩) 8 8].toArray 24)) := (Below.refl _ _).alloc (Nat.le_refl _) _
  rw [show [Value.slice Am nm cm, .slice F1 m1 d1, .slice Ac nc cc, .slice F2 m2 d2, .slice (some ⟨g3, 0, none⟩) 8 8, .slice (some ⟨g4, 0, none⟩) 8 8].toArray = #[Value.slice Am nm cm, .slice F1 m1 d1, .slice Ac nc cc, .slice F2 m2 d2, .slice (some ⟨g3, 0, none⟩) 8 8, .slice (some ⟨g4, 0, none⟩) 8 8] from rfl] at hg hb
  replace HB := Lib.hid (HB.out.trans (hb.mono HB.out.size))
  replace HC := Lib.hid ((HC.out.below hb).mono hb.size)
  replace HR := Lib.hid ((HR.out.below hb).mono hb.size)
  replace R1 := Lib.hid ((R1.out.below hb).mono hb.size)
  replace R2 := Lib.hid ((R2.out.below hb).mono hb.size)
  replace R3 := Lib.hid ((R3.out.below hb).mono hb.size)
  replace R4 := Lib.hid ((R4.out.below hb).mono hb.size)
  have HG := Lib.hid hg
  clear hb hg
  generalize w4.alloc (.cells #[Value.slice Am nm cm, .slice F1 m1 d1, .slice Ac nc cc, .slice F2 m2 d2, .slice (some ⟨g3, 0, none⟩) 8 8, .slice (some ⟨g4, 0, none⟩) 8 8] 24) = w5 at HB HC HR R1 R2 R3 R4 HG ⊢
  generalize w4.heap.size = g5 at HG ⊢
  refine (coJoin_six g5 24 _ _ _ _ _ _ nm cm m1 d1 nc cc m2 d2 8 8 8 8 _ _ _ _ _ _ M HM.out.1 HM.out.2.1 _ HG.out HR.out R1.out HC.out R2.out R3.out R4.out).mono ?_
  rintro e w6 ⟨A6, c6, rfl, hr, q1, q2, hb⟩
  rw [HM.out.2.2.1] at hr
  have HO := Lib.hid (And.intro hr (HB.out.trans (hb.mono HB.out.size)))
  clear hr hb HC HR R1 R2 R3 R4 HG HB
  go_wp2_with fail
  go_ret
  exact ⟨_, _, rfl, HO.out.1, q1, q2, HM.out.2.1, HO.out.2⟩
end Go.Proofs.YtlddafkikkaonaaDoor
