/-
  MacsReplies returns true for every input, and changes nothing that was there: the walk. A message with other codes, and what is asked of the function that encodes it. The bytes of a text, laid in memory of the call. The contracts of math/bits.RotateLeft32 at the distances of BLAKE2s, and of blake.mix. Words for a region that draws its order, in which several loads may come up at once, all ahead of what changes memory: such a load can be taken first, though its cell is written later. The builtin copy of bytes that are read somewhere to the beginning of a block. The contract of blake.blockOf: the words of at most 64 bytes, with zero bytes behind them. No statement is proved here.
-/
import Derived.Lib.ConvBytes
import Derived.Deep.DeepCutAuto
import Derived.Test.YtlddafkikkaonaaGreatDoorMacsRepliesB12
namespace Go.Proofs.YtlddafkikkaonaaGreatDoor
open Go.RowKit
theorem openB_len (p mac l : List UInt8) : (openB p mac l).1.length = 16 := by
 unfold openB
 split
 ·
  next hk =>
  dsimp only
  have hl : ((l.drop 32).take 32).length = 32 := by
   have h64 : l.length = 64 := kindB_len (k := 3) (by omega) hk
   rw [List.length_take, List.length_drop, h64]; rfl
  split
  · next h => exact xopen_len _ _ _ _ hl h
  · simp
 · simp
set_option maxRecDepth 100000 in
set_option maxHeartbeats 16000000 in
set_option linter.unusedSimpArgs false in
theorem mc_replies_walk (HSI : McSealC 20 1) (HC1 : McCheck1C 21) (HRE : McReplyC 5) (HOR : McOpenC 7) (w : World) (hlv : LvBlake w)
 (p p2 nn ck mac : List UInt8) (hp : p.length = 32) (hp2 : p2.length = 32) (hnn : nn.length = 24) (hck : ck.length = 16) (hmac : mac.length = 16) (rc ia ib : Nat) (hrc : rc < 4294967296) (hia : ia ≤ 255) (hib : ib ≤ 255) (Ar : Option Addr) (nb cr : Nat) (lr : List UInt8) (hnb : nb ≤ cr) (hcr : cr ≤ maxLen) (hrr : Rd w w.heap.size Ar nb lr) :
 Calls Tryz.prog 3 #[.agg (p.map u8v).toArray, .agg (p2.map u8v).toArray, .agg (nn.map u8v).toArray, .agg (ck.map u8v).toArray, .agg (mac.map u8v).toArray, .int .u32 (rc : Int), .int .u8 (ia : Int), .int .u8 (ib : Int), .slice Ar nb cr] w fun e w' => e = .returned (.bool true) ∧ Below w.heap.size w w' := by
 obtain ⟨i0, hi, hz0, hz1, hz2⟩ := info_parts Tryz.info5
 have HLV := Lib.hid hlv
 have HBG := Lib.hid (fun W (h : LvBlake W) => mc_begun_any HSI HC1 W h)
 obtain ⟨v, hv⟩ : ∃ v : UInt8, v.toNat = ib := ⟨UInt8.ofNat ib, by rw [UInt8.toNat_ofNat']; exact Nat.mod_eq_of_lt (by omega)⟩
 subst hv
 have hr1 := refReplyC p nn ck mac hp hnn hck hmac rc hrc
 have hr2 := HRE p nn ck mac hp hnn hck hmac rc hrc
 generalize encB 3 (replyM p nn ck mac rc) = X at hr1 hr2
 obtain ⟨kd, hk⟩ : ∃ k, min nb 70 = k := ⟨_, rfl⟩
 have HCU := Lib.hid (caseCut_any Ar nb cr 70 kd (by omega) hnb hcr hk)
 have HNUM := Lib.hid (show kd ≤ nb ∧ kd ≤ 70 ∧ kd ≤ cr ∧ cr ≤ maxLen from by omega)
 have HP := Lib.hid hp
 have HP2 := Lib.hid hp2
 have HN := Lib.hid hnn
 have HK := Lib.hid hck
 have HMC := Lib.hid hmac
 have HOP := Lib.hid HOR
 obtain ⟨cp, hcp⟩ : ∃ z, (p.map u8v).toArray = z := ⟨_, rfl⟩
 obtain ⟨co, hco⟩ : ∃ z, (p2.map u8v).toArray = z := ⟨_, rfl⟩
 obtain ⟨cn, hcn⟩ : ∃ z, (nn.map u8v).toArray = z := ⟨_, rfl⟩
 obtain ⟨cc, hcc⟩ : ∃ z, (ck.map u8v).toArray = z := ⟨_, rfl⟩
 obtain ⟨cm, hcm⟩ : ∃ z, (mac.map u8v).toArray = z := ⟨_, rfl⟩
 rw [hcp, hcn, hcc, hcm] at hr1 hr2
 have HRR := Lib.hid hr1
 simp only [show msLen 3 = 64 from rfl] at hr2
 have HRQ := Lib.hid hr2
 have HCP := Lib.hid hcp
 have HCO := Lib.hid hco
 have HCN := Lib.hid hcn
 have HCC := Lib.hid hcc
 have HCM := Lib.hid hcm
 rw [hcp, hco, hcn, hcc, hcm]
 have HM := Lib.hid (show Lows w [blkL (w.heap.size + 1 + 1 + 1 + 1) 27 (mac.map u8v), blkL (w.heap.size + 1 + 1 + 1) 27 (ck.map u8v), blkL (w.heap.size + 1 + 1) 25 (nn.map u8v), blkL (w.heap.size + 1) 23 (p2.map u8v), blkL w.heap.size 23 (p.map u8v), rdL Ar nb lr] (((((w.alloc (.cells cp 23)).alloc (.cells co 23)).alloc (.cells cn 25)).alloc (.cells cc 27)).alloc (.cells cm 27)) from (((((((Lows.nil w).cons (rdL Ar nb lr) hrr).allocAt rfl 23 cp (p.map u8v) hcp.symm).allocAt (by simp) 23 co (p2.map u8v) hco.symm).allocAt (by simp) 25 cn (nn.map u8v) hcn.symm).allocAt (by simp) 27 cc (ck.map u8v) hcc.symm).allocAt (by simp) 27 cm (mac.map u8v) hcm.symm))
 clear hr1 hr2 hcp hco hcn hcc hcm hp hp2 hnn hck hmac hnb hcr hrr hk hib hrc hlv HSI HC1 HRE HOR
 go_enter Tryz.func3, Tryz.ntmps3
 go_upto_region 1 with fail
 generalize (((((w.alloc (.cells cp 23)).alloc (.cells co 23)).alloc (.cells cn 25)).alloc (.cells cc 27)).alloc (.cells cm 27)) = w1 at HM ⊢
 go_wp2_with (first | (refine wpList_load_obj rfl 23 (.tmp 9) rfl w.heap.size 0 rfl (p.map u8v) (HM.out.blk 4 rfl).all _ Tryz.underlying23 rfl (cells32 p HP.out) ?_; rw [HCP.out]) | (refine wpList_load_obj rfl 25 (.tmp 11) rfl (w.heap.size + 1 + 1) 0 rfl (nn.map u8v) (HM.out.blk 2 rfl).all _ Tryz.underlying25 rfl (xc_cellsL nn HN.out) ?_; rw [HCN.out]) | (refine wpList_load_obj rfl 27 (.tmp 12) rfl (w.heap.size + 1 + 1 + 1) 0 rfl (ck.map u8v) (HM.out.blk 1 rfl).all _ Tryz.underlying27 rfl (ae_cellsT ck HK.out) ?_; rw [HCC.out]) | (refine wpList_load_obj rfl 27 (.tmp 13) rfl (w.heap.size + 1 + 1 + 1 + 1) 0 rfl (mac.map u8v) (HM.out.blk 0 rfl).all _ Tryz.underlying27 rfl (ae_cellsT mac HMC.out) ?_; rw [HCM.out]))
 refine (HRR.out _ (HLV.out.below HM.out.bel)).mono ?_
 rintro e wa1 ⟨A1, c1, rfl, h11, h12, hr, hb⟩
 replace hr := hr.rd
 rw [show msLen 3 = 64 from rfl] at h11 hr ⊢
 obtain ⟨gx, ox, rfl, -, -⟩ := hr.at_ (by omega)
 replace HM := Lib.hid (show Lows w [rdL (some ⟨gx, ox, none⟩) 64 X, blkL (w.heap.size + 1 + 1 + 1 + 1) 27 (mac.map u8v), blkL (w.heap.size + 1 + 1 + 1) 27 (ck.map u8v), blkL (w.heap.size + 1 + 1) 25 (nn.map u8v), blkL (w.heap.size + 1) 23 (p2.map u8v), blkL w.heap.size 23 (p.map u8v), rdL Ar nb lr] wa1 from (HM.out.below hb).cons (rdL (some ⟨gx, ox, none⟩) 64 X) hr)
 have HC1 := Lib.hid (And.intro h11 h12)
 clear hr hb h11 h12
 go_upto_region 3 with (refine wpList_append_rd _ rfl (.const (.slice none 0 0)) (.tmp 35) 29 rfl wa1.heap.size 5 i0 (.int .u8 0) Tryz.underlying29 hi hz0 hz1 hz2 rfl (.slice none 0 0) 0 [] rfl (World.ownsRow_nil _ _ _ _) _ _ _ _ _ rfl (HM.out.rd 0 rfl) (by omega) (Nat.le_refl _) ?_; intro v1 w3 hown hg)
 rw [Nat.zero_add, List.nil_append] at hown
 obtain ⟨A2, c2, rfl, -⟩ := own_slice hown
 have hoa := own_addr hown
 obtain ⟨g2, rfl⟩ := hoa.2.2 (by omega)
 have HC2 := Lib.hid (And.intro hoa.1 hoa.2.1)
 have hb2 : Below wa1.heap.size wa1 w3 := (Below.refl _ _).grown hg (Nat.le_refl _) (by intro k hk; cases hk)
 have hg2 := (hown.lt g2 rfl).1
 have hlx : X.length = 64 := (HM.out.rd 0 rfl).1
 obtain ⟨i, hii⟩ : ∃ i, ia % 64 = i := ⟨_, rfl⟩
 have hin : i < 64 := by omega
 have hiI : (ia : Int) % 64 = (i : Int) := by omega
 have hit : ((ia : Int)).tmod 64 = (i : Int) := by rw [Int.tmod_eq_emod_of_nonneg (by omega)]; exact hiI
 have hiw : IntKind.i64.wrap (ia : Int) = (ia : Int) := IntWalk.i64_in _ (by omega)
 have hiw2 : IntKind.i64.wrap (i : Int) = (i : Int) := IntWalk.i64_in _ (by omega)
 have hpi : (X.map u8v)[i]? = some (.int .u8 ((X.getD i 0).toNat : Int)) := by
  rw [List.getElem?_map, List.getElem?_eq_getElem (by omega)]
  simp [u8v, List.getD, show i < X.length by omega]
 have fx := (hown.cellAt i (by omega)).trans hpi
 have zx := hown.frozenAt i
 have hst := hown.stored i (.int .u8 (((X.getD i 0) ^^^ v).toNat : Int))
 have hxor := xor_bits (X.getD i 0) v
 have hset : (X.map u8v).set i (.int .u8 (((X.getD i 0) ^^^ v).toNat : Int)) = (X.set i (X.getD i 0 ^^^ v)).map u8v := by rw [List.map_set]; rfl
 rw [hset] at hst
 clear hset hpi hown hg hoa hii
 generalize X.getD i 0 = x0 at fx hst hxor
 generalize hy : x0 ^^^ v = y at hst hxor
 clear hy
 have HST := Lib.hid hst
 clear hst
 have hinx : (i : Int) < 64 := by omega
 go_upto_region 4 with fail
 clear fx zx hxor hiI hit hiw hiw2 hinx
 generalize w3.setCell ⟨g2, i, none⟩ (.int .u8 (y.toNat : Int)) = w4 at HST ⊢
 have hb3 : Below wa1.heap.size wa1 w4 := hb2.grown HST.out.2 hb2.size (by intro k hk; injection hk with hk; omega)
 generalize X.set i y = Y at HST
 replace HM := Lib.hid (show Lows w [rdL (some ⟨g2, 0, none⟩) 64 Y, rdL (some ⟨gx, ox, none⟩) 64 X, blkL (w.heap.size + 1 + 1 + 1 + 1) 27 (mac.map u8v), blkL (w.heap.size + 1 + 1 + 1) 27 (ck.map u8v), blkL (w.heap.size + 1 + 1) 25 (nn.map u8v), blkL (w.heap.size + 1) 23 (p2.map u8v), blkL w.heap.size 23 (p.map u8v), rdL Ar nb lr] w4 from (HM.out.below hb3).cons (rdL (some ⟨g2, 0, none⟩) 64 Y) (Rd.of_own HST.out.1))
 clear hb2 hb3 HST hin hlx hg2
 refine wp_region_held_drew (S := fun W' => Lows w [rdL (some ⟨g2, 0, none⟩) 64 Y, rdL (some ⟨gx, ox, none⟩) 64 X, blkL (w.heap.size + 1 + 1 + 1 + 1) 27 (mac.map u8v), blkL (w.heap.size + 1 + 1 + 1) 27 (ck.map u8v), blkL (w.heap.size + 1 + 1) 25 (nn.map u8v), blkL (w.heap.size + 1) 23 (p2.map u8v), blkL w.heap.size 23 (p.map u8v), rdL Ar nb lr] W') (by kernel_rfl) (HM.out.drew) (fun hHeld => ?_)
 replace HM := Lib.hid HM.out.drew
 generalize w4.drew = wd1 at HM hHeld ⊢
 refine tf (v := .agg cp) 0 rfl (by rw [← HCP.out]; exact yields_load_obj (by rfl) 23 (.tmp 9) rfl w.heap.size 0 rfl (p.map u8v) (fun w' hb => (Lows.blk hb 6 rfl).all) _ Tryz.underlying23 rfl (cells32 p HP.out)) ?_
 (try simp only [Act.put, sA, s0, s1])
 refine tf (v := .agg cn) 1 rfl (by rw [← HCN.out]; exact yields_load_obj (by rfl) 25 (.tmp 11) rfl (w.heap.size + 1 + 1) 0 rfl (nn.map u8v) (fun w' hb => (Lows.blk hb 4 rfl).all) _ Tryz.underlying25 rfl (xc_cellsL nn HN.out)) ?_
 (try simp only [Act.put, sA, s0, s1])
 refine tf (v := .agg cc) 2 rfl (by rw [← HCC.out]; exact yields_load_obj (by rfl) 27 (.tmp 12) rfl (w.heap.size + 1 + 1 + 1) 0 rfl (ck.map u8v) (fun w' hb => (Lows.blk hb 3 rfl).all) _ Tryz.underlying27 rfl (ae_cellsT ck HK.out)) ?_
 (try simp only [Act.put, sA, s0, s1])
 refine tf (v := .agg cm) 3 rfl (by rw [← HCM.out]; exact yields_load_obj (by rfl) 27 (.tmp 13) rfl (w.heap.size + 1 + 1 + 1 + 1) 0 rfl (mac.map u8v) (fun w' hb => (Lows.blk hb 2 rfl).all) _ Tryz.underlying27 rfl (ae_cellsT mac HMC.out)) ?_
 (try simp only [Act.put, sA, s0, s1])
 refine tf (v := ?_) 4 rfl (Or.inl ⟨by rfl, ?_⟩) ?_
 rotate_left
 · (intro w hSw; (try dsimp only at hSw); go_simp; try with_reducible rfl)
 (try simp only [Act.put, sA, s0, s1])
 refine tf (v := ?_) 7 rfl (Or.inl ⟨by rfl, ?_⟩) ?_
 rotate_left
 · (intro w hSw; (try dsimp only at hSw); go_simp; try with_reducible rfl)
 (try simp only [Act.put, sA, s0, s1])
 refine tf (v := ?_) 8 rfl (Or.inl ⟨by rfl, ?_⟩) ?_
 rotate_left
 · (intro w hSw; (try dsimp only at hSw); have cv := show (convert 29 9 (.slice (some ⟨gx, ox, none⟩) 64 c1)).run Tryz.prog w = .ok (.string ⟨(X).toArray⟩) w from run_string_of_rd (P := Tryz.prog) 29 9 5 c1 Tryz.underlying29 Tryz.underlying5 Tryz.underlying9 (Lows.rd hSw 1 rfl); go_simp; try with_reducible rfl)
 (try simp only [Act.put, sA, s0, s1])
 refine so 5 rfl fun K hK => ?_
 clear hHeld
 go_simp
 refine (HRQ.out _ (HLV.out.below HM.out.bel)).mono ?_
 rintro e wy2 ⟨A3, c3, rfl, -, -, hr, hb⟩
 replace HM := Lib.hid (show Lows w [rdL A3 64 X, rdL (some ⟨g2, 0, none⟩) 64 Y, rdL (some ⟨gx, ox, none⟩) 64 X, blkL (w.heap.size + 1 + 1 + 1 + 1) 27 (mac.map u8v), blkL (w.heap.size + 1 + 1 + 1) 27 (ck.map u8v), blkL (w.heap.size + 1 + 1) 25 (nn.map u8v), blkL (w.heap.size + 1) 23 (p2.map u8v), blkL w.heap.size 23 (p.map u8v), rdL Ar nb lr] wy2 from (HM.out.below hb).cons (rdL A3 64 X) (hr.rd))
 clear hb
 clear hr
 go_wp2_with fail
 refine hK.out _ _ (HM.out.tail 0) (fun hHeld => ?_)
 clear hK K
 (try simp only [Act.put, sA, s0, s1])
 refine wpAnyH_stronger (T := fun W' => Lows w [rdL A3 64 X, rdL (some ⟨g2, 0, none⟩) 64 Y, rdL (some ⟨gx, ox, none⟩) 64 X, blkL (w.heap.size + 1 + 1 + 1 + 1) 27 (mac.map u8v), blkL (w.heap.size + 1 + 1 + 1) 27 (ck.map u8v), blkL (w.heap.size + 1 + 1) 25 (nn.map u8v), blkL (w.heap.size + 1) 23 (p2.map u8v), blkL w.heap.size 23 (p.map u8v), rdL Ar nb lr] W') (fun _ h' => (h'.tail 0)) _ _ _ _ ?_
 replace hHeld := HM.out
 refine tf (v := ?_) 6 rfl (Or.inl ⟨by rfl, ?_⟩) ?_
 rotate_left
 · (intro w hSw; (try dsimp only at hSw); have cv := show (convert 29 9 (.slice A3 64 c3)).run Tryz.prog w = .ok (.string ⟨(X).toArray⟩) w from run_string_of_rd (P := Tryz.prog) 29 9 5 c3 Tryz.underlying29 Tryz.underlying5 Tryz.underlying9 (Lows.rd hSw 0 rfl); go_simp; try with_reducible rfl)
 (try simp only [Act.put, sA, s0, s1])
 refine tf (v := ?_) 9 rfl (Or.inl ⟨by rfl, ?_⟩) ?_
 rotate_left
 · (intro w hSw; (try dsimp only at hSw); go_simp; try with_reducible rfl)
 (try simp only [Act.put, sA, s0, s1])
 refine wpAnyH_done (by kernel_rfl) ?_ _
 clear hHeld
 generalize hwq : wy2 = wv at HM ⊢
 clear hwq
 have HM' := Lib.hid (show Lows w [rdL (some ⟨g2, 0, none⟩) 64 Y, rdL (some ⟨gx, ox, none⟩) 64 X, blkL (w.heap.size + 1 + 1 + 1 + 1) 27 (mac.map u8v), blkL (w.heap.size + 1 + 1 + 1) 27 (ck.map u8v), blkL (w.heap.size + 1 + 1) 25 (nn.map u8v), blkL (w.heap.size + 1) 23 (p2.map u8v), blkL w.heap.size 23 (p.map u8v), rdL Ar nb lr] wv from HM.out.tail 0)
 clear HM
 have HM := HM'
 clear HM'
 go_wp2_with fail
 refine (HCU.out _).mono ?_
 rintro e w6 ⟨rfl, hb⟩
 have hrk := ((HM.out.below hb).rd 7 rfl).take HNUM.out.1
 replace HM := Lib.hid (show Lows w [rdL Ar kd (lr.take kd), rdL (some ⟨g2, 0, none⟩) 64 Y, rdL (some ⟨gx, ox, none⟩) 64 X, blkL (w.heap.size + 1 + 1 + 1 + 1) 27 (mac.map u8v), blkL (w.heap.size + 1 + 1 + 1) 27 (ck.map u8v), blkL (w.heap.size + 1 + 1) 25 (nn.map u8v), blkL (w.heap.size + 1) 23 (p2.map u8v), blkL w.heap.size 23 (p.map u8v), rdL Ar nb lr] w6 from (HM.out.below hb).cons (rdL Ar kd (lr.take kd)) hrk)
 clear hb hrk
 have HI := Lib.hid (show ∀ k, k < 3 → ∃ A' n' c' l', n' ≤ c' ∧ c' ≤ maxLen ∧ n' ≤ 1000 ∧ ([.slice (some ⟨gx, ox, none⟩) 64 c1, .slice (some ⟨g2, 0, none⟩) 64 c2, .slice Ar kd cr] : List Value)[k]? = some (.slice A' n' c') ∧ ∀ g9 W, Lows w [blkL g9 29 [.slice (some ⟨gx, ox, none⟩) 64 c1, .slice (some ⟨g2, 0, none⟩) 64 c2, .slice Ar kd cr], rdL Ar kd (lr.take kd), rdL (some ⟨g2, 0, none⟩) 64 Y, rdL (some ⟨gx, ox, none⟩) 64 X, blkL (w.heap.size + 1 + 1 + 1 + 1) 27 (mac.map u8v), blkL (w.heap.size + 1 + 1 + 1) 27 (ck.map u8v), blkL (w.heap.size + 1 + 1) 25 (nn.map u8v), blkL (w.heap.size + 1) 23 (p2.map u8v), blkL w.heap.size 23 (p.map u8v), rdL Ar nb lr] W → Rd W W.heap.size A' n' l' from by
  intro k hk
  have h1 := HC1.out
  have h2 := HC2.out
  have h3 := HNUM.out
  match k, hk with
  | 0, _ => exact ⟨(some ⟨gx, ox, none⟩), 64, c1, X, h1.1, h1.2, by omega, rfl, fun g9 W hW => hW.rd 3 rfl⟩
  | 1, _ => exact ⟨(some ⟨g2, 0, none⟩), 64, c2, Y, h2.1, h2.2, by omega, rfl, fun g9 W hW => hW.rd 2 rfl⟩
  | 2, _ => exact ⟨Ar, kd, cr, lr.take kd, h3.2.2.1, h3.2.2.2, by omega, rfl, fun g9 W hW => hW.rd 1 rfl⟩
  | k + 3, hk => exact absurd hk (by omega))
 obtain ⟨iK, hiK, zK1, zK, zK0⟩ := key_parts
 have HKI := Lib.hid (And.intro hiK (And.intro zK1 zK0))
 clear hiK zK1 zK0
 have hm9 := HM.out.alloc 29 #[.slice (some ⟨gx, ox, none⟩) 64 c1, .slice (some ⟨g2, 0, none⟩) 64 c2, .slice Ar kd cr] [.slice (some ⟨gx, ox, none⟩) 64 c1, .slice (some ⟨g2, 0, none⟩) 64 c2, .slice Ar kd cr] rfl
 go_wp2_with fail
 generalize w6.alloc (.cells #[.slice (some ⟨gx, ox, none⟩) 64 c1, .slice (some ⟨g2, 0, none⟩) 64 c2, .slice Ar kd cr] 29) = w7 at hm9 ⊢
 generalize w6.heap.size = g9 at hm9 ⊢
 replace HM := Lib.hid (show Lows w [blkL g9 29 [.slice (some ⟨gx, ox, none⟩) 64 c1, .slice (some ⟨g2, 0, none⟩) 64 c2, .slice Ar kd cr], rdL Ar kd (lr.take kd), rdL (some ⟨g2, 0, none⟩) 64 Y, rdL (some ⟨gx, ox, none⟩) 64 X, blkL (w.heap.size + 1 + 1 + 1 + 1) 27 (mac.map u8v), blkL (w.heap.size + 1 + 1 + 1) 27 (ck.map u8v), blkL (w.heap.size + 1 + 1) 25 (nn.map u8v), blkL (w.heap.size + 1) 23 (p2.map u8v), blkL w.heap.size 23 (p.map u8v), rdL Ar nb lr] w7 from hm9)
 clear hm9
 go_loopw [64] (fun iv wr => ∃ k : Nat, k ≤ 3 ∧ iv = .int .i64 (k : Int) ∧ Lows w [blkL g9 29 [.slice (some ⟨gx, ox, none⟩) 64 c1, .slice (some ⟨g2, 0, none⟩) 64 c2, .slice Ar kd cr], rdL Ar kd (lr.take kd), rdL (some ⟨g2, 0, none⟩) 64 Y, rdL (some ⟨gx, ox, none⟩) 64 X, blkL (w.heap.size + 1 + 1 + 1 + 1) 27 (mac.map u8v), blkL (w.heap.size + 1 + 1 + 1) 27 (ck.map u8v), blkL (w.heap.size + 1 + 1) 25 (nn.map u8v), blkL (w.heap.size + 1) 23 (p2.map u8v), blkL w.heap.size 23 (p.map u8v), rdL Ar nb lr] wr) (fun iv _ => 3 - (intOf iv).toNat)
 case atStart => exact ⟨0, by omega, rfl, HM.out⟩
 case round =>
  clear HM
  obtain ⟨k, hk, rfl, hM⟩ := hrel
  have HM := Lib.hid hM
  clear hM
  by_cases hk4 : k < 3
  ·
   obtain ⟨A', n', c', l', h1, h2, h3, hrow, hrd⟩ := HI.out k hk4
   have dk : decide ((k : Int) < 3) = true := by simp; omega
   have fk : wr.cell? ⟨g9, k, none⟩ = some (.slice A' n' c') := by rw [(HM.out.blk 0 rfl).cell, hrow]
   have HA' := Lib.hid (And.intro h1 (And.intro h2 h3))
   replace HM := Lib.hid (show Lows w [rdL A' n' l', blkL g9 29 [.slice (some ⟨gx, ox, none⟩) 64 c1, .slice (some ⟨g2, 0, none⟩) 64 c2, .slice Ar kd cr], rdL Ar kd (lr.take kd), rdL (some ⟨g2, 0, none⟩) 64 Y, rdL (some ⟨gx, ox, none⟩) 64 X, blkL (w.heap.size + 1 + 1 + 1 + 1) 27 (mac.map u8v), blkL (w.heap.size + 1 + 1 + 1) 27 (ck.map u8v), blkL (w.heap.size + 1 + 1) 25 (nn.map u8v), blkL (w.heap.size + 1) 23 (p2.map u8v), blkL w.heap.size 23 (p.map u8v), rdL Ar nb lr] wr from HM.out.cons (rdL A' n' l') (hrd g9 wr HM.out))
   have hcp32 : cp.size = 32 := by rw [← HCP.out]; simp [HP.out]
   have hco32 : co.size = 32 := by rw [← HCO.out]; simp [HP2.out]
   have HKK := Lib.hid hk
   clear hrow hrd h1 h2 h3 hk
   go_upto_region 10 with (first | (refine wpList_load_obj rfl 23 (.tmp 9) rfl w.heap.size 0 rfl (p.map u8v) (HM.out.blk 9 rfl).all _ Tryz.underlying23 rfl (cells32 p HP.out) ?_; rw [HCP.out]) | (refine wpList_load_obj rfl 23 (.tmp 10) rfl (w.heap.size + 1) 0 rfl (p2.map u8v) (HM.out.blk 8 rfl).all _ Tryz.underlying23 rfl (cells32 p2 HP2.out) ?_; rw [HCO.out]) | (refine wpList_buildTwo rfl 33 23 (.tmp 68) (.tmp 69) rfl cp co rfl rfl 32 Tryz.underlying33 iK HKI.out.1 HKI.out.2.1 _ HKI.out.2.2 (by omega) (by omega) hcp32 hco32 ?_))
   have hm9 := HM.out.alloc 23 (cp ++ co) ((p ++ p2).map u8v) (by rw [← HCP.out, ← HCO.out]; simp)
   generalize wr.alloc (.cells (cp ++ co) 23) = wt at hm9 ⊢
   generalize wr.heap.size = g70 at hm9 ⊢
   replace HM := Lib.hid (show Lows w [blkL g70 23 ((p ++ p2).map u8v), rdL A' n' l', blkL g9 29 [.slice (some ⟨gx, ox, none⟩) 64 c1, .slice (some ⟨g2, 0, none⟩) 64 c2, .slice Ar kd cr], rdL Ar kd (lr.take kd), rdL (some ⟨g2, 0, none⟩) 64 Y, rdL (some ⟨gx, ox, none⟩) 64 X, blkL (w.heap.size + 1 + 1 + 1 + 1) 27 (mac.map u8v), blkL (w.heap.size + 1 + 1 + 1) 27 (ck.map u8v), blkL (w.heap.size + 1 + 1) 25 (nn.map u8v), blkL (w.heap.size + 1) 23 (p2.map u8v), blkL w.heap.size 23 (p.map u8v), rdL Ar nb lr] wt from hm9)
   clear hm9 hcp32 hco32 fk
   go_loopw [72] (fun iv wr => ∃ j : Nat, j ≤ 2 ∧ iv = .int .i64 (j : Int) ∧ Lows w [blkL g70 23 ((p ++ p2).map u8v), rdL A' n' l', blkL g9 29 [.slice (some ⟨gx, ox, none⟩) 64 c1, .slice (some ⟨g2, 0, none⟩) 64 c2, .slice Ar kd cr], rdL Ar kd (lr.take kd), rdL (some ⟨g2, 0, none⟩) 64 Y, rdL (some ⟨gx, ox, none⟩) 64 X, blkL (w.heap.size + 1 + 1 + 1 + 1) 27 (mac.map u8v), blkL (w.heap.size + 1 + 1 + 1) 27 (ck.map u8v), blkL (w.heap.size + 1 + 1) 25 (nn.map u8v), blkL (w.heap.size + 1) 23 (p2.map u8v), blkL w.heap.size 23 (p.map u8v), rdL Ar nb lr] wr) (fun iv _ => 2 - (intOf iv).toNat)
   case atStart => exact ⟨0, by omega, rfl, HM.out⟩
   case round =>
    clear HM
    obtain ⟨j, hj, rfl, hM⟩ := hrel
    have HM := Lib.hid hM
    clear hM
    by_cases hj2 : j < 2
    ·
     have dj : decide ((j : Int) < 2) = true := by simp; omega
     obtain ⟨x, hxd⟩ : ∃ x, ((p ++ p2).drop (j * 32)).take 32 = x := ⟨_, rfl⟩
     have hxl : x.length = 32 := by rw [← hxd]; simp [HP.out, HP2.out]; omega
     have hxc : At wr g70 (j * 32) (x.map u8v) := by
      have h0 := (HM.out.blk 0 rfl).sub (j * 32) 32
      rw [← List.map_drop, ← List.map_take, hxd] at h0
      exact h0
     have HXL := Lib.hid hxl
     have HXC := Lib.hid hxc
     have hx1 := HOP.out x mac hxl HMC.out A' n' c' l' HA'.out.1 HA'.out.2.1 (by have := HA'.out; omega)
     have hy1 := refOpenC x mac hxl HMC.out A' n' c' l' HA'.out.1 HA'.out.2.1 (by have := HA'.out; omega)
     have hotl := openB_len x mac l'
     obtain ⟨cx, hcxx⟩ : ∃ z, (x.map u8v).toArray = z := ⟨_, rfl⟩
     obtain ⟨ot, hot⟩ : ∃ z, (openB x mac l').1 = z := ⟨_, rfl⟩
     obtain ⟨oe, hoe⟩ : ∃ z, (openB x mac l').2 = z := ⟨_, rfl⟩
     rw [hot] at hotl
     obtain ⟨cot, hcot⟩ : ∃ z, (ot.map u8v).toArray = z := ⟨_, rfl⟩
     rw [hcxx, hot, hoe, hcot, HCM.out] at hx1 hy1
     have hes := fun w' : World => run_tag_eq ot hotl w'
     rw [hcot] at hes
     have HES := Lib.hid hes
     have HX1 := Lib.hid hx1
     have HY1 := Lib.hid hy1
     have HCX := Lib.hid hcxx
     have HCOT := Lib.hid hcot
     have HOTL := Lib.hid hotl
     have HJJ := Lib.hid hj
     have hA0 : Blk (wr.alloc (.cells zb32 23)) wr.heap.size 23 ((List.replicate 32 (0 : UInt8)).map u8v) := Blk.new wr 23 ((List.replicate 32 (0 : UInt8)).map u8v)
     clear hx1 hy1 hcxx hot hoe hcot hotl hes hxd hxl hxc hj
     go_upto_region 12 with (first | (refine wpList_load_obj rfl 23 (.tmp 74) rfl g70 (j * 32) rfl (x.map u8v) HXC.out _ Tryz.underlying23 rfl (cells32 x HXL.out) ?_; rw [HCX.out]) | (refine wpList_store_blk rfl 23 (.tmp 24) (.tmp 75) rfl wr.heap.size (x.map u8v) rfl (by show Value.agg cx = _; rw [HCX.out]) 23 ((List.replicate 32 (0 : UInt8)).map u8v) hA0 (cells32 x HXL.out) (by rw [List.length_map, List.length_map, HXL.out]; rfl) (u8v_one _) ?_; intro w5 hb5 hg5))
     (try simp only [Act.put])
     have hm9 := HM.out.stored (arr := zb32) hg5 hb5
     generalize wr.heap.size = g24 at hm9 ⊢
     replace HM := Lib.hid (show Lows w [blkL g24 23 (x.map u8v), blkL g70 23 ((p ++ p2).map u8v), rdL A' n' l', blkL g9 29 [.slice (some ⟨gx, ox, none⟩) 64 c1, .slice (some ⟨g2, 0, none⟩) 64 c2, .slice Ar kd cr], rdL Ar kd (lr.take kd), rdL (some ⟨g2, 0, none⟩) 64 Y, rdL (some ⟨gx, ox, none⟩) 64 X, blkL (w.heap.size + 1 + 1 + 1 + 1) 27 (mac.map u8v), blkL (w.heap.size + 1 + 1 + 1) 27 (ck.map u8v), blkL (w.heap.size + 1 + 1) 25 (nn.map u8v), blkL (w.heap.size + 1) 23 (p2.map u8v), blkL w.heap.size 23 (p.map u8v), rdL Ar nb lr] w5 from hm9)
     clear hm9 hb5 hg5 hA0 dj HXC
     have hj := HJJ.out
     go_wp2_with (first | (refine wpList_load_obj rfl 23 (.tmp 24) rfl g24 0 rfl (x.map u8v) (HM.out.blk 0 rfl).all _ Tryz.underlying23 rfl (cells32 x HXL.out) ?_; rw [HCX.out]) | (refine wpList_load_obj rfl 27 (.tmp 13) rfl (w.heap.size + 1 + 1 + 1 + 1) 0 rfl (mac.map u8v) (HM.out.blk 7 rfl).all _ Tryz.underlying27 rfl (ae_cellsT mac HMC.out) ?_; rw [HCM.out]))
     refine (HX1.out _ (HLV.out.below HM.out.bel) (HM.out.rd 2 rfl)).mono ?_
     rintro e wp1 ⟨rfl, hb⟩
     replace HM := Lib.hid (HM.out.below hb)
     clear hb
     have hnew : Blk (wp1.alloc (.cells zb16 27)) wp1.heap.size 27 ((List.replicate 16 (0 : UInt8)).map u8v) := Blk.new wp1 27 ((List.replicate 16 (0 : UInt8)).map u8v)
     go_upto_region 13 with (refine wpList_store_blk rfl 27 (.tmp 25) (.tmp 81) rfl wp1.heap.size (ot.map u8v) rfl (by show Value.agg cot = _; rw [HCOT.out]) 27 ((List.replicate 16 (0 : UInt8)).map u8v) hnew (ae_cellsT ot HOTL.out) (by rw [List.length_map, List.length_map, HOTL.out]; rfl) (u8v_one _) ?_; intro wq1 hb5 hg5)
     (try simp only [Act.put])
     have hm9 := HM.out.stored (arr := zb16) hg5 hb5
     generalize wp1.heap.size = g25 at hm9 ⊢
     replace HM := Lib.hid (show Lows w [blkL g25 27 (ot.map u8v), blkL g24 23 (x.map u8v), blkL g70 23 ((p ++ p2).map u8v), rdL A' n' l', blkL g9 29 [.slice (some ⟨gx, ox, none⟩) 64 c1, .slice (some ⟨g2, 0, none⟩) 64 c2, .slice Ar kd cr], rdL Ar kd (lr.take kd), rdL (some ⟨g2, 0, none⟩) 64 Y, rdL (some ⟨gx, ox, none⟩) 64 X, blkL (w.heap.size + 1 + 1 + 1 + 1) 27 (mac.map u8v), blkL (w.heap.size + 1 + 1 + 1) 27 (ck.map u8v), blkL (w.heap.size + 1 + 1) 25 (nn.map u8v), blkL (w.heap.size + 1) 23 (p2.map u8v), blkL w.heap.size 23 (p.map u8v), rdL Ar nb lr] wq1 from hm9)
     clear hm9 hb5 hg5 hnew
     go_wp2_with (first | (refine wpList_load_obj rfl 23 (.tmp 24) rfl g24 0 rfl (x.map u8v) (HM.out.blk 1 rfl).all _ Tryz.underlying23 rfl (cells32 x HXL.out) ?_; rw [HCX.out]) | (refine wpList_load_obj rfl 27 (.tmp 13) rfl (w.heap.size + 1 + 1 + 1 + 1) 0 rfl (mac.map u8v) (HM.out.blk 8 rfl).all _ Tryz.underlying27 rfl (ae_cellsT mac HMC.out) ?_; rw [HCM.out]))
     refine (HY1.out _ (HLV.out.below HM.out.bel) (HM.out.rd 3 rfl)).mono ?_
     rintro e wp2 ⟨rfl, hb⟩
     replace HM := Lib.hid (HM.out.below hb)
     clear hb
     have hnew : Blk (wp2.alloc (.cells zb16 27)) wp2.heap.size 27 ((List.replicate 16 (0 : UInt8)).map u8v) := Blk.new wp2 27 ((List.replicate 16 (0 : UInt8)).map u8v)
     go_upto_region 14 with (refine wpList_store_blk rfl 27 (.tmp 27) (.tmp 88) rfl wp2.heap.size (ot.map u8v) rfl (by show Value.agg cot = _; rw [HCOT.out]) 27 ((List.replicate 16 (0 : UInt8)).map u8v) hnew (ae_cellsT ot HOTL.out) (by rw [List.length_map, List.length_map, HOTL.out]; rfl) (u8v_one _) ?_; intro wq2 hb5 hg5)
     (try simp only [Act.put])
     have hm9 := HM.out.stored (arr := zb16) hg5 hb5
     generalize wp2.heap.size = g27 at hm9 ⊢
     replace HM := Lib.hid (show Lows w [blkL g27 27 (ot.map u8v), blkL g25 27 (ot.map u8v), blkL g24 23 (x.map u8v), blkL g70 23 ((p ++ p2).map u8v), rdL A' n' l', blkL g9 29 [.slice (some ⟨gx, ox, none⟩) 64 c1, .slice (some ⟨g2, 0, none⟩) 64 c2, .slice Ar kd cr], rdL Ar kd (lr.take kd), rdL (some ⟨g2, 0, none⟩) 64 Y, rdL (some ⟨gx, ox, none⟩) 64 X, blkL (w.heap.size + 1 + 1 + 1 + 1) 27 (mac.map u8v), blkL (w.heap.size + 1 + 1 + 1) 27 (ck.map u8v), blkL (w.heap.size + 1 + 1) 25 (nn.map u8v), blkL (w.heap.size + 1) 23 (p2.map u8v), blkL w.heap.size 23 (p.map u8v), rdL Ar nb lr] wq2 from hm9)
     clear hm9 hb5 hg5 hnew
     have hes := HES.out wq2
     have HB7 := Lib.hid (show Lows w [blkL g70 23 ((p ++ p2).map u8v), rdL A' n' l', blkL g9 29 [.slice (some ⟨gx, ox, none⟩) 64 c1, .slice (some ⟨g2, 0, none⟩) 64 c2, .slice Ar kd cr], rdL Ar kd (lr.take kd), rdL (some ⟨g2, 0, none⟩) 64 Y, rdL (some ⟨gx, ox, none⟩) 64 X, blkL (w.heap.size + 1 + 1 + 1 + 1) 27 (mac.map u8v), blkL (w.heap.size + 1 + 1 + 1) 27 (ck.map u8v), blkL (w.heap.size + 1 + 1) 25 (nn.map u8v), blkL (w.heap.size + 1) 23 (p2.map u8v), blkL w.heap.size 23 (p.map u8v), rdL Ar nb lr] wq2 from ((HM.out.tail 0).tail 0).tail 0)
     go_wp2_with (first | (refine wpList_load_obj rfl 27 (.tmp 25) rfl g25 0 rfl (ot.map u8v) (HM.out.blk 1 rfl).all _ Tryz.underlying27 rfl (ae_cellsT ot HOTL.out) ?_; rw [HCOT.out]) | (refine wpList_load_obj rfl 27 (.tmp 27) rfl g27 0 rfl (ot.map u8v) (HM.out.blk 0 rfl).all _ Tryz.underlying27 rfl (ae_cellsT ot HOTL.out) ?_; rw [HCOT.out]))
     go_roundw
     case rel => exact ⟨j + 1, by omega, by go_num, HB7.out⟩
     case measure => simp [intOf]; omega
    ·
     obtain rfl : j = 2 := by omega
     have dj : decide ((2 : Int) < 2) = false := by simp
     have HB6 := Lib.hid (show Lows w [blkL g9 29 [.slice (some ⟨gx, ox, none⟩) 64 c1, .slice (some ⟨g2, 0, none⟩) 64 c2, .slice Ar kd cr], rdL Ar kd (lr.take kd), rdL (some ⟨g2, 0, none⟩) 64 Y, rdL (some ⟨gx, ox, none⟩) 64 X, blkL (w.heap.size + 1 + 1 + 1 + 1) 27 (mac.map u8v), blkL (w.heap.size + 1 + 1 + 1) 27 (ck.map u8v), blkL (w.heap.size + 1 + 1) 25 (nn.map u8v), blkL (w.heap.size + 1) 23 (p2.map u8v), blkL w.heap.size 23 (p.map u8v), rdL Ar nb lr] wr from (HM.out.tail 0).tail 0)
     have hkk := HKK.out
     clear HM
     rw [show ((2 : Nat) : Int) = 2 from rfl]
     go_wp2_with fail
     go_roundw
     case rel => exact ⟨k + 1, by omega, by go_num, HB6.out⟩
     case measure => simp [intOf]; omega
  ·
   obtain rfl : k = 3 := by omega
   have dk : decide ((3 : Int) < 3) = false := by simp
   rw [show ((3 : Nat) : Int) = 3 from rfl]
   go_wp2_with fail
   refine (HBG.out _ (HLV.out.below HM.out.bel)).mono ?_
   rintro e wz ⟨rfl, hb⟩
   have HF := Lib.hid (HM.out.below hb).bel
   clear hb HM
   go_wp2_with fail
   go_ret
   exact ⟨rfl, HF.out⟩
/-- a message with other codes -/
def withC (k : Nat) (m : MsgM) (f s : List UInt8) : MsgM := ⟨m.nums, m.bs.take (msB k - 32) ++ (f ++ s)⟩
section
variable {k : Nat} {m : MsgM} {f s f' s' : List UInt8}
theorem withC_ok (hk : k = 1 ∨ k = 2) (h : m.ok k) (hf : f.length = 16) (hs : s.length = 16) : (withC k m f s).ok k := by
 refine ⟨h.1, ?_, h.2.2⟩
 have := two_big hk
 simp only [withC, List.length_append, hf, hs, List.length_take, h.2.1]
 omega
theorem withC_twice (h : m.ok k) (hk : k = 1 ∨ k = 2) : withC k (withC k m f s) f' s' = withC k m f' s' := by
 have := two_big hk
 simp only [withC]
 rw [List.take_append_of_le_length (by rw [List.length_take, h.2.1]; omega), List.take_take, Nat.min_self]
theorem withC_enc (hk : k = 1 ∨ k = 2) (h : m.ok k) : encB k (withC k m f s) = (encB k m).take (msLen k - 32) ++ (f ++ s) := by
 rw [enc_take hk h]
 simp only [encB, withC, List.append_assoc]
theorem withC_pre (hk : k = 1 ∨ k = 2) (h : m.ok k) : (encB k (withC k m f s)).take (msLen k - 32) = (encB k m).take (msLen k - 32) := by
 rw [withC_enc hk h, List.take_left' (pre_length h)]
theorem withC_pre2 (hk : k = 1 ∨ k = 2) (h : m.ok k) (hf : f.length = 16) : (encB k (withC k m f s)).take (msLen k - 16) = (encB k m).take (msLen k - 32) ++ f := by
 have hl := two_len hk
 rw [withC_enc hk h, ← List.append_assoc, List.take_left' (by rw [List.length_append, pre_length h, hf]; omega)]
end
/-- what is asked of the function that encodes a message with two codes: the message lies in a variable that the function keeps -/
def McEncF (F k T : Nat) : Prop := ∀ m : MsgM, m.ok k → ∀ f s : List UInt8, f.length = 16 → s.length = 16 → ∀ (w0 w : World) (E : List Ent) (i G : Nat), E[i]? = some (blkE G T m.cells) → Mem w0 E w →
 Calls Tryz.prog F #[.agg (f.map u8v).toArray, .agg (s.map u8v).toArray, .pointer (some ⟨G, 0, none⟩)] w fun e w' => ∃ A c, e = .returned (.slice A (msLen k) c) ∧ msLen k ≤ c ∧ c ≤ maxLen ∧ Mem w0 (rdE w.heap.size w'.heap.size A (msLen k) (encB k (withC k m f s)) :: E.set i (blkE G T (withC k m f s).cells)) w'
theorem mem_set_get {E : List Ent} {i : Nat} {a b : Ent} (h : E[i]? = some a) : (E.set i b)[i]? = some b := by
 rw [List.getElem?_set_self (List.getElem?_eq_some_iff.1 h).1]
theorem mem_set_set {E : List Ent} {i : Nat} {a b : Ent} : (E.set i a).set i b = E.set i b := by simp
theorem widen {w0 w W : World} {lo hi n : Nat} {A : Option Addr} {l : List UInt8} {b1 b2 : Ent} {E : List Ent} (h : Mem w0 (rdE lo hi A n l :: b2 :: b1 :: E) W) (hw : b1.lo = w.heap.size) (h2 : b2.lo = w.heap.size + 1) (hhi : hi = W.heap.size) : Mem w0 (rdE w.heap.size W.heap.size A n l :: E) W := by
 obtain ⟨⟨q1, q2, q3, ⟨r1, r2, r3, ⟨s1, s2, s3, s4⟩⟩⟩, hb⟩ := h
 subst hhi
 refine ⟨⟨Nat.le_refl _, ?_, RdIn.from_ q3 ?_, ?_⟩, hb⟩
 all_goals first | (show w.heap.size ≤ _; simp only [rdE] at *; omega) | (rw [← hw]; exact s4)
theorem widen5 {w0 w W : World} {lo hi n : Nat} {A : Option Addr} {l : List UInt8} {b1 b2 b3 b4 b5 : Ent} {E : List Ent} (h : Mem w0 (rdE lo hi A n l :: b5 :: b4 :: b3 :: b2 :: b1 :: E) W) (hw : b1.lo = w.heap.size) : Mem w0 (rdE w.heap.size W.heap.size A n l :: E) W := by
 obtain ⟨⟨q1, q2, q3, ⟨r1, r2, _, ⟨s1, s2, _, ⟨t1, t2, _, ⟨u1, u2, _, ⟨v1, v2, _, h4⟩⟩⟩⟩⟩⟩, hb⟩ := h
 have hlo : w.heap.size ≤ lo := by show w.heap.size ≤ (rdE lo hi A n l).lo; omega
 refine ⟨⟨Nat.le_refl _, ?_, ⟨q3.1, fun hn => ?_⟩, ?_⟩, hb⟩
 ·
  show w.heap.size ≤ W.heap.size
  exact Nat.le_trans hlo (Nat.le_trans q2 q1)
 ·
  obtain ⟨b, off, e, h1, h2, hc⟩ := q3.2 hn
  exact ⟨b, off, e, Nat.le_trans hlo h1, Nat.lt_of_lt_of_le h2 q1, hc⟩
 ·
  show MemE w0.heap.size E w.heap.size W
  rw [← hw]; exact h4
theorem Mem.rdIn0 {w0 W : World} {lo hi lo' n g : Nat} {t : TypeId} {cs : List Value} {A : Option Addr} {l : List UInt8} {E : List Ent} (h : Mem w0 (rdE lo hi A n l :: blkE g t cs :: E) W) (hg : lo' ≤ g) : RdIn lo' W.heap.size A n l W := by
 obtain ⟨⟨q1, q2, q3, ⟨r1, _⟩⟩, _⟩ := h
 refine ⟨q3.1, fun hn => ?_⟩
 obtain ⟨b, off, e, h1, h2, hc⟩ := q3.2 hn
 exact ⟨b, off, e, Nat.le_trans hg (Nat.le_trans (Nat.le_of_succ_le r1) h1), Nat.lt_of_lt_of_le h2 q1, hc⟩
theorem run_text (w : World) (s : ByteArray) : (convert 9 29 (.string s)).run Tryz.prog w = .ok (.slice (some ⟨w.heap.size, 0, none⟩) s.size (grownCap w s.size 0 5)) (Lib.bytesWorld w 5 s) :=
 Lib.run_convert_string_bytes w 9 29 5 s Tryz.underlying9 Tryz.underlying29 Tryz.underlying5
theorem text_below (w : World) (s : ByteArray) : Below w.heap.size w (Lib.bytesWorld w 5 s) := by
 refine ⟨?_, ?_, ?_, by rw [Lib.bytesWorld_size]; omega, fun k hk => Lib.bytesWorld_at_old w _ s k hk⟩
 all_goals simp [Lib.bytesWorld, World.freeze, World.alloc, World.drew, -World.alloc_eq, -World.drew_eq]
theorem text_in (w : World) (s : ByteArray) (l : List UInt8) (hs : s.data.toList = l) (n : Nat) (hn : s.size = n) : RdIn w.heap.size (Lib.bytesWorld w 5 s).heap.size (some ⟨w.heap.size, 0, none⟩) n l (Lib.bytesWorld w 5 s) := by
 have hl : l.length = n := by rw [← hs, ← hn]; exact Array.length_toList
 refine ⟨hl, fun _ => ⟨w.heap.size, 0, rfl, Nat.le_refl _, by rw [Lib.bytesWorld_size]; omega, fun j hj => ?_⟩⟩
 rw [Nat.zero_add, Lib.bytesWorld_cell w _ s j (by omega), hs, List.getD_eq_getElem?_getD, List.getElem?_eq_getElem hj]
 rfl
set_option maxRecDepth 100000 in
theorem rotneg_any (x : UInt32) (n : Nat) (h : n = 16 ∨ n = 12 ∨ n = 8 ∨ n = 7) (w : World) :
 Calls Tryz.prog 98 #[.int .u32 (x.toNat : Int), .int .i64 (-(n : Int))] w fun e w' => e = .returned (.int .u32 ((rotr x n).toNat : Int)) ∧ w = w' := by
 have hx : x.toNat < 4294967296 := x.toNat_lt
 rcases h with rfl | rfl | rfl | rfl
 ·
  have HR := u32_rotl x 16 (by omega) (by omega)
  simp only [show (2 : Int) ^ 16 = 65536 from rfl] at HR
  rw [show rotl x 16 = rotr x 16 from (rotr_rotl x 16 (by omega) (by omega)).symm] at HR
  have HR2 := Lib.hid HR
  clear HR
  have hb : bits BinOp.and IntKind.u64 (IntKind.u64.wrap (-16)) 31 = 16 := by decide
  rw [show -((16 : Nat) : Int) = -16 from rfl]
  go_enter Tryz.func98, Tryz.ntmps98
  go_wp2
  rw [HR2.out]
  go_ret
  exact ⟨rfl, rfl⟩
 ·
  have HR := u32_rotl x 20 (by omega) (by omega)
  simp only [show (2 : Int) ^ 20 = 1048576 from rfl, show (2 : Int) ^ (32 - 20) = 4096 from rfl] at HR
  rw [show rotl x 20 = rotr x 12 from (rotr_rotl x 12 (by omega) (by omega)).symm] at HR
  have HR2 := Lib.hid HR
  clear HR
  have hb : bits BinOp.and IntKind.u64 (IntKind.u64.wrap (-12)) 31 = 20 := by decide
  rw [show -((12 : Nat) : Int) = -12 from rfl]
  go_enter Tryz.func98, Tryz.ntmps98
  go_wp2
  rw [HR2.out]
  go_ret
  exact ⟨rfl, rfl⟩
 ·
  have HR := u32_rotl x 24 (by omega) (by omega)
  simp only [show (2 : Int) ^ 24 = 16777216 from rfl, show (2 : Int) ^ (32 - 24) = 256 from rfl] at HR
  rw [show rotl x 24 = rotr x 8 from (rotr_rotl x 8 (by omega) (by omega)).symm] at HR
  have HR2 := Lib.hid HR
  clear HR
  have hb : bits BinOp.and IntKind.u64 (IntKind.u64.wrap (-8)) 31 = 24 := by decide
  rw [show -((8 : Nat) : Int) = -8 from rfl]
  go_enter Tryz.func98, Tryz.ntmps98
  go_wp2
  rw [HR2.out]
  go_ret
  exact ⟨rfl, rfl⟩
 ·
  have HR := u32_rotl x 25 (by omega) (by omega)
  simp only [show (2 : Int) ^ 25 = 33554432 from rfl, show (2 : Int) ^ (32 - 25) = 128 from rfl] at HR
  rw [show rotl x 25 = rotr x 7 from (rotr_rotl x 7 (by omega) (by omega)).symm] at HR
  have HR2 := Lib.hid HR
  clear HR
  have hb : bits BinOp.and IntKind.u64 (IntKind.u64.wrap (-7)) 31 = 25 := by decide
  rw [show -((7 : Nat) : Int) = -7 from rfl]
  go_enter Tryz.func98, Tryz.ntmps98
  go_wp2
  rw [HR2.out]
  go_ret
  exact ⟨rfl, rfl⟩
theorem rotneg_any' (v : Int) (n : Nat) (x : UInt32) (hv : v = (x.toNat : Int)) (h : n = 16 ∨ n = 12 ∨ n = 8 ∨ n = 7) (w : World) :
 Calls Tryz.prog 98 #[.int .u32 v, .int .i64 (-(n : Int))] w fun e w' => e = .returned (.int .u32 ((rotr x n).toNat : Int)) ∧ w = w' := by
 rw [hv]
 exact rotneg_any x n h w
/-- four words, mixed with two words of the message -/
def mixT (x : UInt32 × UInt32 × UInt32 × UInt32) (p q : UInt32) : UInt32 × UInt32 × UInt32 × UInt32 :=
 let (a, b, c, d) := x
 let a1 := a + b + p
 let d1 := rotr (d ^^^ a1) 16
 let c1 := c + d1
 let b1 := rotr (b ^^^ c1) 12
 let a2 := a1 + b1 + q
 let d2 := rotr (d1 ^^^ a2) 8
 let c2 := c1 + d2
 (a2, rotr (b1 ^^^ c2) 7, c2, d2)
theorem u32_add3 (x y z : UInt32) : x + y + z = x + (y + z) := by
 apply UInt32.toNat.inj
 rw [UInt32.toNat_add, UInt32.toNat_add, UInt32.toNat_add, UInt32.toNat_add]
 omega
set_option maxRecDepth 100000 in
theorem bpMix_any (a b c d p q bp bq a1 d1 c1 b1 a2 d2 c2 b2 : UInt32) (e0 : b + p = bp) (e1 : a + bp = a1) (e2 : rotr (d ^^^ a1) 16 = d1) (e3 : c + d1 = c1) (e4 : rotr (b ^^^ c1) 12 = b1) (e50 : b1 + q = bq) (e5 : a1 + bq = a2) (e6 : rotr (d1 ^^^ a2) 8 = d2) (e7 : c1 + d2 = c2) (e8 : rotr (b1 ^^^ c2) 7 = b2) (w : World) :
 Calls Tryz.prog 106 #[.int .u32 (a.toNat : Int), .int .u32 (b.toNat : Int), .int .u32 (c.toNat : Int), .int .u32 (d.toNat : Int), .int .u32 (p.toNat : Int), .int .u32 (q.toNat : Int)] w fun e w' => e = .returned (.tuple #[.int .u32 (a2.toNat : Int), .int .u32 (b2.toNat : Int), .int .u32 (c2.toNat : Int), .int .u32 (d2.toNat : Int)]) ∧ w = w' := by
 have s0 := u32_sum b p
 have s1 := u32_sum a bp
 have x1 := u32_xor d a1
 have s2 := u32_sum c d1
 have x2 := u32_xor b c1
 have s30 := u32_sum b1 q
 have s3 := u32_sum a1 bq
 have x3 := u32_xor d1 a2
 have s4 := u32_sum c1 d2
 have x4 := u32_xor b1 c2
 rw [e0] at s0
 rw [e1] at s1
 rw [e3] at s2
 rw [e50] at s30
 rw [e5] at s3
 rw [e7] at s4
 go_enter Tryz.func106, Tryz.ntmps106
 go_wp2_with fail
 refine (rotneg_any' _ 16 (d ^^^ a1) (by rw [UInt32.toNat_xor]) (by omega) _).mono ?_
 rintro e w1 ⟨rfl, rfl⟩
 rw [e2]
 go_wp2_with fail
 refine (rotneg_any' _ 12 (b ^^^ c1) (by rw [UInt32.toNat_xor]) (by omega) _).mono ?_
 rintro e w1 ⟨rfl, rfl⟩
 rw [e4]
 go_wp2_with fail
 refine (rotneg_any' _ 8 (d1 ^^^ a2) (by rw [UInt32.toNat_xor]) (by omega) _).mono ?_
 rintro e w1 ⟨rfl, rfl⟩
 rw [e6]
 go_wp2_with fail
 refine (rotneg_any' _ 7 (b1 ^^^ c2) (by rw [UInt32.toNat_xor]) (by omega) _).mono ?_
 rintro e w1 ⟨rfl, rfl⟩
 rw [e8]
 go_wp2_with fail
 refine bodyPost_ret (results_tmp4 rfl _ _ _) rfl ⟨rfl, rfl⟩
set_option maxRecDepth 100000 in
theorem bpMix_of {a b c d p q a2 b2 c2 d2 : UInt32} (h : mixT (a, b, c, d) p q = (a2, b2, c2, d2)) (w : World) :
 Calls Tryz.prog 106 #[.int .u32 (a.toNat : Int), .int .u32 (b.toNat : Int), .int .u32 (c.toNat : Int), .int .u32 (d.toNat : Int), .int .u32 (p.toNat : Int), .int .u32 (q.toNat : Int)] w fun e w' => e = .returned (.tuple #[.int .u32 (a2.toNat : Int), .int .u32 (b2.toNat : Int), .int .u32 (c2.toNat : Int), .int .u32 (d2.toNat : Int)]) ∧ w = w' := by
 simp only [mixT, Prod.mk.injEq] at h
 obtain ⟨rfl, rfl, rfl, rfl⟩ := h
 exact bpMix_any a b c d p q _ _ _ _ _ _ _ _ _ _ rfl (u32_add3 a b p).symm rfl rfl rfl rfl (u32_add3 _ _ q).symm rfl rfl rfl w
/-- mixing at four different places is setting them to what mixT gives -/
theorem mixB_mixT (v : List UInt32) (hv : v.length = 16) (a b c d : Nat) (ha : a < 16) (hb : b < 16) (hc : c < 16) (hd : d < 16) (hab : a ≠ b) (hac : a ≠ c) (had : a ≠ d) (hbc : b ≠ c) (hbd : b ≠ d) (hcd : c ≠ d) (p q : UInt32) :
 mixB v a b c d p q = let r := mixT (wd v a, wd v b, wd v c, wd v d) p q; (((v.set a r.1).set b r.2.1).set c r.2.2.1).set d r.2.2.2 := by
 have hs : ∀ (l : List UInt32) (i j : Nat) (x : UInt32), i ≠ j → wd (l.set i x) j = wd l j := by
  intro l i j x h
  simp [wd, List.getD, List.getElem?_set_ne h]
 have hg : ∀ (l : List UInt32) (i : Nat) (x : UInt32), l.length = 16 → i < 16 → wd (l.set i x) i = x := by
  intro l i x hl hi
  simp [wd, List.getD, hl, hi]
 have hab' := hab.symm
 have hac' := hac.symm
 have had' := had.symm
 have hbc' := hbc.symm
 have hbd' := hbd.symm
 have hcd' := hcd.symm
 simp only [mixB, addX, addW, xrot, mixT]
 simp only [hs, hg, List.length_set, hv, ha, hb, hc, hd, hab, hac, had, hbc, hbd, hcd, hab', hac', had', hbc', hbd', hcd', ne_eq, not_false_eq_true]
 apply List.ext_getElem?
 intro i
 simp only [List.getElem?_set, List.length_set, hv]
 by_cases h1 : d = i <;> by_cases h2 : c = i <;> by_cases h3 : b = i <;> by_cases h4 : a = i <;> simp_all
/-- what runs to its end leaves the world as it is -/
def StillS {α : Type} (s : Sem α) : Prop := ∀ (P : Program) (w : World) (v : α) (w' : World), s.run P w = .ok v w' → w' = w
theorem StillS.pure {α : Type} (a : α) : StillS (Pure.pure a : Sem α) := fun _ _ _ _ h => by
 simp only [Sem.run_pure, Result.ok.injEq] at h
 exact h.2.symm
theorem StillS.halt {α : Type} (x : Halt) : StillS (Sem.halt x : Sem α) := fun _ _ _ _ h => by simp [Sem.run] at h
theorem StillS.bind {α β : Type} {s : Sem α} {f : α → Sem β} (h : StillS s) (hf : ∀ a, StillS (f a)) : StillS (s >>= f) := fun P w v w' e => by
 rw [Sem.run_bind] at e
 cases hr : s.run P w with
 | ok a w1 =>
  rw [hr, Result.andThen_ok] at e
  have h1 := h P w a w1 hr
  subst h1
  exact hf a P _ v w' e
 | halt x w1 => rw [hr] at e; cases e
theorem still_load (a : Addr) (m : Mode) : StillS (load a m) := fun P w v w' h => by
 unfold load at h
 simp only [Sem.run] at h
 split at h
 · cases h; rfl
 ·
  split at h
  · cases h; rfl
  · cases h
theorem still_program : StillS program := fun P w v w' h => by
 unfold program at h
 simp only [Sem.run] at h
 cases h
 rfl
theorem still_typeInfo (t : TypeId) : StillS (typeInfo t) := by
 unfold typeInfo
 refine still_program.bind fun p => ?_
 split
 · exact StillS.pure _
 · exact StillS.halt _
theorem still_underlying (t : TypeId) : StillS (underlying t) := by
 unfold underlying
 refine still_program.bind fun p => ?_
 split
 · exact StillS.pure _
 · exact StillS.halt _
theorem still_isAgg (t : TypeId) : StillS (isAgg t) := by
 unfold isAgg
 refine (still_underlying t).bind fun d => ?_
 split <;> exact StillS.pure _
theorem still_loadCellsFrom (a : Addr) : ∀ (n i : Nat) (acc : Array Value), StillS (loadCellsFrom a i n acc)
 | 0, _, _ => StillS.pure _
 | n + 1, _, _ => (still_load _ _).bind fun _ => still_loadCellsFrom a n _ _
theorem still_loadAt (t : TypeId) (v : Value) : StillS (Instr.loadAt t v) := by
 unfold Instr.loadAt
 refine StillS.bind ?_ fun a => ?_
 ·
  unfold Instr.sureAddr
  split
  · exact StillS.pure _
  · exact StillS.halt _
 ·
  unfold loadVar
  refine (still_isAgg t).bind fun b => ?_
  cases b
  · exact still_load _ _
  · exact StillS.bind (s := sizeOf t) (StillS.bind (still_typeInfo t) fun _ => StillS.pure _) fun n => StillS.bind (s := loadCells a n) (still_loadCellsFrom a n 0 _) fun _ => StillS.pure _
def Oper.isLoad (o : Oper) : Bool := match o.op with
 | .load _ _ => true
 | _ => false
theorem still_op {o : Oper} (h : Oper.isLoad o = true) (ev : Operand → Value) (P : Program) (w w' : World) (n : Next) (e : (execOp ev o).run P w = .ok n w') : w' = w := by
 unfold Oper.isLoad at h
 cases ho : o.op <;> rw [ho] at h <;> try cases h
 unfold execOp at e
 simp only [ho] at e
 exact StillS.bind (still_loadAt _ _) (fun _ => StillS.pure _) P w n w' e
section
variable {P : Program} {ops : Array Oper} {Q : Exit → Act → World → Prop} {md : Region.Mode} {S : World → Prop}
theorem wpOp_load {j : Nat} {o : Oper} (hj : ops[j]? = some o) (h : Oper.isLoad o = true) {K : Act → World → Prop} {a : Act} {w : World} (hk : wpOp P ops Q j K a w) : wpOp P ops Q j (fun a' w' => w' = w ∧ K a' w') a w := by
 unfold wpOp at *
 simp only [hj] at *
 split
 ·
  rename_i hw
  simp only [hw, if_true] at hk
  rcases hk with hk | hk
  case inr => exact .inr hk
  refine .inl ?_
  unfold Oper.wp at *
  have st := still_op h a.eval P w
  have hn : ∀ n w', (execOp a.eval o).run P w = .ok n w' → ∃ v, n = .value v := by
   intro n w' e
   unfold Oper.isLoad at h
   cases ho : o.op <;> rw [ho] at h <;> try cases h
   unfold execOp at e
   simp only [ho] at e
   rw [Sem.run_bind] at e
   rename_i ty x
   cases hr : (Instr.loadAt ty (a.eval x)).run P w with
   | ok v w1 =>
    rw [hr, Result.andThen_ok, Sem.run_pure] at e
    cases e
    exact ⟨v, rfl⟩
   | halt x w1 => rw [hr] at e; cases e
  generalize (execOp a.eval o).run P w = r at *
  cases r with
  | ok n w' =>
   obtain ⟨v, rfl⟩ := hn n w' rfl
   have := st w' _ rfl
   subst this
   exact ⟨rfl, hk⟩
  | halt x w' =>
   cases x <;> simp only [Oper.upon] at hk ⊢ <;> exact hk
 ·
  rename_i hw
  simp only [hw] at hk
  exact ⟨trivial, hk⟩
/-- every operation that has not come up, but i and those of R, waits for i or for one that is not of R -/
def waitsL (md : Region.Mode) (ops : Array Oper) (R : List Nat) (i : Nat) (listed : Array Bool) : Bool :=
 (List.range ops.size).all fun j => listed.getD j true || j == i || R.contains j ||
  match ops[j]? with
  | none => true
  | some o => o.after.toList.any fun e => Region.binds md e && (e.on == i || (!(listed.getD e.on false) && !(R.contains e.on)))
theorem waitsL_set {R : List Nat} {i j : Nat} {listed : Array Bool} (hj : R.contains j = true) (h : waitsL md ops R i listed = true) : waitsL md ops R i (listed.setIfInBounds j true) = true := by
 unfold waitsL at *
 rw [List.all_eq_true] at *
 intro k hk
 have h1 := h k hk
 by_cases hjk : j = k
 ·
  subst hjk
  simp only [hj, Bool.or_true, Bool.true_or]
 ·
  rw [getD_set_ne true hjk]
  cases ho : ops[k]? with
  | none => simp
  | some o =>
   rw [ho] at h1
   simp only [Bool.or_eq_true] at h1 ⊢
   refine h1.imp id fun h2 => ?_
   rw [List.any_eq_true] at h2 ⊢
   obtain ⟨e, he, h3⟩ := h2
   refine ⟨e, he, ?_⟩
   simp only [Bool.and_eq_true, Bool.or_eq_true] at h3 ⊢
   refine ⟨h3.1, h3.2.imp id fun h4 => ⟨?_, h4.2⟩⟩
   have hne : j ≠ e.on := fun h5 => by
    have h6 := h4.2
    rw [← h5, hj] at h6
    cases h6
   rw [getD_set_ne false hne]
   exact h4.1
theorem wpAnyH_load {R : List Nat} {i : Nat} {oi : Oper} {v : Value} (hi : ops[i]? = some oi) (hsel : ∀ (j : Nat) (o : Oper) cs b, ops[j]? = some o → o.op ≠ .select cs b)
 (hQ : ∀ c a w, Q (.panic c) (a.put oi.dst v) w → Q (.panic c) a w) (hR : ∀ j ∈ R, ∀ o, ops[j]? = some o → Oper.isLoad o = true) (w : World) (hS : S w) :
 ∀ (fuel : Nat) (listed : Array Bool) (a : Act), waitsL md ops R i listed = true →
  (∀ j oj, ops[j]? = some oj → j ≠ i → listed.getD j true = false → (∀ e ∈ oj.after, Region.binds md e = true → e.on ≠ i) → oi.apart ops oj = true) →
  i ∈ Region.ready md ops listed → YieldsIf P ops (fun w' => w' = w) oi v a →
  wpAnyH P md ops Q S fuel (listed.setIfInBounds i true) (a.put oi.dst v) w → wpAnyH P md ops Q S (fuel + 1) listed a w := by
 intro fuel
 induction fuel with
 | zero =>
  intro listed a hwt _ hr hy H
  refine ⟨fun h => (by rw [h] at hr; cases hr), fun j hj => ?_⟩
  by_cases hji : j = i
  · subst hji; exact hy.wpOp hi rfl ⟨hS, H⟩
  ·
   have := ready_mono hj hji
   rw [H.1] at this
   cases this
 | succ fuel ih =>
  intro listed a hwt hfree hr hy H
  refine ⟨fun h => (by rw [h] at hr; cases hr), fun j hj => ?_⟩
  by_cases hji : j = i
  · subst hji; exact hy.wpOp hi rfl ⟨hS, H⟩
  ·
   have h1 := H.2 j (ready_mono hj hji)
   obtain ⟨hjun, oj, hoj, hall⟩ := mem_ready.1 hj
   have hnot : ∀ e ∈ oj.after, Region.binds md e = true → e.on ≠ i := fun e he hb heq => by
    have h1 := hall e he hb
    have h0 := (mem_ready.1 hr).1
    rw [heq] at h1
    rcases Nat.lt_or_ge i listed.size with h' | h'
    · simp [h'] at h0 h1; rw [h0] at h1; cases h1
    · simp [Array.getElem?_eq_none h'] at h1
   have hjR : R.contains j = true := by
    have hjs : j < ops.size := by
     rcases Nat.lt_or_ge j ops.size with h' | h'
     · exact h'
     · rw [Array.getElem?_eq_none h'] at hoj; cases hoj
    have h0 := List.all_eq_true.1 hwt j (List.mem_range.2 hjs)
    rw [hoj, hjun] at h0
    simp only [Bool.or_eq_true, Bool.false_eq_true, false_or, beq_iff_eq] at h0
    rcases h0 with (h0 | h0) | h0
    · exact absurd h0 hji
    · exact h0
    ·
     exfalso
     rw [List.any_eq_true] at h0
     obtain ⟨e, he, h3⟩ := h0
     simp only [Bool.and_eq_true, Bool.or_eq_true, beq_iff_eq] at h3
     have he' : e ∈ oj.after := by simpa using he
     rcases h3.2 with h4 | h4
     · exact hnot e he' h3.1 h4
     ·
      rw [hall e he' h3.1] at h4
      simp at h4
   have h2 := wpOp_load hoj (hR j (by simpa using hjR) oj hoj) (wpOp_putIf hoj (hfree j oj hoj hji hjun hnot) (fun cs b => hsel i oi cs b hi) (fun cs b => hsel j oj cs b hoj) hQ hy h1)
   have hfree' : ∀ k ok, ops[k]? = some ok → k ≠ i → (listed.setIfInBounds j true).getD k true = false →
    (∀ e ∈ ok.after, Region.binds md e = true → e.on ≠ i) → oi.apart ops ok = true := fun k ok hk hki hun hno => by
    refine hfree k ok hk hki ?_ hno
    by_cases hjk : j = k
    · subst hjk; exact hjun
    · rw [getD_set_ne true hjk] at hun; exact hun
   refine wpOp_mono (fun a' w' h3 => ?_) h2
   obtain ⟨rfl, h4, h5, h6⟩ := h3
   refine ⟨h5, ih (listed.setIfInBounds j true) a' (waitsL_set hjR hwt) hfree' (ready_mono hr (Ne.symm hji)) h4 ?_⟩
   rw [Array.setIfInBounds_comm _ _ hji]
   exact h6
/-- a load may be taken first, if all that may come up ahead of it are loads (R) -/
theorem take_load {r : List Oper} {oi : Oper} {v : Value} {fuel : Nat} {listed : Array Bool} {a : Act} {w : World} (R : List Nat) (i : Nat) (hi : ops.toList.drop i = oi :: r)
 (hs : Region.noSelect ops = true) (hf : Region.free md ops listed i = true) (hr : (Region.ready md ops listed).contains i = true) (hR : (R.all fun j => (ops[j]?).all Oper.isLoad) = true) (hw : waitsL md ops R i listed = true)
 (hQ : ∀ c a w, Q (.panic c) (a.put oi.dst v) w → Q (.panic c) a w) (hy : YieldsIf P ops (fun w' => w' = w) oi v a) (hS : S w)
 (h : wpAnyH P md ops Q S fuel (listed.setIfInBounds i true) (a.put oi.dst v) w) : wpAnyH P md ops Q S (fuel + 1) listed a w :=
 wpAnyH_load (getElem?_of_drop hi) (Region.noSelect_spec hs) hQ (fun j hj o ho => by have := List.all_eq_true.1 hR j hj; rw [ho] at this; exact this) w hS fuel listed a hw (Region.free_spec (getElem?_of_drop hi) hf) (by simpa using hr) hy h
end
theorem grown_same (w : World) (k : Option Nat) : w.grownBy w k := ⟨rfl, rfl, rfl, Nat.le_refl _, fun _ _ _ => rfl⟩
theorem putL_nil {α : Type} (l : List α) (off : Nat) : putL l off [] = l := by
 simp [putL]
/-- the builtin copy of bytes that are read somewhere, or of none, to the beginning of a block -/
theorem wpList_copy_rd {P : Program} (w : World) {ops : Array Oper} {rest : List Oper} {o : Oper} {a : Act} {Q : Exit → Act → World → Prop} (hgd : o.guard = none) (d s : Operand) (dT sT : TypeId)
 (ho : o.op = .call { callee := .builtin .copy, args := #[d, s], argTypes := #[dT, sT] }) (elem : TypeId) (hu : P.underlying dT = some (.slice elem)) (hsz : (P.info? elem).map (·.size) = some 1)
 (g dLen dCap : Nat) (A : Option Addr) (sLen sCap : Nat) (hd : a.eval d = .slice (some ⟨g, 0, none⟩) dLen dCap) (hs : a.eval s = .slice A sLen sCap)
 (l0 : List UInt8) (t : TypeId) (hg : Blk w g t (l0.map u8v)) (B : Nat) (l : List UInt8) (hr : Rd w B A sLen l) (hle : sLen ≤ dLen) (hfit : dLen ≤ l0.length)
 (h : ∀ w', Blk w' g t ((putL l0 0 l).map u8v) → w.grownBy w' (some g) → wpList P ops Q rest (a.put o.dst (goInt sLen)) w') : wpList P ops Q (o :: rest) a w := by
 have hl : l.length = sLen := hr.1
 by_cases h0 : sLen = 0
 ·
  subst h0
  have hnil : l = [] := List.eq_nil_of_length_eq_zero hl
  refine wpList_plain hgd fun K hK => ?_
  have hrun := run_copy_none (P := P) w dT sT o.type elem (some ⟨g, 0, none⟩) A dLen dCap 0 sCap hu hsz (by simp)
  unfold Oper.wp execOp
  simp only [ho, resolve, invoke, builtin, Sem.run_bind, Sem.run_pure, Result.andThen_ok, List.map_toArray, List.map_cons, List.map_nil, hs, hd, hrun]
  exact hK _ _ (h w (by rw [hnil, putL_nil]; exact hg) (grown_same w _))
 ·
  obtain ⟨b, off, rfl, hb, hc⟩ := hr.2 (by omega)
  have hn : (l.map u8v).length = Nat.min sLen dLen := by rw [List.length_map, hl]; exact (Nat.min_eq_left hle).symm
  refine wpList_copy_bytes w hgd d s dT sT ho elem hu hsz g 0 dLen dCap ⟨b, off, none⟩ sLen sCap hd hs (l0.map u8v) t hg (l.map u8v) hn hr.src (by rw [List.length_map, List.length_map, hl]; omega) (u8v_one _) ?_
  intro w' hb' hg'
  rw [putL_map] at hb'
  have := h w' hb' hg'
  rw [List.length_map, hl]
  exact this
theorem cellsBk (l : List UInt32) (h : l.length = 16) : (Tryz.prog.info? 122).map (·.size) = some (l.map u32v).length := by
 rw [List.length_map, h]; kernel_rfl
theorem bpFill16 (b : List UInt8) : fillW (List.replicate 16 (0 : UInt32)) 0 (wordL b) 16 = wordsL b := by
 simp [fillW, wordsL, List.range_succ]
/-- at most 64 bytes, filled with zero bytes -/
def to64 (l : List UInt8) : List UInt8 := l ++ List.replicate (64 - l.length) 0
theorem to64_length (l : List UInt8) (h : l.length ≤ 64) : (to64 l).length = 64 := by
 rw [to64, List.length_append, List.length_replicate]; omega
theorem putL_zeros (l : List UInt8) (_h : l.length ≤ 64) : putL (List.replicate 64 (0 : UInt8)) 0 l = to64 l := by
 rw [putL, to64, List.take_zero, List.nil_append, List.drop_replicate, Nat.zero_add]
set_option maxRecDepth 100000 in
set_option maxHeartbeats 8000000 in
theorem bpBlock_any (A : Option Addr) (n cap : Nat) (l : List UInt8) (hn : n ≤ 64) (w : World) (hr : Rd w w.heap.size A n l) :
 Calls Tryz.prog 94 #[.slice A n cap] w fun e w' => e = .returned (.agg ((wordsL (to64 l)).map u32v).toArray) ∧ Below w.heap.size w w' := by
 have HM := Lib.hid (show Mem w [blkE (w.heap.size + 1) 89 ((List.replicate 64 (0 : UInt8)).map u8v), blkE w.heap.size 122 (zw 16)] ((w.alloc (.cells zw16_ 122)).alloc (.cells zb64 89)) from ((Mem.nil w).alloc rfl 122 zw16_ (zw 16) rfl).alloc (by simp) 89 zb64 ((List.replicate 64 (0 : UInt8)).map u8v) rfl)
 have HL := Lib.hid (show l.length ≤ 64 by rw [hr.1]; exact hn)
 have HR := Lib.hid hr
 have HL64 := Lib.hid (to64_length l HL.out)
 obtain ⟨b, hb⟩ : ∃ b, to64 l = b := ⟨_, rfl⟩
 rw [hb] at HL64 ⊢
 have HBE := Lib.hid hb
 obtain ⟨wz, hwz⟩ : ∃ x, wordsL b = x := ⟨_, rfl⟩
 rw [hwz]
 have HWZ := Lib.hid hwz
 have HZL := Lib.hid (show wz.length = 16 by rw [← hwz]; exact wordsL_length b)
 clear hr hb hwz
 go_enter Tryz.func94, Tryz.ntmps94
 go_upto_region 2 with fail
 generalize ((w.alloc (.cells zw16_ 122)).alloc (.cells zb64 89)) = w1 at HM ⊢
 go_upto_region 3 with (refine wpList_copy_rd _ rfl (.tmp 6) (.tmp 7) 29 29 rfl 5 Tryz.underlying29 (by kernel_rfl) (w.heap.size + 1) 64 64 A n cap rfl rfl (List.replicate 64 (0 : UInt8)) 89 (HM.out.blk 0 rfl) _ l (HM.out.arg HR.out) hn (by simp) ?_; intro w2 hb hg)
 rw [putL_zeros l HL.out, HBE.out] at hb
 replace HM := Lib.hid (show Mem w [blkE (w.heap.size + 1) 89 ((b).map u8v), blkE w.heap.size 122 (zw 16)] w2 from HM.out.put 0 rfl _ hg hb)
 clear hb hg HR HL HBE
 replace HM := Lib.hid (show Mem w [blkE w2.heap.size 122 ((List.replicate 16 (0 : UInt32)).map u32v), blkE (w.heap.size + 1) 89 ((b).map u8v), blkE w.heap.size 122 (zw 16)] (w2.alloc (.cells zw16_ 122)) from HM.out.alloc rfl 122 zw16_ _ rfl)
 go_upto_region 4 with fail
 generalize w2.alloc (.cells zw16_ 122) = w3 at HM ⊢
 generalize w2.heap.size = G at HM ⊢
 go_wp2_with fail
 go_loopw [9] (fun i wr => ∃ j : Nat, j ≤ 16 ∧ i = .int .i64 (j : Int) ∧ Mem w [blkE G 122 ((fillW (List.replicate 16 (0 : UInt32)) 0 (wordL b) j).map u32v), blkE (w.heap.size + 1) 89 ((b).map u8v), blkE w.heap.size 122 (zw 16)] wr) (fun i _ => 16 - (intOf i).toNat)
 case atStart => exact ⟨0, by omega, rfl, HM.out⟩
 case round =>
  clear HM
  obtain ⟨j, hj, rfl, hM⟩ := hrel
  have HM := Lib.hid hM
  clear hM
  by_cases hlt : j < 16
  ·
   have d16 : decide ((j : Int) < 16) = true := by simp; omega
   have rd := ((blk_all (HM.out.blk 1 rfl) HL64.out).drop (4 * j) (w.heap.size + 1) 0 rfl (by omega)).take (m := 4) (by omega)
   rw [Nat.zero_add] at rd
   have RL := Lib.hid (readLittle_any _ _ 4 (64 - 4 * j) _ (by omega) wr rd)
   have hlen : (fillW (List.replicate 16 (0 : UInt32)) 0 (wordL b) j).length = 16 := by rw [fillW_length]; rfl
   have fx := (HM.out.blk 0 rfl).word j (by omega)
   have zx := (HM.out.blk 0 rfl).frozen j
   have WW := Lib.hid (word_wrap b j)
   have HN := Lib.hid (show Mem w [blkE G 122 ((fillW (List.replicate 16 (0 : UInt32)) 0 (wordL b) (j + 1)).map u32v), blkE (w.heap.size + 1) 89 ((b).map u8v), blkE w.heap.size 122 (zw 16)] (wr.setCell ⟨G, j, none⟩ (.int .u32 ((wordL b j).toNat : Int))) from by
    have h := HM.out.setCell 0 rfl j (u32v (wordL b j))
    rw [← List.map_set] at h
    rw [fillW, Nat.zero_add]
    exact h)
   clear rd hlen HM
   have e1 : (j : Int) * 4 = ((4 * j : Nat) : Int) := by omega
   have e2 : ((j : Int) + 1) * 4 = ((4 * j + 4 : Nat) : Int) := by omega
   have b1 : 4 * (j : Int) + 4 ≤ 64 := by omega
   have q5 : (0 : Int) ≤ 4 * (j : Int) := by omega
   have q6 : (4 * (j : Int)).toNat = 4 * j := by omega
   have q7 : (4 * (j : Int) + 4).toNat = 4 * j + 4 := by omega
   have q8 : (4 * (j : Int)) ≤ 4 * (j : Int) + 4 := by omega
   have b2 : ¬ 64 = 4 * j := by omega
   have b3 : ¬ 4 * j = 64 := by omega
   go_wp2_with fail
   try rw [show 4 * j + 4 - 4 * j = 4 by omega]
   refine RL.out.mono ?_
   rintro e w1 ⟨rfl, rfl⟩
   clear RL
   obtain ⟨M, hM⟩ : ∃ M, numL (((b.drop (4 * j)).take 4).take 8) = M := ⟨_, rfl⟩
   have WN := WW.out
   rw [hM] at WN ⊢
   clear hM WW
   go_wp2
   refine ⟨⟨j + 1, by omega, by go_num, HN.out⟩, ?_⟩
   simp [intOf]
   omega
  ·
   obtain rfl : j = 16 := by omega
   rw [bpFill16, HWZ.out] at HM
   obtain ⟨cz, hcz⟩ : ∃ c, (wz.map u32v).toArray = c := ⟨_, rfl⟩
   have HCZ := Lib.hid hcz
   clear hcz
   rw [show ((16 : Nat) : Int) = 16 from rfl]
   go_wp2_with (first | (refine wpList_load_blk rfl 122 (.tmp 4) rfl G rfl 122 (wz.map u32v) (HM.out.blk 0 rfl) 16 28 Tryz.underlying122 (cellsBk wz HZL.out) ?_; rw [HCZ.out]) | (refine wpList_store_blk rfl 122 (.tmp 2) (.tmp 23) rfl w.heap.size (wz.map u32v) rfl (by show Value.agg cz = _; rw [HCZ.out]) 122 (zw 16) (HM.out.blk 2 rfl) (cellsBk wz HZL.out) (by rw [List.length_map, HZL.out]; rfl) (u32v_one _) ?_; intro w9 hb9 hg9))
   exact bodyPost_ret (results_blk rfl _ _ w.heap.size 122 (wz.map u32v) 16 28 rfl hb9 Tryz.underlying122 (cellsBk wz HZL.out)) rfl ⟨rfl, (HM.out.put 2 rfl _ hg9 hb9).bel⟩
end Go.Proofs.YtlddafkikkaonaaGreatDoor
