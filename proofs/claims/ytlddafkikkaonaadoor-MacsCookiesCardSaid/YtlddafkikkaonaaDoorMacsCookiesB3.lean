/-
  The contract of the reference's Little. The contract of the reference's ReadLittle. The reference's Join of a list of slices; its numbers of four bytes; the fields of a message as slices. MacsCookies returns true for every input, and changes nothing that was there: the walk. Codes are laid into the cells of a message. What is asked of an encoder whose bytes lie in memory of its own. Bytes in memory of the call, of a row, and with a wider range. A message with other codes, and what is asked of the function that encodes it. The bytes of a text, laid in memory of the call. The contract of math/bits.RotateLeft32 at the four distances of ChaCha20. The contracts of math/bits.RotateLeft32 at the distances of BLAKE2s, and of blake.mix. Words for a region that draws its order, in which several loads may come up at once, all ahead of what changes memory: such a load can be taken first, though its cell is written later. The builtin copy of bytes that are read somewhere to the beginning of a block. The contract of codec.ReadLittle: the number of the first eight bytes at most. No statement is proved here.
-/
import Derived.Maps.AppendAt
import Derived.Outline
import Derived.Deep.QuietTactic
import Derived.BigQuiet
import Derived.RegionTactic
import Derived.BigRegion
import Derived.Deep.RegionWith
import Derived.Deep.DeepCutAuto
import Derived.Lib.ConvBytes
import Derived.Laws.ShiftsVarLaws
import Derived.Laws.Bits64
import Derived.Test.YtlddafkikkaonaaDoorMacsCookiesB2
namespace Go.Proofs.YtlddafkikkaonaaDoor
open Go.RowKit

end Go.Proofs.YtlddafkikkaonaaDoor
namespace Go.Proofs.YtlddafkikkaonaaDoor
open Go.RowKit

end Go.Proofs.YtlddafkikkaonaaDoor
namespace Go.Proofs.YtlddafkikkaonaaDoor
open Go.RowKit

def Part.v (p : Part) : Value := .slice p.A p.n p.c
theorem parts_rd {w : World} {g : Nat} {t : TypeId} {ps : List Part} (hb : Blk w g t (ps.map Part.v)) (hr : ∀ p ∈ ps, Rd w w.heap.size p.A p.n p.l) : PartsRd w w.heap.size (some ⟨g, 0, none⟩) ps := fun _ =>
  ⟨g, rfl, hb.lt, fun j hj => ⟨by rw [hb.cell, List.getElem?_map, List.getElem?_eq_getElem hj]; rfl, hr _ (List.getElem_mem hj)⟩⟩
/-- a field of a message -/
theorem msg_rd {W : World} {P : Nat} {ty : TypeId} {k : Nat} {m : MsgM} (h : Blk W P ty m.cells) (hm : m.ok k) (q o n : Nat) (hq : msN k + o = q) (hn : o + n ≤ msB k) : Rd W W.heap.size (some ⟨P, q, none⟩) n ((m.bs.drop o).take n) := by
  subst hq
  have hl : ((m.bs.drop o).take n).length = n := by rw [List.length_take, List.length_drop, hm.2.1]; omega
  refine ⟨hl, fun _ => ⟨P, _, rfl, h.lt, fun j hj => ?_⟩⟩
  rw [hl] at hj
  rw [h.cell, MsgM.cells, List.getElem?_append_right (by rw [List.length_map, hm.1]; omega), List.length_map, hm.1, List.getElem?_map, List.getElem?_eq_getElem (by rw [hm.2.1]; omega)]
  simp only [Option.map_some, u8v, List.getElem_take, List.getElem_drop]
  congr 4
  congr 1
  omega
theorem msg_num {W : World} {P : Nat} {ty : TypeId} {m : MsgM} (h : Blk W P ty m.cells) (i v : Nat) (hv : m.nums[i]? = some v) : W.cell? ⟨P, i, none⟩ = some (.int .u32 (v : Int)) := by
  have hi : i < m.nums.length := (List.getElem?_eq_some_iff.1 hv).1
  rw [h.cell, MsgM.cells, List.getElem?_append_left (by rw [List.length_map]; exact hi), List.getElem?_map, hv]
  rfl
end Go.Proofs.YtlddafkikkaonaaDoor
namespace Go.Proofs.YtlddafkikkaonaaDoor
open Go.RowKit

theorem end_cells (l : List UInt8) (p : Nat) : codeE l p = endC (codeA l p) ((1 + bigV l (codeAP l p) % 65535 : Nat) : Int) := rfl
theorem big_two (r : Nat) : bigL r 2 = [UInt8.ofNat (r / 256), UInt8.ofNat r] := by
  simp only [bigL, littleL, List.range, List.range.loop, List.map_cons, List.map_nil, List.reverse_cons, List.reverse_nil, List.nil_append, List.cons_append, byteOf]
  congr 1
  · apply UInt8.toNat.inj; rw [UInt8.toNat_ofNat', UInt8.toNat_ofNat']; omega
  · congr 1
    apply UInt8.toNat.inj; rw [UInt8.toNat_ofNat', UInt8.toNat_ofNat']; omega
set_option maxRecDepth 100000 in
set_option maxHeartbeats 16000000 in
set_option linter.unusedSimpArgs false in
theorem mc_cookies_walk (HSI : McSealC 7 1) (HC1 : McCheck1C 17) (HCK : McCookieC 14) (HBL : BlCodeC) (w : World) (hlv : LvBlake w) (s : List UInt8) (hs : s.length = 32) (A : Option Addr) (nb cb : Nat) (lb : List UInt8) (hnc : nb ≤ cb) (hcm : cb ≤ maxLen) (hrb : Rd w w.heap.size A nb lb) :
    Calls Tryd.prog 6 #[.agg (s.map u8v).toArray, .slice A nb cb] w fun e w' => e = .returned (.bool true) ∧ Below w.heap.size w w' := by
  obtain ⟨i0, hi, hz0, hz1, hz2⟩ := info_parts Tryd.info5
  have HLV := Lib.hid hlv
  have HCD := Lib.hid HBL
  have HBG := Lib.hid (fun W (h : LvBlake W) => mc_begun_any HSI HC1 W h)
  have HS := Lib.hid hs
  obtain ⟨kd, hk⟩ : ∃ k, min nb 40 = k := ⟨_, rfl⟩
  have HNW := Lib.hid (caseNew_any A nb cb 40 kd (by omega) hnc hcm hk)
  have HNUM := Lib.hid (show kd ≤ nb ∧ kd ≤ 40 ∧ kd ≤ cb from by omega)
  have HR := Lib.hid (hrb.take (m := kd) (by omega))
  obtain ⟨l, hl⟩ : ∃ z, lb.take kd = z := ⟨_, rfl⟩
  rw [hl] at HR
  have hee := end_cells l 0
  have hok := codeA_ok l 0
  have hr : bigV l (codeAP l 0) % 65535 < 65535 := Nat.mod_lt _ (by omega)
  obtain ⟨a, ha⟩ : ∃ z, codeA l 0 = z := ⟨_, rfl⟩
  obtain ⟨r, hrr⟩ : ∃ z, 1 + bigV l (codeAP l 0) % 65535 = z := ⟨_, rfl⟩
  rw [ha] at hee hok
  rw [hrr] at hee
  have hr2 : 1 ≤ r ∧ r < 65536 := by omega
  have HEE := Lib.hid hee
  have hq : IntKind.u64.wrap (r : Int) = (r : Int) := by rw [IntKind.wrap_u64]; omega
  have hco := HCK s hs a hok (r : Int) r hq (by omega)
  have hme : (cookieB s a r).length = 16 := cookieB_length _ _ _
  obtain ⟨mt, hmt⟩ : ∃ z, cookieB s a r = z := ⟨_, rfl⟩
  rw [hmt] at hco hme
  obtain ⟨cs, hcs⟩ : ∃ z, (s.map u8v).toArray = z := ⟨_, rfl⟩
  obtain ⟨ce, hce⟩ : ∃ z, (endC a (r : Int)).toArray = z := ⟨_, rfl⟩
  obtain ⟨cmt, hcmt⟩ : ∃ z, (mt.map u8v).toArray = z := ⟨_, rfl⟩
  have het := fun w' : World => run_tag_eq mt hme w'
  rw [hcs, hce, hcmt] at hco
  rw [hcmt] at het
  have HCO := Lib.hid hco
  have HET := Lib.hid het
  have HCS := Lib.hid hcs
  have HCE := Lib.hid hce
  have HCM := Lib.hid hcmt
  have HOK := Lib.hid hok
  have hel : (endC a (r : Int)).length = 18 := by rw [endC, List.length_append, AddrM.cells_length hok]; rfl
  have HEL := Lib.hid hel
  have HUE := Lib.hid (show (Tryd.prog.info? 29).map (·.size) = some (endC a (r : Int)).length from by rw [hel]; kernel_rfl)
  have HONE := Lib.hid (show ∀ v ∈ endC a (r : Int), v.oneCell' = true from by
    intro v hv
    rcases List.mem_append.1 hv with hv | hv
    · exact AddrM.one _ v hv
    · rw [List.mem_singleton.1 hv]; rfl)
  have hbg := big_two r
  obtain ⟨x1, hx1⟩ : ∃ z, UInt8.ofNat (r / 256) = z := ⟨_, rfl⟩
  obtain ⟨x2, hx2⟩ : ∃ z, UInt8.ofNat r = z := ⟨_, rfl⟩
  have v1 : x1.toNat = r / 256 % 256 := by rw [← hx1, UInt8.toNat_ofNat']
  have v2 : x2.toNat = r % 256 := by rw [← hx2, UInt8.toNat_ofNat']
  rw [hx1, hx2] at hbg
  have HCV1 := Lib.hid (show IntKind.u8.wrap ((r : Int) / 256) = (x1.toNat : Int) from by rw [IntKind.wrap_u8, v1]; omega)
  have HCV2 := Lib.hid (show IntKind.u8.wrap (r : Int) = (x2.toNat : Int) from by rw [IntKind.wrap_u8, v2]; omega)
  rw [hcs]
  have HM := Lib.hid (show Mem w [blkE w.heap.size 23 (s.map u8v)] (w.alloc (.cells cs 23)) from (Mem.nil w).alloc rfl 23 cs (s.map u8v) hcs.symm)
  clear hl ha hrr hr hr2 hq hco hme hcs hce hcmt het hel hx1 hx2 v1 v2 hk hnc hcm hrb hlv HSI HC1 HCK HBL hs hee
  go_enter Tryd.func6, Tryd.ntmps6
  go_upto_region 1 with fail
  generalize w.alloc (.cells cs 23) = w1 at HM ⊢
  go_wp2_with fail
  refine (HNW.out w1).mono ?_
  rintro e w2 ⟨rfl, hm2⟩
  have HMC := Lib.hid hm2
  have hcat : CodesAt w2 w1.heap.size A kd cb l w.heap.size 0 := ⟨hm2.blk 0 rfl, (HR.out.below2 (Nat.le_refl _) (HM.out.below hm2.bel).bel), HM.out.size, (hm2.blk 0 rfl).lt, by have := HNUM.out; omega, Nat.zero_le _⟩
  have HCE2 := Lib.hid (caseEndpoint_any w1.heap.size A kd cb l w.heap.size 0 w2 hcat)
  rw [HEE.out, HCE.out] at HCE2
  clear hm2 hcat
  go_wp2_with fail
  refine HCE2.out.mono ?_
  rintro e w2b ⟨rfl, -, hg⟩
  have hb2 : Below w1.heap.size w1 w2b := HMC.out.bel.grown hg HMC.out.bel.size (by intro k hk; injection hk with hk; omega)
  replace HM := Lib.hid (show Mem w [blkE w.heap.size 23 (s.map u8v)] w2b from HM.out.below hb2)
  have HMZ := Lib.hid (show Mem w [blkE w2b.heap.size 29 end0, blkE w.heap.size 23 (s.map u8v)] (w2b.alloc (.cells #[.bool false, .int .u8 0, .int .u8 0, .int .u8 0, .int .u8 0, .int .u8 0, .int .u8 0, .int .u8 0, .int .u8 0, .int .u8 0, .int .u8 0, .int .u8 0, .int .u8 0, .int .u8 0, .int .u8 0, .int .u8 0, .int .u8 0, .int .i64 0] 29)) from HM.out.alloc rfl 29 #[.bool false, .int .u8 0, .int .u8 0, .int .u8 0, .int .u8 0, .int .u8 0, .int .u8 0, .int .u8 0, .int .u8 0, .int .u8 0, .int .u8 0, .int .u8 0, .int .u8 0, .int .u8 0, .int .u8 0, .int .u8 0, .int .u8 0, .int .i64 0] end0 rfl)
  clear hg hb2 HMC HM HCE2 HNW HR
  go_upto_region 3 with (refine wpList_store_blk rfl 29 (.tmp 5) (.tmp 10) rfl w2b.heap.size (endC a (r : Int)) rfl (by show Value.agg ce = _; rw [HCE.out]) 29 end0 (HMZ.out.blk 0 rfl) HUE.out (by rw [HEL.out]; rfl) HONE.out ?_; intro w3 hb3 hg3)
  (try simp only [Act.put])
  have hm3 := HMZ.out.put 0 rfl _ hg3 hb3
  generalize w2b.heap.size = P5 at hm3 ⊢
  have HM := Lib.hid (show Mem w [blkE P5 29 (endC a (r : Int)), blkE w.heap.size 23 (s.map u8v)] w3 from hm3)
  clear hm3 hb3 hg3 HMZ
  have hok := HOK.out
  cases hsix : a.six
  · obtain ⟨L, hL⟩ : ∃ z, a.ip.take 4 ++ [x1, x2] = z := ⟨_, rfl⟩
    have HL := Lib.hid (show codeB s L = mt ∧ L.length = 6 from by
      rw [← hL]
      refine ⟨?_, by rw [List.length_append, List.length_take, hok]; rfl⟩
      rw [← hmt, cookieB, hsix, hbg]; rfl)
    have HBC := Lib.hid (fun (g9 : Nat) (A7 : Option Addr) (c7 : Nat) (h1 : 6 ≤ c7) (h2 : c7 ≤ maxLen) (W : World) (hv : LvBlake W) (hk : Rd W W.heap.size (some ⟨w.heap.size, 0, none⟩) 32 s) (hp : PartsRd W W.heap.size (some ⟨g9, 0, none⟩) [⟨A7, 6, c7, L⟩]) => show Calls Tryd.prog 27 #[.slice (some ⟨w.heap.size, 0, none⟩) 32 32, .slice (some ⟨g9, 0, none⟩) 1 1] W (fun e w' => e = .returned (.agg cmt) ∧ Below W.heap.size W w') from by
      have hfl : flat [⟨A7, 6, c7, L⟩] 1 = L := by simp [flat]
      have h := HCD.out (some ⟨w.heap.size, 0, none⟩) 32 32 s (by omega) (by unfold maxLen; omega) (by omega) 1 (some ⟨g9, 0, none⟩) [⟨A7, 6, c7, L⟩] ⟨by simp, by show (flat _ 1).length ≤ _; rw [hfl, HL.out.2]; omega, by intro x hx; rw [List.mem_singleton.1 hx]; exact ⟨h1, h2⟩⟩ (by simp) (by unfold maxLen; omega) W hv hk hp
      rw [show ([⟨A7, 6, c7, L⟩] : List Part).length = 1 from rfl, hfl, HL.out.1, HCM.out] at h
      exact h)
    clear hmt hbg
    have fsix : w3.cell? ⟨P5, 0, none⟩ = some (.bool false) := by have h := (HM.out.blk 0 rfl).cell 0; rwa [endC_six, hsix] at h
    clear hsix hok
    go_upto_region 5 with fail
    clear fsix
    have HB := Lib.hid HM.out.fix
    clear HM
    have HM := HB
    clear HB
    generalize hBB : w3.heap.size = B at HM
    clear hBB
    go_cut [7] (fun v7 wx => ∃ A7 c7, v7 = .slice A7 6 c7 ∧ 6 ≤ c7 ∧ c7 ≤ maxLen ∧ Lows w [rdL A7 6 L, blkL P5 29 (endC a (r : Int)), blkL w.heap.size 23 (s.map u8v)] wx)
    case first =>
      refine wp_region_held_drew (S := fun W' => Blk W' P5 29 (endC a (r : Int))) (by kernel_rfl) ((HM.out.below ((Below.refl _ _).drew)).mem.blk 0 rfl) (fun hHeld => ?_)
      replace HM := Lib.hid (MemB.below HM.out ((Below.refl _ w3).drew))
      generalize w3.drew = wd1 at HM hHeld ⊢
      refine take_first (v := ?_) 0 rfl (by kernel_rfl) (by kernel_rfl) (by kernel_rfl) (fun _ _ _ h => h) (Or.inl ⟨by rfl, ?_⟩) (by assumption) ?_
      rotate_left
      · (intro w hSw; (try dsimp only at hSw); go_simp; try with_reducible rfl)
      (try simp only [Act.put, List.setIfInBounds_toArray, List.set_cons_zero, List.set_cons_succ])
      refine take_first (v := ?_) 1 rfl (by kernel_rfl) (by kernel_rfl) (by kernel_rfl) (fun _ _ _ h => h) (Or.inl ⟨by rfl, ?_⟩) (by assumption) ?_
      rotate_left
      · (intro w hSw; (try dsimp only at hSw); go_simp; try with_reducible rfl)
      (try simp only [Act.put, List.setIfInBounds_toArray, List.set_cons_zero, List.set_cons_succ])
      refine take_first (v := ?_) 2 rfl (by kernel_rfl) (by kernel_rfl) (by kernel_rfl) (fun _ _ _ h => h) (Or.inl ⟨by rfl, ?_⟩) (by assumption) ?_
      rotate_left
      · (intro w hSw; (try dsimp only at hSw); go_simp; try with_reducible rfl)
      (try simp only [Act.put, List.setIfInBounds_toArray, List.set_cons_zero, List.set_cons_succ])
      refine take_first (v := ?_) 3 rfl (by kernel_rfl) (by kernel_rfl) (by kernel_rfl) (fun _ _ _ h => h) (Or.inl ⟨by rfl, ?_⟩) (by assumption) ?_
      rotate_left
      · (intro w hSw; (try dsimp only at hSw); go_simp; try with_reducible rfl)
      (try simp only [Act.put, List.setIfInBounds_toArray, List.set_cons_zero, List.set_cons_succ])
      refine take_first (v := ?_) 5 rfl (by kernel_rfl) (by kernel_rfl) (by kernel_rfl) (fun _ _ _ h => h) (Or.inl ⟨by rfl, ?_⟩) (by assumption) ?_
      rotate_left
      · (intro w hSw; (try dsimp only at hSw); go_simp; try with_reducible rfl)
      (try simp only [Act.put, List.setIfInBounds_toArray, List.set_cons_zero, List.set_cons_succ])
      refine take_first (v := ?_) 6 rfl (by kernel_rfl) (by kernel_rfl) (by kernel_rfl) (fun _ _ _ h => h) (Or.inl ⟨by rfl, ?_⟩) (by assumption) ?_
      rotate_left
      · (intro w hSw; (try dsimp only at hSw); have fl := Blk.cell hSw 17; rw [endC_port HOK.out] at fl; go_simp; try with_reducible rfl)
      (try simp only [Act.put, List.setIfInBounds_toArray, List.set_cons_zero, List.set_cons_succ])
      refine take_first (v := ?_) 7 rfl (by kernel_rfl) (by kernel_rfl) (by kernel_rfl) (fun _ _ _ h => h) (Or.inl ⟨by rfl, ?_⟩) (by assumption) ?_
      rotate_left
      · (intro w hSw; (try dsimp only at hSw); go_simp; try with_reducible rfl)
      (try simp only [Act.put, List.setIfInBounds_toArray, List.set_cons_zero, List.set_cons_succ])
      refine take_first (v := ?_) 8 rfl (by kernel_rfl) (by kernel_rfl) (by kernel_rfl) (fun _ _ _ h => h) (Or.inl ⟨by rfl, ?_⟩) (by assumption) ?_
      rotate_left
      · (intro w hSw; (try dsimp only at hSw); have hs := HCV1.out; go_simp; try with_reducible rfl)
      (try simp only [Act.put, List.setIfInBounds_toArray, List.set_cons_zero, List.set_cons_succ])
      refine take_first (v := ?_) 9 rfl (by kernel_rfl) (by kernel_rfl) (by kernel_rfl) (fun _ _ _ h => h) (Or.inl ⟨by rfl, ?_⟩) (by assumption) ?_
      rotate_left
      · (intro w hSw; (try dsimp only at hSw); go_simp; try with_reducible rfl)
      (try simp only [Act.put, List.setIfInBounds_toArray, List.set_cons_zero, List.set_cons_succ])
      refine take_first (v := ?_) 10 rfl (by kernel_rfl) (by kernel_rfl) (by kernel_rfl) (fun _ _ _ h => h) (Or.inl ⟨by rfl, ?_⟩) (by assumption) ?_
      rotate_left
      · (intro w hSw; (try dsimp only at hSw); have fl := Blk.cell hSw 17; rw [endC_port HOK.out] at fl; go_simp; try with_reducible rfl)
      (try simp only [Act.put, List.setIfInBounds_toArray, List.set_cons_zero, List.set_cons_succ])
      refine take_first (v := ?_) 11 rfl (by kernel_rfl) (by kernel_rfl) (by kernel_rfl) (fun _ _ _ h => h) (Or.inl ⟨by rfl, ?_⟩) (by assumption) ?_
      rotate_left
      · (intro w hSw; (try dsimp only at hSw); have hs := HCV2.out; go_simp; try with_reducible rfl)
      (try simp only [Act.put, List.setIfInBounds_toArray, List.set_cons_zero, List.set_cons_succ])
      refine step_two 4 12 rfl rfl (by kernel_rfl) (fun K hK => ?_) (fun K hK => ?_)
      · clear hHeld
        refine step_append_rd _ (by rfl) (.const (.slice none 0 0)) (.tmp 17) 24 rfl B 5 i0 (.int .u8 0) Tryd.underlying24 hi hz0 hz1 hz2 rfl (.slice none 0 0) 0 [] rfl (World.ownsRow_nil _ _ _ _) _ (some ⟨P5, 1, none⟩) 4 16 (a.ip.take 4) rfl (((end_rd (HM.out.mem.blk 0 rfl) HOK.out).mono (HM.out.mem.blk 0 rfl).lt).take (m := 4) (by omega)) (by omega) HM.out.2.2 ?_
        intro v4 wy2 hown hg
        have HO := Lib.hid (show wy2.ownsRow B 5 1 v4 4 ((a.ip.take 4).map u8v) from by have h := hown; simp only [Nat.zero_add, List.nil_append] at h; exact h)
        replace HM := Lib.hid (HM.out.grown (World.ownsRow_nil wd1 B 5 1) hg)
        clear hown hg
        refine hK.out _ _ (HM.out.mem.blk 0 rfl) (fun hHeld => ?_)
        clear hK K
        (try simp only [Act.put, List.setIfInBounds_toArray, List.set_cons_zero, List.set_cons_succ])
        refine step_one 12 rfl (by kernel_rfl) (fun K hK => ?_)
        clear hHeld
        go_simp
        have hnb : Blk (wy2.alloc (.cells #[.int .u8 (x1.toNat : Int), .int .u8 (x2.toNat : Int)] 5)) wy2.heap.size 5 ([x1, x2].map u8v) := Blk.new wy2 5 ([x1, x2].map u8v)
        have HN := Lib.hid hnb
        replace HO := Lib.hid (own_below HO.out ((Below.refl _ _).alloc (Nat.le_refl wy2.heap.size) (.cells #[.int .u8 (x1.toNat : Int), .int .u8 (x2.toNat : Int)] 5)))
        replace HM := Lib.hid (show MemB w B [blkE P5 29 (endC a (r : Int)), blkE w.heap.size 23 (s.map u8v)] (wy2.alloc (.cells #[.int .u8 (x1.toNat : Int), .int .u8 (x2.toNat : Int)] 5)) from HM.out.below ((Below.refl _ _).alloc HM.out.2.2 _))
        generalize wy2.alloc (.cells #[.int .u8 (x1.toNat : Int), .int .u8 (x2.toNat : Int)] 5) = wy3 at HM HN HO ⊢
        generalize wy2.heap.size = gN at HN ⊢
        clear hnb
        refine hK.out _ _ (HM.out.mem.blk 0 rfl) (fun hHeld => ?_)
        clear hK K
        (try simp only [Act.put, List.setIfInBounds_toArray, List.set_cons_zero, List.set_cons_succ])
        refine step_one 13 rfl (by kernel_rfl) (fun K hK => ?_)
        clear hHeld
        refine step_append_rd _ (by rfl) (.tmp 18) (.tmp 26) 24 rfl B 5 i0 (.int .u8 0) Tryd.underlying24 hi hz0 hz1 hz2 rfl v4 4 ((a.ip.take 4).map u8v) rfl HO.out _ (some ⟨gN, 0, none⟩) 2 2 [x1, x2] rfl (blk_all HN.out rfl) (by omega) HM.out.2.2 ?_
        intro v7 wy4 hown hg
        replace HM := Lib.hid (HM.out.grown HO.out hg)
        replace HO := Lib.hid (show wy4.ownsRow B 5 1 v7 6 (((a.ip.take 4) ++ [x1, x2]).map u8v) from by have h := hown; rw [← List.map_append] at h; exact h)
        clear hown hg HN
        refine hK.out _ _ (HM.out.mem.blk 0 rfl) (fun hHeld => ?_)
        clear hK K
        (try simp only [Act.put, List.setIfInBounds_toArray, List.set_cons_zero, List.set_cons_succ])
        refine take_first (v := ?_) 14 rfl (by kernel_rfl) (by kernel_rfl) (by kernel_rfl) (fun _ _ _ h => h) (Or.inl ⟨by rfl, ?_⟩) (by assumption) ?_
        rotate_left
        · (intro w hSw; (try dsimp only at hSw); go_simp; try with_reducible rfl)
        (try simp only [Act.put, List.setIfInBounds_toArray, List.set_cons_zero, List.set_cons_succ])
        refine wpAnyH_done (by kernel_rfl) ?_ _
        clear hHeld
        go_wp2_with fail
        obtain ⟨A7, c7, rfl, -⟩ := own_slice HO.out
        go_meet
        exact ⟨A7, c7, rfl, (own_addr HO.out).1, (own_addr HO.out).2.1, ((((Lows.nil w).below HM.out.mem.bel).cons (blkL w.heap.size 23 (s.map u8v)) (HM.out.mem.blk 1 rfl)).cons (blkL P5 29 (endC a (r : Int))) (HM.out.mem.blk 0 rfl)).cons (rdL A7 6 L) (by rw [← hL]; exact Rd.of_own HO.out)⟩
      · clear hHeld
        go_simp
        have hnb : Blk (wd1.alloc (.cells #[.int .u8 (x1.toNat : Int), .int .u8 (x2.toNat : Int)] 5)) wd1.heap.size 5 ([x1, x2].map u8v) := Blk.new wd1 5 ([x1, x2].map u8v)
        have HN := Lib.hid hnb
        replace HM := Lib.hid (show MemB w B [blkE P5 29 (endC a (r : Int)), blkE w.heap.size 23 (s.map u8v)] (wd1.alloc (.cells #[.int .u8 (x1.toNat : Int), .int .u8 (x2.toNat : Int)] 5)) from HM.out.below ((Below.refl _ _).alloc HM.out.2.2 _))
        generalize wd1.alloc (.cells #[.int .u8 (x1.toNat : Int), .int .u8 (x2.toNat : Int)] 5) = wy2 at HM HN ⊢
        generalize wd1.heap.size = gN at HN ⊢
        clear hnb
        refine hK.out _ _ (HM.out.mem.blk 0 rfl) (fun hHeld => ?_)
        clear hK K
        (try simp only [Act.put, List.setIfInBounds_toArray, List.set_cons_zero, List.set_cons_succ])
        refine step_one 4 rfl (by kernel_rfl) (fun K hK => ?_)
        clear hHeld
        refine step_append_rd _ (by rfl) (.const (.slice none 0 0)) (.tmp 17) 24 rfl B 5 i0 (.int .u8 0) Tryd.underlying24 hi hz0 hz1 hz2 rfl (.slice none 0 0) 0 [] rfl (World.ownsRow_nil _ _ _ _) _ (some ⟨P5, 1, none⟩) 4 16 (a.ip.take 4) rfl (((end_rd (HM.out.mem.blk 0 rfl) HOK.out).mono (HM.out.mem.blk 0 rfl).lt).take (m := 4) (by omega)) (by omega) HM.out.2.2 ?_
        intro v4 wy3 hown hg
        have HO := Lib.hid (show wy3.ownsRow B 5 1 v4 4 ((a.ip.take 4).map u8v) from by have h := hown; simp only [Nat.zero_add, List.nil_append] at h; exact h)
        replace HN := Lib.hid (HN.out.below ((Below.refl _ _).grown hg (Nat.le_refl _) (by intro k hk; cases hk)) HN.out.lt)
        replace HM := Lib.hid (HM.out.grown (World.ownsRow_nil wy2 B 5 1) hg)
        clear hown hg
        refine hK.out _ _ (HM.out.mem.blk 0 rfl) (fun hHeld => ?_)
        clear hK K
        (try simp only [Act.put, List.setIfInBounds_toArray, List.set_cons_zero, List.set_cons_succ])
        refine step_one 13 rfl (by kernel_rfl) (fun K hK => ?_)
        clear hHeld
        refine step_append_rd _ (by rfl) (.tmp 18) (.tmp 26) 24 rfl B 5 i0 (.int .u8 0) Tryd.underlying24 hi hz0 hz1 hz2 rfl v4 4 ((a.ip.take 4).map u8v) rfl HO.out _ (some ⟨gN, 0, none⟩) 2 2 [x1, x2] rfl (blk_all HN.out rfl) (by omega) HM.out.2.2 ?_
        intro v7 wy4 hown hg
        replace HM := Lib.hid (HM.out.grown HO.out hg)
        replace HO := Lib.hid (show wy4.ownsRow B 5 1 v7 6 (((a.ip.take 4) ++ [x1, x2]).map u8v) from by have h := hown; rw [← List.map_append] at h; exact h)
        clear hown hg HN
        refine hK.out _ _ (HM.out.mem.blk 0 rfl) (fun hHeld => ?_)
        clear hK K
        (try simp only [Act.put, List.setIfInBounds_toArray, List.set_cons_zero, List.set_cons_succ])
        refine take_first (v := ?_) 14 rfl (by kernel_rfl) (by kernel_rfl) (by kernel_rfl) (fun _ _ _ h => h) (Or.inl ⟨by rfl, ?_⟩) (by assumption) ?_
        rotate_left
        · (intro w hSw; (try dsimp only at hSw); go_simp; try with_reducible rfl)
        (try simp only [Act.put, List.setIfInBounds_toArray, List.set_cons_zero, List.set_cons_succ])
        refine wpAnyH_done (by kernel_rfl) ?_ _
        clear hHeld
        go_wp2_with fail
        obtain ⟨A7, c7, rfl, -⟩ := own_slice HO.out
        go_meet
        exact ⟨A7, c7, rfl, (own_addr HO.out).1, (own_addr HO.out).2.1, ((((Lows.nil w).below HM.out.mem.bel).cons (blkL w.heap.size 23 (s.map u8v)) (HM.out.mem.blk 1 rfl)).cons (blkL P5 29 (endC a (r : Int))) (HM.out.mem.blk 0 rfl)).cons (rdL A7 6 L) (by rw [← hL]; exact Rd.of_own HO.out)⟩
    case rest =>
      clear HM
      revert wc
      intro w6 hcut
      obtain ⟨A7, c7, rfl, h71, h72, hM⟩ := hcut
      have HM := Lib.hid hM
      have HC7 := Lib.hid (And.intro h71 h72)
      clear hM h71 h72
      go_upto_region 6 with fail
      refine wp_region_held_drew (S := fun W' => Lows w [rdL A7 6 L, blkL P5 29 (endC a (r : Int)), blkL w.heap.size 23 (s.map u8v)] W') (by kernel_rfl) (HM.out.drew) (fun hHeld => ?_)
      replace HM := Lib.hid HM.out.drew
      generalize w6.drew = wd1 at HM hHeld ⊢
      refine take_first (v := .agg cs) 0 rfl (by kernel_rfl) (by kernel_rfl) (by kernel_rfl) (fun _ _ _ h => h) (by rw [← HCS.out]; exact yields_load_obj (by rfl) 23 (.tmp 2) rfl w.heap.size 0 rfl (s.map u8v) (fun w' hb => (Lows.blk hb 2 rfl).all) _ Tryd.underlying23 rfl (cells32 s HS.out)) (by assumption) ?_
      (try simp only [Act.put, List.setIfInBounds_toArray, List.set_cons_zero, List.set_cons_succ])
      refine take_first (v := .agg ce) 1 rfl (by kernel_rfl) (by kernel_rfl) (by kernel_rfl) (fun _ _ _ h => h) (by rw [← HCE.out]; exact yields_load_obj (by rfl) 29 (.tmp 5) rfl P5 0 rfl (endC a (r : Int)) (fun w' hb => (Lows.blk hb 1 rfl).all) _ Tryd.underlying29 rfl HUE.out) (by assumption) ?_
      (try simp only [Act.put, List.setIfInBounds_toArray, List.set_cons_zero, List.set_cons_succ])
      refine take_first (v := ?_) 3 rfl (by kernel_rfl) (by kernel_rfl) (by kernel_rfl) (fun _ _ _ h => h) (Or.inl ⟨by rfl, ?_⟩) (by assumption) ?_
      rotate_left
      · (intro w hSw; (try dsimp only at hSw); go_simp; try with_reducible rfl)
      (try simp only [Act.put, List.setIfInBounds_toArray, List.set_cons_zero, List.set_cons_succ])
      refine take_first (v := ?_) 4 rfl (by kernel_rfl) (by kernel_rfl) (by kernel_rfl) (fun _ _ _ h => h) (Or.inl ⟨by rfl, ?_⟩) (by assumption) ?_
      rotate_left
      · (intro w hSw; (try dsimp only at hSw); go_simp; try with_reducible rfl)
      (try simp only [Act.put, List.setIfInBounds_toArray, List.set_cons_zero, List.set_cons_succ])
      refine step_two 2 5 rfl rfl (by kernel_rfl) (fun K hK => ?_) (fun K hK => ?_)
      · clear hHeld
        go_simp
        refine (HCO.out _ (HLV.out.below HM.out.bel)).mono ?_
        rintro e wy2 ⟨rfl, hb⟩
        replace HM := Lib.hid (show Lows w [rdL A7 6 L, blkL P5 29 (endC a (r : Int)), blkL w.heap.size 23 (s.map u8v)] wy2 from HM.out.below hb)
        clear hb
        go_wp2_with fail
        refine hK.out _ _ (HM.out) (fun hHeld => ?_)
        clear hK K
        (try simp only [Act.put, List.setIfInBounds_toArray, List.set_cons_zero, List.set_cons_succ])
        refine step_one 5 rfl (by kernel_rfl) (fun K hK => ?_)
        clear hHeld
        go_simp
        have hm9 := HM.out.alloc 24 #[.slice A7 6 c7] ([.slice A7 6 c7]) rfl
        generalize wy2.alloc (.cells #[.slice A7 6 c7] 24) = wy3 at hm9 ⊢
        generalize wy2.heap.size = g9 at hm9 ⊢
        replace HM := Lib.hid (show Lows w [blkL g9 24 ([.slice A7 6 c7]), rdL A7 6 L, blkL P5 29 (endC a (r : Int)), blkL w.heap.size 23 (s.map u8v)] wy3 from hm9)
        clear hm9
        refine hK.out _ _ (HM.out.tail 0) (fun hHeld => ?_)
        clear hK K
        (try simp only [Act.put, List.setIfInBounds_toArray, List.set_cons_zero, List.set_cons_succ])
        refine wpAnyH_stronger (T := fun W' => Lows w [blkL g9 24 ([.slice A7 6 c7]), rdL A7 6 L, blkL P5 29 (endC a (r : Int)), blkL w.heap.size 23 (s.map u8v)] W') (fun _ h' => (h'.tail 0)) _ _ _ _ ?_
        replace hHeld := HM.out
        refine step_one 6 rfl (by kernel_rfl) (fun K hK => ?_)
        clear hHeld
        go_simp
        have hps := parts_rd (g := g9) (t := 24) (ps := [⟨A7, 6, c7, L⟩]) (HM.out.blk 0 rfl) (by
          intro x hx
          simp only [List.mem_cons, List.not_mem_nil, or_false] at hx
          rcases hx with rfl
          exact HM.out.rd 1 rfl)
        refine (HBC.out g9 A7 c7 HC7.out.1 HC7.out.2 _ (HLV.out.below HM.out.bel) (blk_all (HM.out.blk 3 rfl) HS.out) hps).mono ?_
        rintro e wy4 ⟨rfl, hb⟩
        replace HM := Lib.hid (show Lows w [blkL g9 24 ([.slice A7 6 c7]), rdL A7 6 L, blkL P5 29 (endC a (r : Int)), blkL w.heap.size 23 (s.map u8v)] wy4 from HM.out.below hb)
        clear hb hps
        go_wp2_with fail
        refine hK.out _ _ (HM.out) (fun hHeld => ?_)
        clear hK K
        (try simp only [Act.put, List.setIfInBounds_toArray, List.set_cons_zero, List.set_cons_succ])
        refine take_first (v := ?_) 7 rfl (by kernel_rfl) (by kernel_rfl) (by kernel_rfl) (fun _ _ _ h => h) (Or.inl ⟨by rfl, ?_⟩) (by assumption) ?_
        rotate_left
        · (intro w hSw; (try dsimp only at hSw); have e9 := HET.out w; go_simp; try with_reducible rfl)
        (try simp only [Act.put, List.setIfInBounds_toArray, List.set_cons_zero, List.set_cons_succ])
        refine take_first (v := ?_) 8 rfl (by kernel_rfl) (by kernel_rfl) (by kernel_rfl) (fun _ _ _ h => h) (Or.inl ⟨by rfl, ?_⟩) (by assumption) ?_
        rotate_left
        · (intro w hSw; (try dsimp only at hSw); go_simp; try with_reducible rfl)
        (try simp only [Act.put, List.setIfInBounds_toArray, List.set_cons_zero, List.set_cons_succ])
        refine step_one 9 rfl (by kernel_rfl) (fun K hK => ?_)
        clear hHeld
        go_simp
        refine (HBG.out _ (HLV.out.below HM.out.bel)).mono ?_
        rintro e wy5 ⟨rfl, hb⟩
        replace HM := Lib.hid (show Lows w [blkL g9 24 ([.slice A7 6 c7]), rdL A7 6 L, blkL P5 29 (endC a (r : Int)), blkL w.heap.size 23 (s.map u8v)] wy5 from HM.out.below hb)
        clear hb
        go_wp2_with fail
        refine hK.out _ _ (HM.out) (fun hHeld => ?_)
        clear hK K
        (try simp only [Act.put, List.setIfInBounds_toArray, List.set_cons_zero, List.set_cons_succ])
        refine take_first (v := ?_) 10 rfl (by kernel_rfl) (by kernel_rfl) (by kernel_rfl) (fun _ _ _ h => h) (Or.inl ⟨by rfl, ?_⟩) (by assumption) ?_
        rotate_left
        · (intro w hSw; (try dsimp only at hSw); go_simp; try with_reducible rfl)
        (try simp only [Act.put, List.setIfInBounds_toArray, List.set_cons_zero, List.set_cons_succ])
        refine take_first (v := ?_) 11 rfl (by kernel_rfl) (by kernel_rfl) (by kernel_rfl) (fun _ _ _ h => h) (Or.inl ⟨by rfl, ?_⟩) (by assumption) ?_
        rotate_left
        · (intro w hSw; (try dsimp only at hSw); go_simp; try with_reducible rfl)
        (try simp only [Act.put, List.setIfInBounds_toArray, List.set_cons_zero, List.set_cons_succ])
        refine wpAnyH_done (by kernel_rfl) ?_ _
        have HF := Lib.hid HM.out.bel
        clear HM hHeld
        go_wp2_with fail
        go_ret
        exact ⟨rfl, HF.out⟩
      · clear hHeld
        go_simp
        have hm9 := HM.out.alloc 24 #[.slice A7 6 c7] ([.slice A7 6 c7]) rfl
        generalize wd1.alloc (.cells #[.slice A7 6 c7] 24) = wy2 at hm9 ⊢
        generalize wd1.heap.size = g9 at hm9 ⊢
        replace HM := Lib.hid (show Lows w [blkL g9 24 ([.slice A7 6 c7]), rdL A7 6 L, blkL P5 29 (endC a (r : Int)), blkL w.heap.size 23 (s.map u8v)] wy2 from hm9)
        clear hm9
        refine hK.out _ _ (HM.out.tail 0) (fun hHeld => ?_)
        clear hK K
        (try simp only [Act.put, List.setIfInBounds_toArray, List.set_cons_zero, List.set_cons_succ])
        refine wpAnyH_stronger (T := fun W' => Lows w [blkL g9 24 ([.slice A7 6 c7]), rdL A7 6 L, blkL P5 29 (endC a (r : Int)), blkL w.heap.size 23 (s.map u8v)] W') (fun _ h' => (h'.tail 0)) _ _ _ _ ?_
        replace hHeld := HM.out
        refine step_one 2 rfl (by kernel_rfl) (fun K hK => ?_)
        clear hHeld
        go_simp
        refine (HCO.out _ (HLV.out.below HM.out.bel)).mono ?_
        rintro e wy3 ⟨rfl, hb⟩
        replace HM := Lib.hid (show Lows w [blkL g9 24 ([.slice A7 6 c7]), rdL A7 6 L, blkL P5 29 (endC a (r : Int)), blkL w.heap.size 23 (s.map u8v)] wy3 from HM.out.below hb)
        clear hb
        go_wp2_with fail
        refine hK.out _ _ (HM.out) (fun hHeld => ?_)
        clear hK K
        (try simp only [Act.put, List.setIfInBounds_toArray, List.set_cons_zero, List.set_cons_succ])
        refine step_one 6 rfl (by kernel_rfl) (fun K hK => ?_)
        clear hHeld
        go_simp
        have hps := parts_rd (g := g9) (t := 24) (ps := [⟨A7, 6, c7, L⟩]) (HM.out.blk 0 rfl) (by
          intro x hx
          simp only [List.mem_cons, List.not_mem_nil, or_false] at hx
          rcases hx with rfl
          exact HM.out.rd 1 rfl)
        refine (HBC.out g9 A7 c7 HC7.out.1 HC7.out.2 _ (HLV.out.below HM.out.bel) (blk_all (HM.out.blk 3 rfl) HS.out) hps).mono ?_
        rintro e wy4 ⟨rfl, hb⟩
        replace HM := Lib.hid (show Lows w [blkL g9 24 ([.slice A7 6 c7]), rdL A7 6 L, blkL P5 29 (endC a (r : Int)), blkL w.heap.size 23 (s.map u8v)] wy4 from HM.out.below hb)
        clear hb hps
        go_wp2_with fail
        refine hK.out _ _ (HM.out) (fun hHeld => ?_)
        clear hK K
        (try simp only [Act.put, List.setIfInBounds_toArray, List.set_cons_zero, List.set_cons_succ])
        refine take_first (v := ?_) 7 rfl (by kernel_rfl) (by kernel_rfl) (by kernel_rfl) (fun _ _ _ h => h) (Or.inl ⟨by rfl, ?_⟩) (by assumption) ?_
        rotate_left
        · (intro w hSw; (try dsimp only at hSw); have e9 := HET.out w; go_simp; try with_reducible rfl)
        (try simp only [Act.put, List.setIfInBounds_toArray, List.set_cons_zero, List.set_cons_succ])
        refine take_first (v := ?_) 8 rfl (by kernel_rfl) (by kernel_rfl) (by kernel_rfl) (fun _ _ _ h => h) (Or.inl ⟨by rfl, ?_⟩) (by assumption) ?_
        rotate_left
        · (intro w hSw; (try dsimp only at hSw); go_simp; try with_reducible rfl)
        (try simp only [Act.put, List.setIfInBounds_toArray, List.set_cons_zero, List.set_cons_succ])
        refine step_one 9 rfl (by kernel_rfl) (fun K hK => ?_)
        clear hHeld
        go_simp
        refine (HBG.out _ (HLV.out.below HM.out.bel)).mono ?_
        rintro e wy5 ⟨rfl, hb⟩
        replace HM := Lib.hid (show Lows w [blkL g9 24 ([.slice A7 6 c7]), rdL A7 6 L, blkL P5 29 (endC a (r : Int)), blkL w.heap.size 23 (s.map u8v)] wy5 from HM.out.below hb)
        clear hb
        go_wp2_with fail
        refine hK.out _ _ (HM.out) (fun hHeld => ?_)
        clear hK K
        (try simp only [Act.put, List.setIfInBounds_toArray, List.set_cons_zero, List.set_cons_succ])
        refine take_first (v := ?_) 10 rfl (by kernel_rfl) (by kernel_rfl) (by kernel_rfl) (fun _ _ _ h => h) (Or.inl ⟨by rfl, ?_⟩) (by assumption) ?_
        rotate_left
        · (intro w hSw; (try dsimp only at hSw); go_simp; try with_reducible rfl)
        (try simp only [Act.put, List.setIfInBounds_toArray, List.set_cons_zero, List.set_cons_succ])
        refine take_first (v := ?_) 11 rfl (by kernel_rfl) (by kernel_rfl) (by kernel_rfl) (fun _ _ _ h => h) (Or.inl ⟨by rfl, ?_⟩) (by assumption) ?_
        rotate_left
        · (intro w hSw; (try dsimp only at hSw); go_simp; try with_reducible rfl)
        (try simp only [Act.put, List.setIfInBounds_toArray, List.set_cons_zero, List.set_cons_succ])
        refine wpAnyH_done (by kernel_rfl) ?_ _
        have HF := Lib.hid HM.out.bel
        clear HM hHeld
        go_wp2_with fail
        go_ret
        exact ⟨rfl, HF.out⟩
  · obtain ⟨L, hL⟩ : ∃ z, a.ip.take 16 ++ [x1, x2] = z := ⟨_, rfl⟩
    have HL := Lib.hid (show codeB s L = mt ∧ L.length = 18 from by
      rw [← hL]
      refine ⟨?_, by rw [List.length_append, List.length_take, hok]; rfl⟩
      rw [← hmt, cookieB, hsix, hbg]; rfl)
    have HBC := Lib.hid (fun (g9 : Nat) (A7 : Option Addr) (c7 : Nat) (h1 : 18 ≤ c7) (h2 : c7 ≤ maxLen) (W : World) (hv : LvBlake W) (hk : Rd W W.heap.size (some ⟨w.heap.size, 0, none⟩) 32 s) (hp : PartsRd W W.heap.size (some ⟨g9, 0, none⟩) [⟨A7, 18, c7, L⟩]) => show Calls Tryd.prog 27 #[.slice (some ⟨w.heap.size, 0, none⟩) 32 32, .slice (some ⟨g9, 0, none⟩) 1 1] W (fun e w' => e = .returned (.agg cmt) ∧ Below W.heap.size W w') from by
      have hfl : flat [⟨A7, 18, c7, L⟩] 1 = L := by simp [flat]
      have h := HCD.out (some ⟨w.heap.size, 0, none⟩) 32 32 s (by omega) (by unfold maxLen; omega) (by omega) 1 (some ⟨g9, 0, none⟩) [⟨A7, 18, c7, L⟩] ⟨by simp, by show (flat _ 1).length ≤ _; rw [hfl, HL.out.2]; omega, by intro x hx; rw [List.mem_singleton.1 hx]; exact ⟨h1, h2⟩⟩ (by simp) (by unfold maxLen; omega) W hv hk hp
      rw [show ([⟨A7, 18, c7, L⟩] : List Part).length = 1 from rfl, hfl, HL.out.1, HCM.out] at h
      exact h)
    clear hmt hbg
    have fsix : w3.cell? ⟨P5, 0, none⟩ = some (.bool true) := by have h := (HM.out.blk 0 rfl).cell 0; rwa [endC_six, hsix] at h
    clear hsix hok
    go_upto_region 5 with fail
    clear fsix
    have HB := Lib.hid HM.out.fix
    clear HM
    have HM := HB
    clear HB
    generalize hBB : w3.heap.size = B at HM
    clear hBB
    go_cut [7] (fun v7 wx => ∃ A7 c7, v7 = .slice A7 18 c7 ∧ 18 ≤ c7 ∧ c7 ≤ maxLen ∧ Lows w [rdL A7 18 L, blkL P5 29 (endC a (r : Int)), blkL w.heap.size 23 (s.map u8v)] wx)
    case first =>
      refine wp_region_held_drew (S := fun W' => Blk W' P5 29 (endC a (r : Int))) (by kernel_rfl) ((HM.out.below ((Below.refl _ _).drew)).mem.blk 0 rfl) (fun hHeld => ?_)
      replace HM := Lib.hid (MemB.below HM.out ((Below.refl _ w3).drew))
      generalize w3.drew = wd1 at HM hHeld ⊢
      refine take_first (v := ?_) 0 rfl (by kernel_rfl) (by kernel_rfl) (by kernel_rfl) (fun _ _ _ h => h) (Or.inl ⟨by rfl, ?_⟩) (by assumption) ?_
      rotate_left
      · (intro w hSw; (try dsimp only at hSw); go_simp; try with_reducible rfl)
      (try simp only [Act.put, List.setIfInBounds_toArray, List.set_cons_zero, List.set_cons_succ])
      refine take_first (v := ?_) 1 rfl (by kernel_rfl) (by kernel_rfl) (by kernel_rfl) (fun _ _ _ h => h) (Or.inl ⟨by rfl, ?_⟩) (by assumption) ?_
      rotate_left
      · (intro w hSw; (try dsimp only at hSw); go_simp; try with_reducible rfl)
      (try simp only [Act.put, List.setIfInBounds_toArray, List.set_cons_zero, List.set_cons_succ])
      refine take_first (v := ?_) 2 rfl (by kernel_rfl) (by kernel_rfl) (by kernel_rfl) (fun _ _ _ h => h) (Or.inl ⟨by rfl, ?_⟩) (by assumption) ?_
      rotate_left
      · (intro w hSw; (try dsimp only at hSw); go_simp; try with_reducible rfl)
      (try simp only [Act.put, List.setIfInBounds_toArray, List.set_cons_zero, List.set_cons_succ])
      refine take_first (v := ?_) 3 rfl (by kernel_rfl) (by kernel_rfl) (by kernel_rfl) (fun _ _ _ h => h) (Or.inl ⟨by rfl, ?_⟩) (by assumption) ?_
      rotate_left
      · (intro w hSw; (try dsimp only at hSw); go_simp; try with_reducible rfl)
      (try simp only [Act.put, List.setIfInBounds_toArray, List.set_cons_zero, List.set_cons_succ])
      refine take_first (v := ?_) 5 rfl (by kernel_rfl) (by kernel_rfl) (by kernel_rfl) (fun _ _ _ h => h) (Or.inl ⟨by rfl, ?_⟩) (by assumption) ?_
      rotate_left
      · (intro w hSw; (try dsimp only at hSw); go_simp; try with_reducible rfl)
      (try simp only [Act.put, List.setIfInBounds_toArray, List.set_cons_zero, List.set_cons_succ])
      refine take_first (v := ?_) 6 rfl (by kernel_rfl) (by kernel_rfl) (by kernel_rfl) (fun _ _ _ h => h) (Or.inl ⟨by rfl, ?_⟩) (by assumption) ?_
      rotate_left
      · (intro w hSw; (try dsimp only at hSw); have fl := Blk.cell hSw 17; rw [endC_port HOK.out] at fl; go_simp; try with_reducible rfl)
      (try simp only [Act.put, List.setIfInBounds_toArray, List.set_cons_zero, List.set_cons_succ])
      refine take_first (v := ?_) 7 rfl (by kernel_rfl) (by kernel_rfl) (by kernel_rfl) (fun _ _ _ h => h) (Or.inl ⟨by rfl, ?_⟩) (by assumption) ?_
      rotate_left
      · (intro w hSw; (try dsimp only at hSw); go_simp; try with_reducible rfl)
      (try simp only [Act.put, List.setIfInBounds_toArray, List.set_cons_zero, List.set_cons_succ])
      refine take_first (v := ?_) 8 rfl (by kernel_rfl) (by kernel_rfl) (by kernel_rfl) (fun _ _ _ h => h) (Or.inl ⟨by rfl, ?_⟩) (by assumption) ?_
      rotate_left
      · (intro w hSw; (try dsimp only at hSw); have hs := HCV1.out; go_simp; try with_reducible rfl)
      (try simp only [Act.put, List.setIfInBounds_toArray, List.set_cons_zero, List.set_cons_succ])
      refine take_first (v := ?_) 9 rfl (by kernel_rfl) (by kernel_rfl) (by kernel_rfl) (fun _ _ _ h => h) (Or.inl ⟨by rfl, ?_⟩) (by assumption) ?_
      rotate_left
      · (intro w hSw; (try dsimp only at hSw); go_simp; try with_reducible rfl)
      (try simp only [Act.put, List.setIfInBounds_toArray, List.set_cons_zero, List.set_cons_succ])
      refine take_first (v := ?_) 10 rfl (by kernel_rfl) (by kernel_rfl) (by kernel_rfl) (fun _ _ _ h => h) (Or.inl ⟨by rfl, ?_⟩) (by assumption) ?_
      rotate_left
      · (intro w hSw; (try dsimp only at hSw); have fl := Blk.cell hSw 17; rw [endC_port HOK.out] at fl; go_simp; try with_reducible rfl)
      (try simp only [Act.put, List.setIfInBounds_toArray, List.set_cons_zero, List.set_cons_succ])
      refine take_first (v := ?_) 11 rfl (by kernel_rfl) (by kernel_rfl) (by kernel_rfl) (fun _ _ _ h => h) (Or.inl ⟨by rfl, ?_⟩) (by assumption) ?_
      rotate_left
      · (intro w hSw; (try dsimp only at hSw); have hs := HCV2.out; go_simp; try with_reducible rfl)
      (try simp only [Act.put, List.setIfInBounds_toArray, List.set_cons_zero, List.set_cons_succ])
      refine step_two 4 12 rfl rfl (by kernel_rfl) (fun K hK => ?_) (fun K hK => ?_)
      · clear hHeld
        refine step_append_rd _ (by rfl) (.const (.slice none 0 0)) (.tmp 17) 24 rfl B 5 i0 (.int .u8 0) Tryd.underlying24 hi hz0 hz1 hz2 rfl (.slice none 0 0) 0 [] rfl (World.ownsRow_nil _ _ _ _) _ (some ⟨P5, 1, none⟩) 16 16 (a.ip.take 16) rfl (((end_rd (HM.out.mem.blk 0 rfl) HOK.out).mono (HM.out.mem.blk 0 rfl).lt).take (m := 16) (by omega)) (by omega) HM.out.2.2 ?_
        intro v4 wy2 hown hg
        have HO := Lib.hid (show wy2.ownsRow B 5 1 v4 16 ((a.ip.take 16).map u8v) from by have h := hown; simp only [Nat.zero_add, List.nil_append] at h; exact h)
        replace HM := Lib.hid (HM.out.grown (World.ownsRow_nil wd1 B 5 1) hg)
        clear hown hg
        refine hK.out _ _ (HM.out.mem.blk 0 rfl) (fun hHeld => ?_)
        clear hK K
        (try simp only [Act.put, List.setIfInBounds_toArray, List.set_cons_zero, List.set_cons_succ])
        refine step_one 12 rfl (by kernel_rfl) (fun K hK => ?_)
        clear hHeld
        go_simp
        have hnb : Blk (wy2.alloc (.cells #[.int .u8 (x1.toNat : Int), .int .u8 (x2.toNat : Int)] 5)) wy2.heap.size 5 ([x1, x2].map u8v) := Blk.new wy2 5 ([x1, x2].map u8v)
        have HN := Lib.hid hnb
        replace HO := Lib.hid (own_below HO.out ((Below.refl _ _).alloc (Nat.le_refl wy2.heap.size) (.cells #[.int .u8 (x1.toNat : Int), .int .u8 (x2.toNat : Int)] 5)))
        replace HM := Lib.hid (show MemB w B [blkE P5 29 (endC a (r : Int)), blkE w.heap.size 23 (s.map u8v)] (wy2.alloc (.cells #[.int .u8 (x1.toNat : Int), .int .u8 (x2.toNat : Int)] 5)) from HM.out.below ((Below.refl _ _).alloc HM.out.2.2 _))
        generalize wy2.alloc (.cells #[.int .u8 (x1.toNat : Int), .int .u8 (x2.toNat : Int)] 5) = wy3 at HM HN HO ⊢
        generalize wy2.heap.size = gN at HN ⊢
        clear hnb
        refine hK.out _ _ (HM.out.mem.blk 0 rfl) (fun hHeld => ?_)
        clear hK K
        (try simp only [Act.put, List.setIfInBounds_toArray, List.set_cons_zero, List.set_cons_succ])
        refine step_one 13 rfl (by kernel_rfl) (fun K hK => ?_)
        clear hHeld
        refine step_append_rd _ (by rfl) (.tmp 18) (.tmp 26) 24 rfl B 5 i0 (.int .u8 0) Tryd.underlying24 hi hz0 hz1 hz2 rfl v4 16 ((a.ip.take 16).map u8v) rfl HO.out _ (some ⟨gN, 0, none⟩) 2 2 [x1, x2] rfl (blk_all HN.out rfl) (by omega) HM.out.2.2 ?_
        intro v7 wy4 hown hg
        replace HM := Lib.hid (HM.out.grown HO.out hg)
        replace HO := Lib.hid (show wy4.ownsRow B 5 1 v7 18 (((a.ip.take 16) ++ [x1, x2]).map u8v) from by have h := hown; rw [← List.map_append] at h; exact h)
        clear hown hg HN
        refine hK.out _ _ (HM.out.mem.blk 0 rfl) (fun hHeld => ?_)
        clear hK K
        (try simp only [Act.put, List.setIfInBounds_toArray, List.set_cons_zero, List.set_cons_succ])
        refine take_first (v := ?_) 14 rfl (by kernel_rfl) (by kernel_rfl) (by kernel_rfl) (fun _ _ _ h => h) (Or.inl ⟨by rfl, ?_⟩) (by assumption) ?_
        rotate_left
        · (intro w hSw; (try dsimp only at hSw); go_simp; try with_reducible rfl)
        (try simp only [Act.put, List.setIfInBounds_toArray, List.set_cons_zero, List.set_cons_succ])
        refine wpAnyH_done (by kernel_rfl) ?_ _
        clear hHeld
        go_wp2_with fail
        obtain ⟨A7, c7, rfl, -⟩ := own_slice HO.out
        go_meet
        exact ⟨A7, c7, rfl, (own_addr HO.out).1, (own_addr HO.out).2.1, ((((Lows.nil w).below HM.out.mem.bel).cons (blkL w.heap.size 23 (s.map u8v)) (HM.out.mem.blk 1 rfl)).cons (blkL P5 29 (endC a (r : Int))) (HM.out.mem.blk 0 rfl)).cons (rdL A7 18 L) (by rw [← hL]; exact Rd.of_own HO.out)⟩
      · clear hHeld
        go_simp
        have hnb : Blk (wd1.alloc (.cells #[.int .u8 (x1.toNat : Int), .int .u8 (x2.toNat : Int)] 5)) wd1.heap.size 5 ([x1, x2].map u8v) := Blk.new wd1 5 ([x1, x2].map u8v)
        have HN := Lib.hid hnb
        replace HM := Lib.hid (show MemB w B [blkE P5 29 (endC a (r : Int)), blkE w.heap.size 23 (s.map u8v)] (wd1.alloc (.cells #[.int .u8 (x1.toNat : Int), .int .u8 (x2.toNat : Int)] 5)) from HM.out.below ((Below.refl _ _).alloc HM.out.2.2 _))
        generalize wd1.alloc (.cells #[.int .u8 (x1.toNat : Int), .int .u8 (x2.toNat : Int)] 5) = wy2 at HM HN ⊢
        generalize wd1.heap.size = gN at HN ⊢
        clear hnb
        refine hK.out _ _ (HM.out.mem.blk 0 rfl) (fun hHeld => ?_)
        clear hK K
        (try simp only [Act.put, List.setIfInBounds_toArray, List.set_cons_zero, List.set_cons_succ])
        refine step_one 4 rfl (by kernel_rfl) (fun K hK => ?_)
        clear hHeld
        refine step_append_rd _ (by rfl) (.const (.slice none 0 0)) (.tmp 17) 24 rfl B 5 i0 (.int .u8 0) Tryd.underlying24 hi hz0 hz1 hz2 rfl (.slice none 0 0) 0 [] rfl (World.ownsRow_nil _ _ _ _) _ (some ⟨P5, 1, none⟩) 16 16 (a.ip.take 16) rfl (((end_rd (HM.out.mem.blk 0 rfl) HOK.out).mono (HM.out.mem.blk 0 rfl).lt).take (m := 16) (by omega)) (by omega) HM.out.2.2 ?_
        intro v4 wy3 hown hg
        have HO := Lib.hid (show wy3.ownsRow B 5 1 v4 16 ((a.ip.take 16).map u8v) from by have h := hown; simp only [Nat.zero_add, List.nil_append] at h; exact h)
        replace HN := Lib.hid (HN.out.below ((Below.refl _ _).grown hg (Nat.le_refl _) (by intro k hk; cases hk)) HN.out.lt)
        replace HM := Lib.hid (HM.out.grown (World.ownsRow_nil wy2 B 5 1) hg)
        clear hown hg
        refine hK.out _ _ (HM.out.mem.blk 0 rfl) (fun hHeld => ?_)
        clear hK K
        (try simp only [Act.put, List.setIfInBounds_toArray, List.set_cons_zero, List.set_cons_succ])
        refine step_one 13 rfl (by kernel_rfl) (fun K hK => ?_)
        clear hHeld
        refine step_append_rd _ (by rfl) (.tmp 18) (.tmp 26) 24 rfl B 5 i0 (.int .u8 0) Tryd.underlying24 hi hz0 hz1 hz2 rfl v4 16 ((a.ip.take 16).map u8v) rfl HO.out _ (some ⟨gN, 0, none⟩) 2 2 [x1, x2] rfl (blk_all HN.out rfl) (by omega) HM.out.2.2 ?_
        intro v7 wy4 hown hg
        replace HM := Lib.hid (HM.out.grown HO.out hg)
        replace HO := Lib.hid (show wy4.ownsRow B 5 1 v7 18 (((a.ip.take 16) ++ [x1, x2]).map u8v) from by have h := hown; rw [← List.map_append] at h; exact h)
        clear hown hg HN
        refine hK.out _ _ (HM.out.mem.blk 0 rfl) (fun hHeld => ?_)
        clear hK K
        (try simp only [Act.put, List.setIfInBounds_toArray, List.set_cons_zero, List.set_cons_succ])
        refine take_first (v := ?_) 14 rfl (by kernel_rfl) (by kernel_rfl) (by kernel_rfl) (fun _ _ _ h => h) (Or.inl ⟨by rfl, ?_⟩) (by assumption) ?_
        rotate_left
        · (intro w hSw; (try dsimp only at hSw); go_simp; try with_reducible rfl)
        (try simp only [Act.put, List.setIfInBounds_toArray, List.set_cons_zero, List.set_cons_succ])
        refine wpAnyH_done (by kernel_rfl) ?_ _
        clear hHeld
        go_wp2_with fail
        obtain ⟨A7, c7, rfl, -⟩ := own_slice HO.out
        go_meet
        exact ⟨A7, c7, rfl, (own_addr HO.out).1, (own_addr HO.out).2.1, ((((Lows.nil w).below HM.out.mem.bel).cons (blkL w.heap.size 23 (s.map u8v)) (HM.out.mem.blk 1 rfl)).cons (blkL P5 29 (endC a (r : Int))) (HM.out.mem.blk 0 rfl)).cons (rdL A7 18 L) (by rw [← hL]; exact Rd.of_own HO.out)⟩
    case rest =>
      clear HM
      revert wc
      intro w6 hcut
      obtain ⟨A7, c7, rfl, h71, h72, hM⟩ := hcut
      have HM := Lib.hid hM
      have HC7 := Lib.hid (And.intro h71 h72)
      clear hM h71 h72
      go_upto_region 6 with fail
      refine wp_region_held_drew (S := fun W' => Lows w [rdL A7 18 L, blkL P5 29 (endC a (r : Int)), blkL w.heap.size 23 (s.map u8v)] W') (by kernel_rfl) (HM.out.drew) (fun hHeld => ?_)
      replace HM := Lib.hid HM.out.drew
      generalize w6.drew = wd1 at HM hHeld ⊢
      refine take_first (v := .agg cs) 0 rfl (by kernel_rfl) (by kernel_rfl) (by kernel_rfl) (fun _ _ _ h => h) (by rw [← HCS.out]; exact yields_load_obj (by rfl) 23 (.tmp 2) rfl w.heap.size 0 rfl (s.map u8v) (fun w' hb => (Lows.blk hb 2 rfl).all) _ Tryd.underlying23 rfl (cells32 s HS.out)) (by assumption) ?_
      (try simp only [Act.put, List.setIfInBounds_toArray, List.set_cons_zero, List.set_cons_succ])
      refine take_first (v := .agg ce) 1 rfl (by kernel_rfl) (by kernel_rfl) (by kernel_rfl) (fun _ _ _ h => h) (by rw [← HCE.out]; exact yields_load_obj (by rfl) 29 (.tmp 5) rfl P5 0 rfl (endC a (r : Int)) (fun w' hb => (Lows.blk hb 1 rfl).all) _ Tryd.underlying29 rfl HUE.out) (by assumption) ?_
      (try simp only [Act.put, List.setIfInBounds_toArray, List.set_cons_zero, List.set_cons_succ])
      refine take_first (v := ?_) 3 rfl (by kernel_rfl) (by kernel_rfl) (by kernel_rfl) (fun _ _ _ h => h) (Or.inl ⟨by rfl, ?_⟩) (by assumption) ?_
      rotate_left
      · (intro w hSw; (try dsimp only at hSw); go_simp; try with_reducible rfl)
      (try simp only [Act.put, List.setIfInBounds_toArray, List.set_cons_zero, List.set_cons_succ])
      refine take_first (v := ?_) 4 rfl (by kernel_rfl) (by kernel_rfl) (by kernel_rfl) (fun _ _ _ h => h) (Or.inl ⟨by rfl, ?_⟩) (by assumption) ?_
      rotate_left
      · (intro w hSw; (try dsimp only at hSw); go_simp; try with_reducible rfl)
      (try simp only [Act.put, List.setIfInBounds_toArray, List.set_cons_zero, List.set_cons_succ])
      refine step_two 2 5 rfl rfl (by kernel_rfl) (fun K hK => ?_) (fun K hK => ?_)
      · clear hHeld
        go_simp
        refine (HCO.out _ (HLV.out.below HM.out.bel)).mono ?_
        rintro e wy2 ⟨rfl, hb⟩
        replace HM := Lib.hid (show Lows w [rdL A7 18 L, blkL P5 29 (endC a (r : Int)), blkL w.heap.size 23 (s.map u8v)] wy2 from HM.out.below hb)
        clear hb
        go_wp2_with fail
        refine hK.out _ _ (HM.out) (fun hHeld => ?_)
        clear hK K
        (try simp only [Act.put, List.setIfInBounds_toArray, List.set_cons_zero, List.set_cons_succ])
        refine step_one 5 rfl (by kernel_rfl) (fun K hK => ?_)
        clear hHeld
        go_simp
        have hm9 := HM.out.alloc 24 #[.slice A7 18 c7] ([.slice A7 18 c7]) rfl
        generalize wy2.alloc (.cells #[.slice A7 18 c7] 24) = wy3 at hm9 ⊢
        generalize wy2.heap.size = g9 at hm9 ⊢
        replace HM := Lib.hid (show Lows w [blkL g9 24 ([.slice A7 18 c7]), rdL A7 18 L, blkL P5 29 (endC a (r : Int)), blkL w.heap.size 23 (s.map u8v)] wy3 from hm9)
        clear hm9
        refine hK.out _ _ (HM.out.tail 0) (fun hHeld => ?_)
        clear hK K
        (try simp only [Act.put, List.setIfInBounds_toArray, List.set_cons_zero, List.set_cons_succ])
        refine wpAnyH_stronger (T := fun W' => Lows w [blkL g9 24 ([.slice A7 18 c7]), rdL A7 18 L, blkL P5 29 (endC a (r : Int)), blkL w.heap.size 23 (s.map u8v)] W') (fun _ h' => (h'.tail 0)) _ _ _ _ ?_
        replace hHeld := HM.out
        refine step_one 6 rfl (by kernel_rfl) (fun K hK => ?_)
        clear hHeld
        go_simp
        have hps := parts_rd (g := g9) (t := 24) (ps := [⟨A7, 18, c7, L⟩]) (HM.out.blk 0 rfl) (by
          intro x hx
          simp only [List.mem_cons, List.not_mem_nil, or_false] at hx
          rcases hx with rfl
          exact HM.out.rd 1 rfl)
        refine (HBC.out g9 A7 c7 HC7.out.1 HC7.out.2 _ (HLV.out.below HM.out.bel) (blk_all (HM.out.blk 3 rfl) HS.out) hps).mono ?_
        rintro e wy4 ⟨rfl, hb⟩
        replace HM := Lib.hid (show Lows w [blkL g9 24 ([.slice A7 18 c7]), rdL A7 18 L, blkL P5 29 (endC a (r : Int)), blkL w.heap.size 23 (s.map u8v)] wy4 from HM.out.below hb)
        clear hb hps
        go_wp2_with fail
        refine hK.out _ _ (HM.out) (fun hHeld => ?_)
        clear hK K
        (try simp only [Act.put, List.setIfInBounds_toArray, List.set_cons_zero, List.set_cons_succ])
        refine take_first (v := ?_) 7 rfl (by kernel_rfl) (by kernel_rfl) (by kernel_rfl) (fun _ _ _ h => h) (Or.inl ⟨by rfl, ?_⟩) (by assumption) ?_
        rotate_left
        · (intro w hSw; (try dsimp only at hSw); have e9 := HET.out w; go_simp; try with_reducible rfl)
        (try simp only [Act.put, List.setIfInBounds_toArray, List.set_cons_zero, List.set_cons_succ])
        refine take_first (v := ?_) 8 rfl (by kernel_rfl) (by kernel_rfl) (by kernel_rfl) (fun _ _ _ h => h) (Or.inl ⟨by rfl, ?_⟩) (by assumption) ?_
        rotate_left
        · (intro w hSw; (try dsimp only at hSw); go_simp; try with_reducible rfl)
        (try simp only [Act.put, List.setIfInBounds_toArray, List.set_cons_zero, List.set_cons_succ])
        refine step_one 9 rfl (by kernel_rfl) (fun K hK => ?_)
        clear hHeld
        go_simp
        refine (HBG.out _ (HLV.out.below HM.out.bel)).mono ?_
        rintro e wy5 ⟨rfl, hb⟩
        replace HM := Lib.hid (show Lows w [blkL g9 24 ([.slice A7 18 c7]), rdL A7 18 L, blkL P5 29 (endC a (r : Int)), blkL w.heap.size 23 (s.map u8v)] wy5 from HM.out.below hb)
        clear hb
        go_wp2_with fail
        refine hK.out _ _ (HM.out) (fun hHeld => ?_)
        clear hK K
        (try simp only [Act.put, List.setIfInBounds_toArray, List.set_cons_zero, List.set_cons_succ])
        refine take_first (v := ?_) 10 rfl (by kernel_rfl) (by kernel_rfl) (by kernel_rfl) (fun _ _ _ h => h) (Or.inl ⟨by rfl, ?_⟩) (by assumption) ?_
        rotate_left
        · (intro w hSw; (try dsimp only at hSw); go_simp; try with_reducible rfl)
        (try simp only [Act.put, List.setIfInBounds_toArray, List.set_cons_zero, List.set_cons_succ])
        refine take_first (v := ?_) 11 rfl (by kernel_rfl) (by kernel_rfl) (by kernel_rfl) (fun _ _ _ h => h) (Or.inl ⟨by rfl, ?_⟩) (by assumption) ?_
        rotate_left
        · (intro w hSw; (try dsimp only at hSw); go_simp; try with_reducible rfl)
        (try simp only [Act.put, List.setIfInBounds_toArray, List.set_cons_zero, List.set_cons_succ])
        refine wpAnyH_done (by kernel_rfl) ?_ _
        have HF := Lib.hid HM.out.bel
        clear HM hHeld
        go_wp2_with fail
        go_ret
        exact ⟨rfl, HF.out⟩
      · clear hHeld
        go_simp
        have hm9 := HM.out.alloc 24 #[.slice A7 18 c7] ([.slice A7 18 c7]) rfl
        generalize wd1.alloc (.cells #[.slice A7 18 c7] 24) = wy2 at hm9 ⊢
        generalize wd1.heap.size = g9 at hm9 ⊢
        replace HM := Lib.hid (show Lows w [blkL g9 24 ([.slice A7 18 c7]), rdL A7 18 L, blkL P5 29 (endC a (r : Int)), blkL w.heap.size 23 (s.map u8v)] wy2 from hm9)
        clear hm9
        refine hK.out _ _ (HM.out.tail 0) (fun hHeld => ?_)
        clear hK K
        (try simp only [Act.put, List.setIfInBounds_toArray, List.set_cons_zero, List.set_cons_succ])
        refine wpAnyH_stronger (T := fun W' => Lows w [blkL g9 24 ([.slice A7 18 c7]), rdL A7 18 L, blkL P5 29 (endC a (r : Int)), blkL w.heap.size 23 (s.map u8v)] W') (fun _ h' => (h'.tail 0)) _ _ _ _ ?_
        replace hHeld := HM.out
        refine step_one 2 rfl (by kernel_rfl) (fun K hK => ?_)
        clear hHeld
        go_simp
        refine (HCO.out _ (HLV.out.below HM.out.bel)).mono ?_
        rintro e wy3 ⟨rfl, hb⟩
        replace HM := Lib.hid (show Lows w [blkL g9 24 ([.slice A7 18 c7]), rdL A7 18 L, blkL P5 29 (endC a (r : Int)), blkL w.heap.size 23 (s.map u8v)] wy3 from HM.out.below hb)
        clear hb
        go_wp2_with fail
        refine hK.out _ _ (HM.out) (fun hHeld => ?_)
        clear hK K
        (try simp only [Act.put, List.setIfInBounds_toArray, List.set_cons_zero, List.set_cons_succ])
        refine step_one 6 rfl (by kernel_rfl) (fun K hK => ?_)
        clear hHeld
        go_simp
        have hps := parts_rd (g := g9) (t := 24) (ps := [⟨A7, 18, c7, L⟩]) (HM.out.blk 0 rfl) (by
          intro x hx
          simp only [List.mem_cons, List.not_mem_nil, or_false] at hx
          rcases hx with rfl
          exact HM.out.rd 1 rfl)
        refine (HBC.out g9 A7 c7 HC7.out.1 HC7.out.2 _ (HLV.out.below HM.out.bel) (blk_all (HM.out.blk 3 rfl) HS.out) hps).mono ?_
        rintro e wy4 ⟨rfl, hb⟩
        replace HM := Lib.hid (show Lows w [blkL g9 24 ([.slice A7 18 c7]), rdL A7 18 L, blkL P5 29 (endC a (r : Int)), blkL w.heap.size 23 (s.map u8v)] wy4 from HM.out.below hb)
        clear hb hps
        go_wp2_with fail
        refine hK.out _ _ (HM.out) (fun hHeld => ?_)
        clear hK K
        (try simp only [Act.put, List.setIfInBounds_toArray, List.set_cons_zero, List.set_cons_succ])
        refine take_first (v := ?_) 7 rfl (by kernel_rfl) (by kernel_rfl) (by kernel_rfl) (fun _ _ _ h => h) (Or.inl ⟨by rfl, ?_⟩) (by assumption) ?_
        rotate_left
        · (intro w hSw; (try dsimp only at hSw); have e9 := HET.out w; go_simp; try with_reducible rfl)
        (try simp only [Act.put, List.setIfInBounds_toArray, List.set_cons_zero, List.set_cons_succ])
        refine take_first (v := ?_) 8 rfl (by kernel_rfl) (by kernel_rfl) (by kernel_rfl) (fun _ _ _ h => h) (Or.inl ⟨by rfl, ?_⟩) (by assumption) ?_
        rotate_left
        · (intro w hSw; (try dsimp only at hSw); go_simp; try with_reducible rfl)
        (try simp only [Act.put, List.setIfInBounds_toArray, List.set_cons_zero, List.set_cons_succ])
        refine step_one 9 rfl (by kernel_rfl) (fun K hK => ?_)
        clear hHeld
        go_simp
        refine (HBG.out _ (HLV.out.below HM.out.bel)).mono ?_
        rintro e wy5 ⟨rfl, hb⟩
        replace HM := Lib.hid (show Lows w [blkL g9 24 ([.slice A7 18 c7]), rdL A7 18 L, blkL P5 29 (endC a (r : Int)), blkL w.heap.size 23 (s.map u8v)] wy5 from HM.out.below hb)
        clear hb
        go_wp2_with fail
        refine hK.out _ _ (HM.out) (fun hHeld => ?_)
        clear hK K
        (try simp only [Act.put, List.setIfInBounds_toArray, List.set_cons_zero, List.set_cons_succ])
        refine take_first (v := ?_) 10 rfl (by kernel_rfl) (by kernel_rfl) (by kernel_rfl) (fun _ _ _ h => h) (Or.inl ⟨by rfl, ?_⟩) (by assumption) ?_
        rotate_left
        · (intro w hSw; (try dsimp only at hSw); go_simp; try with_reducible rfl)
        (try simp only [Act.put, List.setIfInBounds_toArray, List.set_cons_zero, List.set_cons_succ])
        refine take_first (v := ?_) 11 rfl (by kernel_rfl) (by kernel_rfl) (by kernel_rfl) (fun _ _ _ h => h) (Or.inl ⟨by rfl, ?_⟩) (by assumption) ?_
        rotate_left
        · (intro w hSw; (try dsimp only at hSw); go_simp; try with_reducible rfl)
        (try simp only [Act.put, List.setIfInBounds_toArray, List.set_cons_zero, List.set_cons_succ])
        refine wpAnyH_done (by kernel_rfl) ?_ _
        have HF := Lib.hid HM.out.bel
        clear HM hHeld
        go_wp2_with fail
        go_ret
        exact ⟨rfl, HF.out⟩
end Go.Proofs.YtlddafkikkaonaaDoor
namespace Go.Proofs.YtlddafkikkaonaaDoor
open Go.RowKit

theorem setL_len {α : Type} (l : List α) (off : Nat) (xs : List α) (h : off + xs.length ≤ l.length) : (setL l off xs).length = l.length := by
  simp only [setL, List.length_append, List.length_take, List.length_drop]
  omega
theorem setL_mid {α : Type} (x r a : List α) (q : Nat) (hq : x.length = q) : setL (x ++ r) q a = x ++ a ++ r.drop a.length := by
  subst hq
  rw [setL, List.take_left, ← List.drop_drop, List.drop_left]
theorem set_codes {k : Nat} (hk : k = 1 ∨ k = 2) {m : MsgM} (h : m.ok k) (a b : List UInt8) (ha : a.length = 16) (hb : b.length = 16) (q1 q2 : Nat) (h1 : q1 = msN k + (msB k - 32)) (h2 : q2 = q1 + 16) :
    setL (setL m.cells q1 (a.map u8v)) q2 (b.map u8v) = (MsgM.mk m.nums (m.bs.take (msB k - 32) ++ (a ++ b))).cells := by
  have hB := two_big hk
  have hm : m.cells = (m.nums.map u32c ++ (m.bs.take (msB k - 32)).map u8v) ++ (m.bs.drop (msB k - 32)).map u8v := by
    rw [List.append_assoc, ← List.map_append, List.take_append_drop]; rfl
  have hx : (m.nums.map u32c ++ (m.bs.take (msB k - 32)).map u8v).length = q1 := by
    rw [List.length_append, List.length_map, List.length_map, List.length_take, h.1, h.2.1, h1]; omega
  have hd : (m.bs.drop (msB k - 32)).length = 32 := by rw [List.length_drop, h.2.1]; omega
  rw [hm, setL_mid _ _ _ q1 hx]
  rw [setL_mid (m.nums.map u32c ++ (m.bs.take (msB k - 32)).map u8v ++ a.map u8v) _ _ q2 (by rw [List.length_append, hx, List.length_map, ha, h2])]
  rw [List.drop_of_length_le (by rw [List.length_drop, List.length_map, List.length_map, List.length_map, hd, ha, hb]; decide), List.append_nil]
  simp only [MsgM.cells, List.map_append, List.append_assoc]
end Go.Proofs.YtlddafkikkaonaaDoor
namespace Go.Proofs.YtlddafkikkaonaaDoor
open Go.RowKit

/-- what is asked of an encoder whose bytes lie in memory of its own -/
def MsEncNC (F k : Nat) : Prop := ∀ m : MsgM, m.ok k → ∀ w : World,
  Calls Tryd.prog F #[.agg m.cells.toArray] w fun e w' => ∃ A c, e = .returned (.slice A (msLen k) c) ∧ msLen k ≤ c ∧ c ≤ maxLen ∧ RdIn w.heap.size w'.heap.size A (msLen k) (encB k m) w' ∧ Below w.heap.size w w'
end Go.Proofs.YtlddafkikkaonaaDoor
namespace Go.Proofs.YtlddafkikkaonaaDoor
open Go.RowKit

theorem RdIn.from_ {lo lo' hi : Nat} {A : Option Addr} {n : Nat} {l : List UInt8} {W : World} (h : RdIn lo hi A n l W) (hl : lo' ≤ lo) : RdIn lo' hi A n l W :=
  ⟨h.1, fun hn => by
    obtain ⟨b, off, e, h1, h2, hc⟩ := h.2 hn
    exact ⟨b, off, e, Nat.le_trans hl h1, h2, hc⟩⟩
theorem RdIn.of_own {w : World} {base n c : Nat} {A : Option Addr} {l : List UInt8} (ho : w.ownsRow base 5 1 (.slice A n c) n (l.map u8v)) : RdIn base w.heap.size A n l w := by
  have hr := Rd.of_own ho
  refine ⟨hr.1, fun hn => ?_⟩
  obtain ⟨b, off, e, h1, hc⟩ := hr.2 hn
  subst e
  exact ⟨b, off, rfl, (ho.lt b rfl).1, h1, hc⟩
end Go.Proofs.YtlddafkikkaonaaDoor
namespace Go.Proofs.YtlddafkikkaonaaDoor
open Go.RowKit

/-- a message with other codes -/
def withC (k : Nat) (m : MsgM) (f s : List UInt8) : MsgM := ⟨m.nums, m.bs.take (msB k - 32) ++ (f ++ s)⟩
section
variable {k : Nat} {m : MsgM} {f s f' s' : List UInt8}
theorem withC_ok (hk : k = 1 ∨ k = 2) (h : m.ok k) (hf : f.length = 16) (hs : s.length = 16) : (withC k m f s).ok k := by
  refine ⟨h.1, ?_, h.2.2⟩
  have := two_big hk
  simp only [withC, List.length_append, hf, hs, List.length_take, h.2.1]
  omega
theorem withC_twice (h : m.ok k) (hk : k = 1 ∨ k = 2) : withC k (withC k m f s) f' s' = withC k m f' s' := by
  have := two_big hk
  simp only [withC]
  rw [List.take_append_of_le_length (by rw [List.length_take, h.2.1]; omega), List.take_take, Nat.min_self]
theorem withC_enc (hk : k = 1 ∨ k = 2) (h : m.ok k) : encB k (withC k m f s) = (encB k m).take (msLen k - 32) ++ (f ++ s) := by
  rw [enc_take hk h]
  simp only [encB, withC, List.append_assoc]
theorem withC_pre (hk : k = 1 ∨ k = 2) (h : m.ok k) : (encB k (withC k m f s)).take (msLen k - 32) = (encB k m).take (msLen k - 32) := by
  rw [withC_enc hk h, List.take_left' (pre_length h)]
theorem withC_pre2 (hk : k = 1 ∨ k = 2) (h : m.ok k) (hf : f.length = 16) : (encB k (withC k m f s)).take (msLen k - 16) = (encB k m).take (msLen k - 32) ++ f := by
  have hl := two_len hk
  rw [withC_enc hk h, ← List.append_assoc, List.take_left' (by rw [List.length_append, pre_length h, hf]; omega)]
end
/-- what is asked of the function that encodes a message with two codes: the message lies in a variable that the function keeps -/
def McEncF (F k T : Nat) : Prop := ∀ m : MsgM, m.ok k → ∀ f s : List UInt8, f.length = 16 → s.length = 16 → ∀ (w0 w : World) (E : List Ent) (i G : Nat), E[i]? = some (blkE G T m.cells) → Mem w0 E w →
  Calls Tryd.prog F #[.agg (f.map u8v).toArray, .agg (s.map u8v).toArray, .pointer (some ⟨G, 0, none⟩)] w fun e w' => ∃ A c, e = .returned (.slice A (msLen k) c) ∧ msLen k ≤ c ∧ c ≤ maxLen ∧ Mem w0 (rdE w.heap.size w'.heap.size A (msLen k) (encB k (withC k m f s)) :: E.set i (blkE G T (withC k m f s).cells)) w'
theorem mem_set_get {E : List Ent} {i : Nat} {a b : Ent} (h : E[i]? = some a) : (E.set i b)[i]? = some b := by
  rw [List.getElem?_set_self (List.getElem?_eq_some_iff.1 h).1]
theorem mem_set_set {E : List Ent} {i : Nat} {a b : Ent} : (E.set i a).set i b = E.set i b := by simp
theorem widen {w0 w W : World} {lo hi n : Nat} {A : Option Addr} {l : List UInt8} {b1 b2 : Ent} {E : List Ent} (h : Mem w0 (rdE lo hi A n l :: b2 :: b1 :: E) W) (hw : b1.lo = w.heap.size) (h2 : b2.lo = w.heap.size + 1) (hhi : hi = W.heap.size) : Mem w0 (rdE w.heap.size W.heap.size A n l :: E) W := by
  obtain ⟨⟨q1, q2, q3, ⟨r1, r2, r3, ⟨s1, s2, s3, s4⟩⟩⟩, hb⟩ := h
  subst hhi
  refine ⟨⟨Nat.le_refl _, ?_, RdIn.from_ q3 ?_, ?_⟩, hb⟩
  all_goals first | (show w.heap.size ≤ _; simp only [rdE] at *; omega) | (rw [← hw]; exact s4)
theorem widen5 {w0 w W : World} {lo hi n : Nat} {A : Option Addr} {l : List UInt8} {b1 b2 b3 b4 b5 : Ent} {E : List Ent} (h : Mem w0 (rdE lo hi A n l :: b5 :: b4 :: b3 :: b2 :: b1 :: E) W) (hw : b1.lo = w.heap.size) : Mem w0 (rdE w.heap.size W.heap.size A n l :: E) W := by
  obtain ⟨⟨q1, q2, q3, ⟨r1, r2, _, ⟨s1, s2, _, ⟨t1, t2, _, ⟨u1, u2, _, ⟨v1, v2, _, h4⟩⟩⟩⟩⟩⟩, hb⟩ := h
  have hlo : w.heap.size ≤ lo := by show w.heap.size ≤ (rdE lo hi A n l).lo; omega
  refine ⟨⟨Nat.le_refl _, ?_, ⟨q3.1, fun hn => ?_⟩, ?_⟩, hb⟩
  · show w.heap.size ≤ W.heap.size
    exact Nat.le_trans hlo (Nat.le_trans q2 q1)
  · obtain ⟨b, off, e, h1, h2, hc⟩ := q3.2 hn
    exact ⟨b, off, e, Nat.le_trans hlo h1, Nat.lt_of_lt_of_le h2 q1, hc⟩
  · show MemE w0.heap.size E w.heap.size W
    rw [← hw]; exact h4
theorem Mem.rdIn0 {w0 W : World} {lo hi lo' n g : Nat} {t : TypeId} {cs : List Value} {A : Option Addr} {l : List UInt8} {E : List Ent} (h : Mem w0 (rdE lo hi A n l :: blkE g t cs :: E) W) (hg : lo' ≤ g) : RdIn lo' W.heap.size A n l W := by
  obtain ⟨⟨q1, q2, q3, ⟨r1, _⟩⟩, _⟩ := h
  refine ⟨q3.1, fun hn => ?_⟩
  obtain ⟨b, off, e, h1, h2, hc⟩ := q3.2 hn
  exact ⟨b, off, e, Nat.le_trans hg (Nat.le_trans (Nat.le_of_succ_le r1) h1), Nat.lt_of_lt_of_le h2 q1, hc⟩
end Go.Proofs.YtlddafkikkaonaaDoor
namespace Go.Proofs.YtlddafkikkaonaaDoor
open Go.RowKit

theorem run_text (w : World) (s : ByteArray) : (convert 9 24 (.string s)).run Tryd.prog w = .ok (.slice (some ⟨w.heap.size, 0, none⟩) s.size (grownCap w s.size 0 5)) (Lib.bytesWorld w 5 s) :=
  Lib.run_convert_string_bytes w 9 24 5 s Tryd.underlying9 Tryd.underlying24 Tryd.underlying5
theorem text_below (w : World) (s : ByteArray) : Below w.heap.size w (Lib.bytesWorld w 5 s) := by
  refine ⟨?_, ?_, ?_, by rw [Lib.bytesWorld_size]; omega, fun k hk => Lib.bytesWorld_at_old w _ s k hk⟩
  all_goals simp [Lib.bytesWorld, World.freeze, World.alloc, World.drew, -World.alloc_eq, -World.drew_eq]
theorem text_in (w : World) (s : ByteArray) (l : List UInt8) (hs : s.data.toList = l) (n : Nat) (hn : s.size = n) : RdIn w.heap.size (Lib.bytesWorld w 5 s).heap.size (some ⟨w.heap.size, 0, none⟩) n l (Lib.bytesWorld w 5 s) := by
  have hl : l.length = n := by rw [← hs, ← hn]; exact Array.length_toList
  refine ⟨hl, fun _ => ⟨w.heap.size, 0, rfl, Nat.le_refl _, by rw [Lib.bytesWorld_size]; omega, fun j hj => ?_⟩⟩
  rw [Nat.zero_add, Lib.bytesWorld_cell w _ s j (by omega), hs, List.getD_eq_getElem?_getD, List.getElem?_eq_getElem hj]
  rfl
end Go.Proofs.YtlddafkikkaonaaDoor
namespace Go.Proofs.YtlddafkikkaonaaDoor
open Go.RowKit

theorem results_tmp4 {fn : Func} {t u v x : Tmp} (h : fn.results = #[.tmp t, .tmp u, .tmp v, .tmp x]) (tmps : Array Value) (P : Program) (w : World) :
    (results fn tmps).run P w = .ok (.tuple #[tmps.getD t undef, tmps.getD u undef, tmps.getD v undef, tmps.getD x undef]) w := by
  simp [results, h]

end Go.Proofs.YtlddafkikkaonaaDoor
namespace Go.Proofs.YtlddafkikkaonaaDoor
open Go.RowKit

set_option maxRecDepth 100000 in
theorem rotneg_any (x : UInt32) (n : Nat) (h : n = 16 ∨ n = 12 ∨ n = 8 ∨ n = 7) (w : World) :
    Calls Tryd.prog 107 #[.int .u32 (x.toNat : Int), .int .i64 (-(n : Int))] w fun e w' => e = .returned (.int .u32 ((rotr x n).toNat : Int)) ∧ w = w' := by
  have hx : x.toNat < 4294967296 := x.toNat_lt
  rcases h with rfl | rfl | rfl | rfl
  · have HR := u32_rotl x 16 (by omega) (by omega)
    simp only [show (2 : Int) ^ 16 = 65536 from rfl] at HR
    rw [show rotl x 16 = rotr x 16 from (rotr_rotl x 16 (by omega) (by omega)).symm] at HR
    have HR2 := Lib.hid HR
    clear HR
    have hb : bits BinOp.and IntKind.u64 (IntKind.u64.wrap (-16)) 31 = 16 := by decide
    rw [show -((16 : Nat) : Int) = -16 from rfl]
    go_enter Tryd.func107, Tryd.ntmps107
    go_wp2
    rw [HR2.out]
    go_ret
    exact ⟨rfl, rfl⟩
  · have HR := u32_rotl x 20 (by omega) (by omega)
    simp only [show (2 : Int) ^ 20 = 1048576 from rfl, show (2 : Int) ^ (32 - 20) = 4096 from rfl] at HR
    rw [show rotl x 20 = rotr x 12 from (rotr_rotl x 12 (by omega) (by omega)).symm] at HR
    have HR2 := Lib.hid HR
    clear HR
    have hb : bits BinOp.and IntKind.u64 (IntKind.u64.wrap (-12)) 31 = 20 := by decide
    rw [show -((12 : Nat) : Int) = -12 from rfl]
    go_enter Tryd.func107, Tryd.ntmps107
    go_wp2
    rw [HR2.out]
    go_ret
    exact ⟨rfl, rfl⟩
  · have HR := u32_rotl x 24 (by omega) (by omega)
    simp only [show (2 : Int) ^ 24 = 16777216 from rfl, show (2 : Int) ^ (32 - 24) = 256 from rfl] at HR
    rw [show rotl x 24 = rotr x 8 from (rotr_rotl x 8 (by omega) (by omega)).symm] at HR
    have HR2 := Lib.hid HR
    clear HR
    have hb : bits BinOp.and IntKind.u64 (IntKind.u64.wrap (-8)) 31 = 24 := by decide
    rw [show -((8 : Nat) : Int) = -8 from rfl]
    go_enter Tryd.func107, Tryd.ntmps107
    go_wp2
    rw [HR2.out]
    go_ret
    exact ⟨rfl, rfl⟩
  · have HR := u32_rotl x 25 (by omega) (by omega)
    simp only [show (2 : Int) ^ 25 = 33554432 from rfl, show (2 : Int) ^ (32 - 25) = 128 from rfl] at HR
    rw [show rotl x 25 = rotr x 7 from (rotr_rotl x 7 (by omega) (by omega)).symm] at HR
    have HR2 := Lib.hid HR
    clear HR
    have hb : bits BinOp.and IntKind.u64 (IntKind.u64.wrap (-7)) 31 = 25 := by decide
    rw [show -((7 : Nat) : Int) = -7 from rfl]
    go_enter Tryd.func107, Tryd.ntmps107
    go_wp2
    rw [HR2.out]
    go_ret
    exact ⟨rfl, rfl⟩

theorem rotneg_any' (v : Int) (n : Nat) (x : UInt32) (hv : v = (x.toNat : Int)) (h : n = 16 ∨ n = 12 ∨ n = 8 ∨ n = 7) (w : World) :
    Calls Tryd.prog 107 #[.int .u32 v, .int .i64 (-(n : Int))] w fun e w' => e = .returned (.int .u32 ((rotr x n).toNat : Int)) ∧ w = w' := by
  rw [hv]
  exact rotneg_any x n h w
/-- four words, mixed with two words of the message -/
def mixT (x : UInt32 × UInt32 × UInt32 × UInt32) (p q : UInt32) : UInt32 × UInt32 × UInt32 × UInt32 :=
  let (a, b, c, d) := x
  let a1 := a + b + p
  let d1 := rotr (d ^^^ a1) 16
  let c1 := c + d1
  let b1 := rotr (b ^^^ c1) 12
  let a2 := a1 + b1 + q
  let d2 := rotr (d1 ^^^ a2) 8
  let c2 := c1 + d2
  (a2, rotr (b1 ^^^ c2) 7, c2, d2)
theorem u32_add3 (x y z : UInt32) : x + y + z = x + (y + z) := by
  apply UInt32.toNat.inj
  rw [UInt32.toNat_add, UInt32.toNat_add, UInt32.toNat_add, UInt32.toNat_add]
  omega

set_option maxRecDepth 100000 in
theorem bpMix_any (a b c d p q bp bq a1 d1 c1 b1 a2 d2 c2 b2 : UInt32) (e0 : b + p = bp) (e1 : a + bp = a1) (e2 : rotr (d ^^^ a1) 16 = d1) (e3 : c + d1 = c1) (e4 : rotr (b ^^^ c1) 12 = b1) (e50 : b1 + q = bq) (e5 : a1 + bq = a2) (e6 : rotr (d1 ^^^ a2) 8 = d2) (e7 : c1 + d2 = c2) (e8 : rotr (b1 ^^^ c2) 7 = b2) (w : World) :
    Calls Tryd.prog 106 #[.int .u32 (a.toNat : Int), .int .u32 (b.toNat : Int), .int .u32 (c.toNat : Int), .int .u32 (d.toNat : Int), .int .u32 (p.toNat : Int), .int .u32 (q.toNat : Int)] w fun e w' => e = .returned (.tuple #[.int .u32 (a2.toNat : Int), .int .u32 (b2.toNat : Int), .int .u32 (c2.toNat : Int), .int .u32 (d2.toNat : Int)]) ∧ w = w' := by
  have s0 := u32_sum b p
  have s1 := u32_sum a bp
  have x1 := u32_xor d a1
  have s2 := u32_sum c d1
  have x2 := u32_xor b c1
  have s30 := u32_sum b1 q
  have s3 := u32_sum a1 bq
  have x3 := u32_xor d1 a2
  have s4 := u32_sum c1 d2
  have x4 := u32_xor b1 c2
  rw [e0] at s0
  rw [e1] at s1
  rw [e3] at s2
  rw [e50] at s30
  rw [e5] at s3
  rw [e7] at s4
  go_enter Tryd.func106, Tryd.ntmps106
  go_wp2_with fail
  refine (rotneg_any' _ 16 (d ^^^ a1) (by rw [UInt32.toNat_xor]) (by omega) _).mono ?_
  rintro e w1 ⟨rfl, rfl⟩
  rw [e2]
  go_wp2_with fail
  refine (rotneg_any' _ 12 (b ^^^ c1) (by rw [UInt32.toNat_xor]) (by omega) _).mono ?_
  rintro e w1 ⟨rfl, rfl⟩
  rw [e4]
  go_wp2_with fail
  refine (rotneg_any' _ 8 (d1 ^^^ a2) (by rw [UInt32.toNat_xor]) (by omega) _).mono ?_
  rintro e w1 ⟨rfl, rfl⟩
  rw [e6]
  go_wp2_with fail
  refine (rotneg_any' _ 7 (b1 ^^^ c2) (by rw [UInt32.toNat_xor]) (by omega) _).mono ?_
  rintro e w1 ⟨rfl, rfl⟩
  rw [e8]
  go_wp2_with fail
  refine bodyPost_ret (results_tmp4 rfl _ _ _) rfl ⟨rfl, rfl⟩
set_option maxRecDepth 100000 in
theorem bpMix_of {a b c d p q a2 b2 c2 d2 : UInt32} (h : mixT (a, b, c, d) p q = (a2, b2, c2, d2)) (w : World) :
    Calls Tryd.prog 106 #[.int .u32 (a.toNat : Int), .int .u32 (b.toNat : Int), .int .u32 (c.toNat : Int), .int .u32 (d.toNat : Int), .int .u32 (p.toNat : Int), .int .u32 (q.toNat : Int)] w fun e w' => e = .returned (.tuple #[.int .u32 (a2.toNat : Int), .int .u32 (b2.toNat : Int), .int .u32 (c2.toNat : Int), .int .u32 (d2.toNat : Int)]) ∧ w = w' := by
  simp only [mixT, Prod.mk.injEq] at h
  obtain ⟨rfl, rfl, rfl, rfl⟩ := h
  exact bpMix_any a b c d p q _ _ _ _ _ _ _ _ _ _ rfl (u32_add3 a b p).symm rfl rfl rfl rfl (u32_add3 _ _ q).symm rfl rfl rfl w
/-- mixing at four different places is setting them to what mixT gives -/
theorem mixB_mixT (v : List UInt32) (hv : v.length = 16) (a b c d : Nat) (ha : a < 16) (hb : b < 16) (hc : c < 16) (hd : d < 16) (hab : a ≠ b) (hac : a ≠ c) (had : a ≠ d) (hbc : b ≠ c) (hbd : b ≠ d) (hcd : c ≠ d) (p q : UInt32) :
    mixB v a b c d p q = let r := mixT (wd v a, wd v b, wd v c, wd v d) p q; (((v.set a r.1).set b r.2.1).set c r.2.2.1).set d r.2.2.2 := by
  have hs : ∀ (l : List UInt32) (i j : Nat) (x : UInt32), i ≠ j → wd (l.set i x) j = wd l j := by
    intro l i j x h
    simp [wd, List.getD, List.getElem?_set_ne h]
  have hg : ∀ (l : List UInt32) (i : Nat) (x : UInt32), l.length = 16 → i < 16 → wd (l.set i x) i = x := by
    intro l i x hl hi
    simp [wd, List.getD, hl, hi]
  have hab' := hab.symm
  have hac' := hac.symm
  have had' := had.symm
  have hbc' := hbc.symm
  have hbd' := hbd.symm
  have hcd' := hcd.symm
  simp only [mixB, addX, addW, xrot, mixT]
  simp only [hs, hg, List.length_set, hv, ha, hb, hc, hd, hab, hac, had, hbc, hbd, hcd, hab', hac', had', hbc', hbd', hcd', ne_eq, not_false_eq_true]
  apply List.ext_getElem?
  intro i
  simp only [List.getElem?_set, List.length_set, hv]
  by_cases h1 : d = i <;> by_cases h2 : c = i <;> by_cases h3 : b = i <;> by_cases h4 : a = i <;> simp_all
end Go.Proofs.YtlddafkikkaonaaDoor
namespace Go.Proofs.YtlddafkikkaonaaDoor
open Go.RowKit

/-- what runs to its end leaves the world as it is -/
def StillS {α : Type} (s : Sem α) : Prop := ∀ (P : Program) (w : World) (v : α) (w' : World), s.run P w = .ok v w' → w' = w
theorem StillS.pure {α : Type} (a : α) : StillS (Pure.pure a : Sem α) := fun _ _ _ _ h => by
  simp only [Sem.run_pure, Result.ok.injEq] at h
  exact h.2.symm
theorem StillS.halt {α : Type} (x : Halt) : StillS (Sem.halt x : Sem α) := fun _ _ _ _ h => by simp [Sem.run] at h
theorem StillS.bind {α β : Type} {s : Sem α} {f : α → Sem β} (h : StillS s) (hf : ∀ a, StillS (f a)) : StillS (s >>= f) := fun P w v w' e => by
  rw [Sem.run_bind] at e
  cases hr : s.run P w with
  | ok a w1 =>
    rw [hr, Result.andThen_ok] at e
    have h1 := h P w a w1 hr
    subst h1
    exact hf a P _ v w' e
  | halt x w1 => rw [hr] at e; cases e
theorem still_load (a : Addr) (m : Mode) : StillS (load a m) := fun P w v w' h => by
  unfold load at h
  simp only [Sem.run] at h
  split at h
  · cases h; rfl
  · split at h
    · cases h; rfl
    · cases h
theorem still_program : StillS program := fun P w v w' h => by
  unfold program at h
  simp only [Sem.run] at h
  cases h
  rfl
theorem still_typeInfo (t : TypeId) : StillS (typeInfo t) := by
  unfold typeInfo
  refine still_program.bind fun p => ?_
  split
  · exact StillS.pure _
  · exact StillS.halt _
theorem still_underlying (t : TypeId) : StillS (underlying t) := by
  unfold underlying
  refine still_program.bind fun p => ?_
  split
  · exact StillS.pure _
  · exact StillS.halt _
theorem still_isAgg (t : TypeId) : StillS (isAgg t) := by
  unfold isAgg
  refine (still_underlying t).bind fun d => ?_
  split <;> exact StillS.pure _
theorem still_loadCellsFrom (a : Addr) : ∀ (n i : Nat) (acc : Array Value), StillS (loadCellsFrom a i n acc)
  | 0, _, _ => StillS.pure _
  | n + 1, _, _ => (still_load _ _).bind fun _ => still_loadCellsFrom a n _ _
theorem still_loadAt (t : TypeId) (v : Value) : StillS (Instr.loadAt t v) := by
  unfold Instr.loadAt
  refine StillS.bind ?_ fun a => ?_
  · unfold Instr.sureAddr
    split
    · exact StillS.pure _
    · exact StillS.halt _
  · unfold loadVar
    refine (still_isAgg t).bind fun b => ?_
    cases b
    · exact still_load _ _
    · exact StillS.bind (s := sizeOf t) (StillS.bind (still_typeInfo t) fun _ => StillS.pure _) fun n => StillS.bind (s := loadCells a n) (still_loadCellsFrom a n 0 _) fun _ => StillS.pure _
def Oper.isLoad (o : Oper) : Bool := match o.op with
  | .load _ _ => true
  | _ => false
theorem still_op {o : Oper} (h : Oper.isLoad o = true) (ev : Operand → Value) (P : Program) (w w' : World) (n : Next) (e : (execOp ev o).run P w = .ok n w') : w' = w := by
  unfold Oper.isLoad at h
  cases ho : o.op <;> rw [ho] at h <;> try cases h
  unfold execOp at e
  simp only [ho] at e
  exact StillS.bind (still_loadAt _ _) (fun _ => StillS.pure _) P w n w' e

section
variable {P : Program} {ops : Array Oper} {Q : Exit → Act → World → Prop} {md : Region.Mode} {S : World → Prop}
theorem wpOp_load {j : Nat} {o : Oper} (hj : ops[j]? = some o) (h : Oper.isLoad o = true) {K : Act → World → Prop} {a : Act} {w : World} (hk : wpOp P ops Q j K a w) : wpOp P ops Q j (fun a' w' => w' = w ∧ K a' w') a w := by
  unfold wpOp at *
  simp only [hj] at *
  split
  · rename_i hw
    simp only [hw, if_true] at hk
    rcases hk with hk | hk
    case inr => exact .inr hk
    refine .inl ?_
    unfold Oper.wp at *
    have st := still_op h a.eval P w
    have hn : ∀ n w', (execOp a.eval o).run P w = .ok n w' → ∃ v, n = .value v := by
      intro n w' e
      unfold Oper.isLoad at h
      cases ho : o.op <;> rw [ho] at h <;> try cases h
      unfold execOp at e
      simp only [ho] at e
      rw [Sem.run_bind] at e
      rename_i ty x
      cases hr : (Instr.loadAt ty (a.eval x)).run P w with
      | ok v w1 =>
        rw [hr, Result.andThen_ok, Sem.run_pure] at e
        cases e
        exact ⟨v, rfl⟩
      | halt x w1 => rw [hr] at e; cases e
    generalize (execOp a.eval o).run P w = r at *
    cases r with
    | ok n w' =>
      obtain ⟨v, rfl⟩ := hn n w' rfl
      have := st w' _ rfl
      subst this
      exact ⟨rfl, hk⟩
    | halt x w' =>
      cases x <;> simp only [Oper.upon] at hk ⊢ <;> exact hk
  · rename_i hw
    simp only [hw] at hk
    exact ⟨trivial, hk⟩
/-- every operation that has not come up, but i and those of R, waits for i or for one that is not of R -/
def waitsL (md : Region.Mode) (ops : Array Oper) (R : List Nat) (i : Nat) (listed : Array Bool) : Bool :=
  (List.range ops.size).all fun j => listed.getD j true || j == i || R.contains j ||
    match ops[j]? with
    | none => true
    | some o => o.after.toList.any fun e => Region.binds md e && (e.on == i || (!(listed.getD e.on false) && !(R.contains e.on)))
theorem waitsL_set {R : List Nat} {i j : Nat} {listed : Array Bool} (hj : R.contains j = true) (h : waitsL md ops R i listed = true) : waitsL md ops R i (listed.setIfInBounds j true) = true := by
  unfold waitsL at *
  rw [List.all_eq_true] at *
  intro k hk
  have h1 := h k hk
  by_cases hjk : j = k
  · subst hjk
    simp only [hj, Bool.or_true, Bool.true_or]
  · rw [getD_set_ne true hjk]
    cases ho : ops[k]? with
    | none => simp
    | some o =>
      rw [ho] at h1
      simp only [Bool.or_eq_true] at h1 ⊢
      refine h1.imp id fun h2 => ?_
      rw [List.any_eq_true] at h2 ⊢
      obtain ⟨e, he, h3⟩ := h2
      refine ⟨e, he, ?_⟩
      simp only [Bool.and_eq_true, Bool.or_eq_true] at h3 ⊢
      refine ⟨h3.1, h3.2.imp id fun h4 => ⟨?_, h4.2⟩⟩
      have hne : j ≠ e.on := fun h5 => by
        have h6 := h4.2
        rw [← h5, hj] at h6
        cases h6
      rw [getD_set_ne false hne]
      exact h4.1
theorem wpAnyH_load {R : List Nat} {i : Nat} {oi : Oper} {v : Value} (hi : ops[i]? = some oi) (hsel : ∀ (j : Nat) (o : Oper) cs b, ops[j]? = some o → o.op ≠ .select cs b)
    (hQ : ∀ c a w, Q (.panic c) (a.put oi.dst v) w → Q (.panic c) a w) (hR : ∀ j ∈ R, ∀ o, ops[j]? = some o → Oper.isLoad o = true) (w : World) (hS : S w) :
    ∀ (fuel : Nat) (listed : Array Bool) (a : Act), waitsL md ops R i listed = true →
      (∀ j oj, ops[j]? = some oj → j ≠ i → listed.getD j true = false → (∀ e ∈ oj.after, Region.binds md e = true → e.on ≠ i) → oi.apart ops oj = true) →
      i ∈ Region.ready md ops listed → YieldsIf P ops (fun w' => w' = w) oi v a →
      wpAnyH P md ops Q S fuel (listed.setIfInBounds i true) (a.put oi.dst v) w → wpAnyH P md ops Q S (fuel + 1) listed a w := by
  intro fuel
  induction fuel with
  | zero =>
    intro listed a hwt _ hr hy H
    refine ⟨fun h => (by rw [h] at hr; cases hr), fun j hj => ?_⟩
    by_cases hji : j = i
    · subst hji; exact hy.wpOp hi rfl ⟨hS, H⟩
    · have := ready_mono hj hji
      rw [H.1] at this
      cases this
  | succ fuel ih =>
    intro listed a hwt hfree hr hy H
    refine ⟨fun h => (by rw [h] at hr; cases hr), fun j hj => ?_⟩
    by_cases hji : j = i
    · subst hji; exact hy.wpOp hi rfl ⟨hS, H⟩
    · have h1 := H.2 j (ready_mono hj hji)
      obtain ⟨hjun, oj, hoj, hall⟩ := mem_ready.1 hj
      have hnot : ∀ e ∈ oj.after, Region.binds md e = true → e.on ≠ i := fun e he hb heq => by
        have h1 := hall e he hb
        have h0 := (mem_ready.1 hr).1
        rw [heq] at h1
        rcases Nat.lt_or_ge i listed.size with h' | h'
        · simp [h'] at h0 h1; rw [h0] at h1; cases h1
        · simp [Array.getElem?_eq_none h'] at h1
      have hjR : R.contains j = true := by
        have hjs : j < ops.size := by
          rcases Nat.lt_or_ge j ops.size with h' | h'
          · exact h'
          · rw [Array.getElem?_eq_none h'] at hoj; cases hoj
        have h0 := List.all_eq_true.1 hwt j (List.mem_range.2 hjs)
        rw [hoj, hjun] at h0
        simp only [Bool.or_eq_true, Bool.false_eq_true, false_or, beq_iff_eq] at h0
        rcases h0 with (h0 | h0) | h0
        · exact absurd h0 hji
        · exact h0
        · exfalso
          rw [List.any_eq_true] at h0
          obtain ⟨e, he, h3⟩ := h0
          simp only [Bool.and_eq_true, Bool.or_eq_true, beq_iff_eq] at h3
          have he' : e ∈ oj.after := by simpa using he
          rcases h3.2 with h4 | h4
          · exact hnot e he' h3.1 h4
          · rw [hall e he' h3.1] at h4
            simp at h4
      have h2 := wpOp_load hoj (hR j (by simpa using hjR) oj hoj) (wpOp_putIf hoj (hfree j oj hoj hji hjun hnot) (fun cs b => hsel i oi cs b hi) (fun cs b => hsel j oj cs b hoj) hQ hy h1)
      have hfree' : ∀ k ok, ops[k]? = some ok → k ≠ i → (listed.setIfInBounds j true).getD k true = false →
          (∀ e ∈ ok.after, Region.binds md e = true → e.on ≠ i) → oi.apart ops ok = true := fun k ok hk hki hun hno => by
        refine hfree k ok hk hki ?_ hno
        by_cases hjk : j = k
        · subst hjk; exact hjun
        · rw [getD_set_ne true hjk] at hun; exact hun
      refine wpOp_mono (fun a' w' h3 => ?_) h2
      obtain ⟨rfl, h4, h5, h6⟩ := h3
      refine ⟨h5, ih (listed.setIfInBounds j true) a' (waitsL_set hjR hwt) hfree' (ready_mono hr (Ne.symm hji)) h4 ?_⟩
      rw [Array.setIfInBounds_comm _ _ hji]
      exact h6
/-- a load may be taken first, if all that may come up ahead of it are loads (R) -/
theorem take_load {r : List Oper} {oi : Oper} {v : Value} {fuel : Nat} {listed : Array Bool} {a : Act} {w : World} (R : List Nat) (i : Nat) (hi : ops.toList.drop i = oi :: r)
    (hs : Region.noSelect ops = true) (hf : Region.free md ops listed i = true) (hr : (Region.ready md ops listed).contains i = true) (hR : (R.all fun j => (ops[j]?).all Oper.isLoad) = true) (hw : waitsL md ops R i listed = true)
    (hQ : ∀ c a w, Q (.panic c) (a.put oi.dst v) w → Q (.panic c) a w) (hy : YieldsIf P ops (fun w' => w' = w) oi v a) (hS : S w)
    (h : wpAnyH P md ops Q S fuel (listed.setIfInBounds i true) (a.put oi.dst v) w) : wpAnyH P md ops Q S (fuel + 1) listed a w :=
  wpAnyH_load (getElem?_of_drop hi) (Region.noSelect_spec hs) hQ (fun j hj o ho => by have := List.all_eq_true.1 hR j hj; rw [ho] at this; exact this) w hS fuel listed a hw (Region.free_spec (getElem?_of_drop hi) hf) (by simpa using hr) hy h
end
end Go.Proofs.YtlddafkikkaonaaDoor
namespace Go.Proofs.YtlddafkikkaonaaDoor
open Go.RowKit

theorem grown_same (w : World) (k : Option Nat) : w.grownBy w k := ⟨rfl, rfl, rfl, Nat.le_refl _, fun _ _ _ => rfl⟩
theorem putL_nil {α : Type} (l : List α) (off : Nat) : putL l off [] = l := by
  simp [putL]
/-- the builtin copy of bytes that are read somewhere, or of none, to the beginning of a block -/
theorem wpList_copy_rd {P : Program} (w : World) {ops : Array Oper} {rest : List Oper} {o : Oper} {a : Act} {Q : Exit → Act → World → Prop} (hgd : o.guard = none) (d s : Operand) (dT sT : TypeId)
    (ho : o.op = .call { callee := .builtin .copy, args := #[d, s], argTypes := #[dT, sT] }) (elem : TypeId) (hu : P.underlying dT = some (.slice elem)) (hsz : (P.info? elem).map (·.size) = some 1)
    (g dLen dCap : Nat) (A : Option Addr) (sLen sCap : Nat) (hd : a.eval d = .slice (some ⟨g, 0, none⟩) dLen dCap) (hs : a.eval s = .slice A sLen sCap)
    (l0 : List UInt8) (t : TypeId) (hg : Blk w g t (l0.map u8v)) (B : Nat) (l : List UInt8) (hr : Rd w B A sLen l) (hle : sLen ≤ dLen) (hfit : dLen ≤ l0.length)
    (h : ∀ w', Blk w' g t ((putL l0 0 l).map u8v) → w.grownBy w' (some g) → wpList P ops Q rest (a.put o.dst (goInt sLen)) w') : wpList P ops Q (o :: rest) a w := by
  have hl : l.length = sLen := hr.1
  by_cases h0 : sLen = 0
  · subst h0
    have hnil : l = [] := List.eq_nil_of_length_eq_zero hl
    refine wpList_plain hgd fun K hK => ?_
    have hrun := run_copy_none (P := P) w dT sT o.type elem (some ⟨g, 0, none⟩) A dLen dCap 0 sCap hu hsz (by simp)
    unfold Oper.wp execOp
    simp only [ho, resolve, invoke, builtin, Sem.run_bind, Sem.run_pure, Result.andThen_ok, List.map_toArray, List.map_cons, List.map_nil, hs, hd, hrun]
    exact hK _ _ (h w (by rw [hnil, putL_nil]; exact hg) (grown_same w _))
  · obtain ⟨b, off, rfl, hb, hc⟩ := hr.2 (by omega)
    have hn : (l.map u8v).length = Nat.min sLen dLen := by rw [List.length_map, hl]; exact (Nat.min_eq_left hle).symm
    refine wpList_copy_bytes w hgd d s dT sT ho elem hu hsz g 0 dLen dCap ⟨b, off, none⟩ sLen sCap hd hs (l0.map u8v) t hg (l.map u8v) hn hr.src (by rw [List.length_map, List.length_map, hl]; omega) (u8v_one _) ?_
    intro w' hb' hg'
    rw [putL_map] at hb'
    have := h w' hb' hg'
    rw [List.length_map, hl]
    exact this
end Go.Proofs.YtlddafkikkaonaaDoor
namespace Go.Proofs.YtlddafkikkaonaaDoor
open Go.RowKit

set_option maxRecDepth 100000 in
theorem readLittle_any (B : Nat) (A : Option Addr) (n cap : Nat) (l : List UInt8) (hn : n ≤ 1000000) (w : World) (hr : Rd w B A n l) :
    Calls Tryd.prog 70 #[.slice A n cap] w fun e w' => e = .returned (.int .u64 (numL (l.take 8) : Nat)) ∧ w = w' := by
  have hl : l.length = n := hr.1
  have HR := Lib.hid hr
  have HL := Lib.hid hl
  clear hr hl
  obtain ⟨m, hm⟩ : ∃ m, m = min n 8 := ⟨_, rfl⟩
  have hm8 : m ≤ 8 := by omega
  have hmn : m ≤ n := by omega
  have HM : Hid (l.take m = l.take 8) := by
    have := HL.out
    refine Lib.hid ?_
    by_cases h : n ≤ 8
    · rw [List.take_of_length_le (by omega), List.take_of_length_le (by omega)]
    · rw [show m = 8 from by omega]
  by_cases h8 : n ≤ 8
  · obtain rfl : m = n := by omega
    clear hm
    go_enter Tryd.func70, Tryd.ntmps70
    go_wp2
    go_loop [3, 8, 4] (fun v i _ => ∃ j : Nat, j ≤ m ∧ i = .int .i64 j ∧ v = .int .u64 (numL (l.take j) : Nat)) (fun _ i _ => m - (intOf i).toNat)
    case atStart => exact ⟨0, by omega, rfl, rfl⟩
    case round =>
      obtain ⟨j, hj, rfl, rfl⟩ := hrel
      by_cases hlt : j < m
      · obtain ⟨b, off, rfl, _, hc⟩ := HR.out.at_ (by omega)
        have hlj : j < l.length := by have := HL.out; omega
        have hc1 := hc j hlj
        clear hc
        go_wp2
        go_round
        case rel => exact ⟨j + 1, by omega, by go_num, by rw [or64_little _ j _ (by omega) (numL_take_lt l j), numL_take_succ l j hlj]⟩
        case measure => simp [intOf]; omega
      · obtain rfl : j = m := by omega
        have HM2 := HM
        clear HM
        go_wp2
        go_ret
        exact ⟨ret_int (by rw [HM2.out]), rfl⟩
  · obtain rfl : m = 8 := by omega
    clear hm HM
    go_enter Tryd.func70, Tryd.ntmps70
    go_wp2
    go_loop [3, 8, 4] (fun v i _ => ∃ j : Nat, j ≤ 8 ∧ i = .int .i64 j ∧ v = .int .u64 (numL (l.take j) : Nat)) (fun _ i _ => 8 - (intOf i).toNat)
    case atStart => exact ⟨0, by omega, rfl, rfl⟩
    case round =>
      obtain ⟨j, hj, rfl, rfl⟩ := hrel
      by_cases hlt : j < 8
      · obtain ⟨b, off, rfl, _, hc⟩ := HR.out.at_ (by omega)
        have hlj : j < l.length := by have := HL.out; omega
        have hc1 := hc j hlj
        clear hc
        go_wp2
        go_round
        case rel => exact ⟨j + 1, by omega, by go_num, by rw [or64_little _ j _ (by omega) (numL_take_lt l j), numL_take_succ l j hlj]⟩
        case measure => simp [intOf]; omega
      · obtain rfl : j = 8 := by omega
        go_wp2
        go_ret
        exact ⟨rfl, rfl⟩
end Go.Proofs.YtlddafkikkaonaaDoor
