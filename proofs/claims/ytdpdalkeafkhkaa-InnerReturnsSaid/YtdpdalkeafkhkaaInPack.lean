/-
  The contract of the packets that the laws of layer 10 are about. No statement is proved here.
-/
import Derived.Test.YtdpdalkeafkhkaaInPacket
namespace Go.Proofs.Ytdpdalkeafkhkaa
open Go.RowKit

/-- a packet of the version 6 with n bytes behind its header -/
def pack6L (n : Nat) (u v f : UInt8) : List UInt8 := [96, 0, 0, 0, u, v, 0, 0, 253] ++ List.replicate 15 0 ++ [f] ++ List.replicate (15 + n) 0
def pack6B (n : Nat) (f : UInt8) : List UInt8 := pack6L n (UInt8.ofNat (n / 256)) (UInt8.ofNat n) f
theorem pack6_of (n : Nat) (u v f : UInt8) : (((((List.replicate (40 + n) (0 : UInt8)).set 0 96).set 4 u).set 5 v).set 8 253).set 24 f = pack6L n u v f := by
  rw [pack6L, show 40 + n = (15 + n) + 25 by omega]
  rfl
theorem pack6_length (n : Nat) (f : UInt8) : (pack6B n f).length = 40 + n := by simp [pack6B, pack6L]; omega
theorem packB_length (a b : AddrM) (ha : a.ok) (hb : b.ok) (n : Nat) (f : UInt8) : (packB a b n f).length = 20 + n := by
  have aT : (a.ip.take 4).length = 4 := by rw [List.length_take, ha]; rfl
  have bT : (b.ip.take 4).length = 4 := by rw [List.length_take, hb]; rfl
  simp only [packB, List.length_append, aT, bT, pkBody_length, List.length_cons, List.length_nil, List.length_replicate]
def packM (six : Bool) (n : Nat) (f : UInt8) : List UInt8 := if six then pack6B n f else packB (hostM 1 2) (hostM 3 4) n f
theorem packM_length (six : Bool) (n : Nat) (f : UInt8) : (packM six n f).length = (if six then 40 else 20) + n := by
  cases six
  · exact packB_length _ _ (hostM_ok _ _) (hostM_ok _ _) n f
  · exact pack6_length n f
set_option maxRecDepth 100000 in
set_option maxHeartbeats 4000000 in
set_option linter.unusedSimpArgs false in
theorem in_packet_any (six : Bool) (n : Nat) (hn : n ≤ 10000) (f : UInt8) (w : World) :
    Calls Try.prog 7 #[.bool six, .int .i64 (n : Int), .int .u8 (f.toNat : Int)] w fun e w' => ∃ g, e = .returned (.slice (some ⟨g, 0, none⟩) (packM six n f).length (packM six n f).length) ∧ Mem w [blkE g 5 ((packM six n f).map u8v)] w' := by
  obtain ⟨i0, hi, hz0, hz1, hz2⟩ := info_parts Try.info5
  rw [packM_length]
  cases six with
  | false =>
    rw [show packM false n f = packB (hostM 1 2) (hostM 3 4) n f from rfl, show (if false = true then 40 else 20) + n = 20 + n from rfl]
    obtain ⟨c1, hc1⟩ : ∃ x, (hostM 1 2).cells.toArray = x := ⟨_, rfl⟩
    obtain ⟨c2, hc2⟩ : ∃ x, (hostM 3 4).cells.toArray = x := ⟨_, rfl⟩
    have HH1 := Lib.hid (show ∀ W, Calls Try.prog 27 #[.int .i64 1, .int .i64 2] W fun e w' => e = .returned (.agg c1) ∧ Below W.heap.size W w' from fun W => hc1 ▸ caseHost_any 1 2 W)
    have HH2 := Lib.hid (show ∀ W, Calls Try.prog 27 #[.int .i64 3, .int .i64 4] W fun e w' => e = .returned (.agg c2) ∧ Below W.heap.size W w' from fun W => hc2 ▸ caseHost_any 3 4 W)
    have HPK := Lib.hid (casePacket_any (hostM 1 2) (hostM 3 4) rfl rfl n hn f)
    rw [hc1, hc2] at HPK
    generalize packB (hostM 1 2) (hostM 3 4) n f = l at HPK ⊢
    generalize 20 + n = m at HPK ⊢
    clear hc1 hc2
    have HM := Lib.hid (Mem.nil w)
    go_enter Try.func7, Try.ntmps7
    go_wp2_with fail
    refine (HH1.out _).mono ?_
    rintro e w1 ⟨rfl, hb⟩
    replace HM := Lib.hid (show Mem w [] w1 from HM.out.below hb)
    clear hb
    go_wp2_with fail
    refine (HH2.out _).mono ?_
    rintro e w2 ⟨rfl, hb⟩
    replace HM := Lib.hid (show Mem w [] w2 from HM.out.below hb)
    clear hb
    go_wp2_with fail
    refine (HPK.out _).mono ?_
    rintro e w3 ⟨g, rfl, hm⟩
    have HN := Lib.hid (show Mem w [blkE g 5 (l.map u8v)] w3 from ⟨MemE.join hm.1 (HM.out.1.keep (Nat.le_refl _) (fun k _ hk => hm.bel.block k hk)), HM.out.bel.trans (hm.bel.mono HM.out.size)⟩)
    clear hm HM
    go_wp2_with fail
    go_ret
    exact ⟨g, rfl, HN.out⟩
  | true =>
    rw [show packM true n f = pack6B n f from rfl, show (if true = true then 40 else 20) + n = 40 + n from rfl, pack6B]
    obtain ⟨m, hm⟩ : ∃ m, 40 + n = m := ⟨_, rfl⟩
    have hw0 : IntKind.i64.wrap (40 + (n : Int)) = (m : Int) := by rw [IntWalk.i64_in _ (by omega)]; omega
    have hw1 := codeByte_wrap (n / 256)
    have hw2 := codeByte_wrap n
    have m8 : ((n : Int) / 256) = ((n / 256 : Nat) : Int) := by omega
    rw [hm]
    generalize UInt8.ofNat (n / 256) = u at hw1 ⊢
    generalize UInt8.ofNat n = v at hw2 ⊢
    generalize n / 256 = n9 at hw1 m8
    obtain ⟨tl, htl⟩ : ∃ t, pack6L n u v f = t := ⟨_, rfl⟩
    rw [htl]
    have HTL := Lib.hid htl
    clear htl
    have HM := Lib.hid (Mem.nil w)
    go_enter Try.func7, Try.ntmps7
    go_upto_region 4 with (refine wpList_make_full _ rfl (.tmp 16) (.tmp 16) 22 rfl w.heap.size 5 i0 (.int .u8 0) 1 Try.underlying22 hi hz0 hz1 .i64 .i64 m m m rfl rfl rfl rfl (by rw [hz2]; omega) (by unfold maxLen; omega) (Nat.le_refl _) ?_; intro w2 hown1 hg1)
    rw [show (Value.int IntKind.u8 0).cells = #[.int .u8 0] from rfl, toList_madeCells_one, Nat.mul_one] at hown1
    have hP0 := row_blk hown1
    rw [show List.replicate m (Value.int .u8 0) = ((List.replicate (40 + n) (0 : UInt8)).map u8v) by rw [hm, List.map_replicate]; rfl] at hP0
    replace HM := Lib.hid (show Mem w [blkE w.heap.size 5 ((List.replicate (40 + n) (0 : UInt8)).map u8v)] w2 from HM.out.made (Below.grown (Below.refl _ _) hg1 (Nat.le_refl _) (by simp)) hP0)
    clear hown1 hg1 hP0
    have pz : ∀ q, q < 40 → ((List.replicate (40 + n) (0 : UInt8)).map u8v)[q]? = some (.int .u8 0) := by
      intro q hq
      rw [List.getElem?_map, List.getElem?_replicate, if_pos (by omega)]
      rfl
    generalize w.heap.size = P at HM ⊢
    have f0 := ((HM.out.blk 0 rfl).cell 0).trans (pz 0 (by omega))
    have z0 := (HM.out.blk 0 rfl).frozen 0
    have m0' : (0 : Int) < (m : Int) := by omega
    have f4 := ((HM.out.blk 0 rfl).cell 4).trans (pz 4 (by omega))
    have z4 := (HM.out.blk 0 rfl).frozen 4
    have m4' : (4 : Int) < (m : Int) := by omega
    have f5 := ((HM.out.blk 0 rfl).cell 5).trans (pz 5 (by omega))
    have z5 := (HM.out.blk 0 rfl).frozen 5
    have m5' : (5 : Int) < (m : Int) := by omega
    have f8 := ((HM.out.blk 0 rfl).cell 8).trans (pz 8 (by omega))
    have z8 := (HM.out.blk 0 rfl).frozen 8
    have m8' : (8 : Int) < (m : Int) := by omega
    have f24 := ((HM.out.blk 0 rfl).cell 24).trans (pz 24 (by omega))
    have z24 := (HM.out.blk 0 rfl).frozen 24
    have m24' : (24 : Int) < (m : Int) := by omega
    have HN := Lib.hid (show Mem w [blkE P 5 (tl.map u8v)] (((((w2.setCell ⟨P, 0, none⟩ (.int .u8 96)).setCell ⟨P, 4, none⟩ (.int .u8 (u.toNat : Int))).setCell ⟨P, 5, none⟩ (.int .u8 (v.toNat : Int))).setCell ⟨P, 8, none⟩ (.int .u8 253)).setCell ⟨P, 24, none⟩ (.int .u8 (f.toNat : Int))) from by
      have h := ((((HM.out.setCell 0 rfl 0 (u8v 96)).setCell 0 rfl 4 (u8v u)).setCell 0 rfl 5 (u8v v)).setCell 0 rfl 8 (u8v 253)).setCell 0 rfl 24 (u8v f)
      rw [← List.map_set, ← List.map_set, ← List.map_set, ← List.map_set, ← List.map_set, pack6_of, HTL.out] at h
      exact h)
    clear HM pz
    go_wp2_with fail
    go_ret
    exact ⟨P, rfl, HN.out⟩
end Go.Proofs.Ytdpdalkeafkhkaa
