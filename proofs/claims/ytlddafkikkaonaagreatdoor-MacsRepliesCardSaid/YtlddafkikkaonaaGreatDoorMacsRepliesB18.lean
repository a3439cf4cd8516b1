/-
  The contracts of xchacha.readWords, writeWords and stateOf: words out of bytes, bytes out of words, and the words that are mixed. What is asked of xchacha.Derive, Seal and Open. The contract of xchacha.Derive. The contracts of aead.padding, length and tagData: the data that a tag is for. The mathematics of numbers of five limbs of 26 bits, as the program's Poly1305 keeps them: carries, sums, products and their values modulo 2^130 - 5. The mathematics of Poly1305's key and pieces as the program reads them: masks of words, the number of a piece, the last sum. The contract of the program's carry over its five limbs. No statement is proved here.
-/
import Derived.Laws.BitsAllLaws
import Derived.Laws.Bits64
import Derived.Laws.ShiftsVarLaws
import Derived.RegionTactic
import Derived.BigRegion
import Derived.Deep.DeepCutAuto
import Derived.Test.YtlddafkikkaonaaGreatDoorMacsRepliesB17
namespace Go.Proofs.YtlddafkikkaonaaGreatDoor
open Go.RowKit
theorem xcReadWords_any (G off n c kb m : Nat) (t tk : TypeId) (l : List UInt32) (bs : List UInt8) (hl : l.length = 16) (hoff : off + n ≤ 16) (hc : n ≤ c) (hb : bs.length = m) (hm : 4 * n ≤ m) (hm2 : m ≤ 1000) (hkG : G ≠ kb) (w : World) (hG : Blk w G t (l.map u32v)) (hK : Blk w kb tk (bs.map u8v)) :
 Calls Tryz.prog 84 #[.slice (some ⟨G, off, none⟩) n c, .slice (some ⟨kb, 0, none⟩) m m] w fun e w' => e = .returned (.tuple #[]) ∧ Blk w' G t ((fillW l off (wordL bs) n).map u32v) ∧ w.grownBy w' (some G) := by
 have HG := Lib.hid hG
 have HK := Lib.hid hK
 have HL := Lib.hid hl
 have HB := Lib.hid hb
 have HKG := Lib.hid hkG
 clear hG hK hl hb hkG
 go_enter Tryz.func84, Tryz.ntmps84
 go_wp2
 go_loopw [7, 4] (fun i _ wr => ∃ j : Nat, j ≤ n ∧ i = .int .i64 j ∧ Blk wr G t ((fillW l off (wordL bs) j).map u32v) ∧ Blk wr kb tk (bs.map u8v) ∧ w.grownBy wr (some G)) (fun i _ _ => n - (intOf i).toNat)
 case atStart => exact ⟨0, by omega, rfl, HG.out, HK.out, World.grownBy.refl _ _⟩
 case round =>
  obtain ⟨j, hj, rfl, hblk, hk, hg⟩ := hrel
  by_cases hlt : j < n
  ·
   have rd := hk.rd (4 * j) 4 (by have := HB.out; omega)
   have RL := Lib.hid (readLittle_any _ _ 4 (m - 4 * j) _ (by omega) wr rd)
   have hlen : (fillW l off (wordL bs) j).length = 16 := by rw [fillW_length]; exact HL.out
   have fx := hblk.word (off + j) (by omega)
   have zx := hblk.frozen (off + j)
   have WW := Lib.hid (word_wrap bs j)
   have HN := Lib.hid (And.intro (hblk.setWord (off + j) (wordL bs j)) (And.intro (hk.far (p := ⟨G, off + j, none⟩) HKG.out.symm (.int .u32 ((wordL bs j).toNat : Int))) (grown_set hg (off + j) (.int .u32 ((wordL bs j).toNat : Int)))))
   clear hblk hk hg rd hlen
   go_wp2_with fail
   rw [show (j + 1) * 4 - j * 4 = 4 by omega, Nat.mul_comm j 4]
   refine RL.out.mono ?_
   rintro e w1 ⟨rfl, rfl⟩
   clear RL
   obtain ⟨N, hN⟩ : ∃ N, numL (((bs.drop (4 * j)).take 4).take 8) = N := ⟨_, rfl⟩
   have WN := WW.out
   rw [hN] at WN ⊢
   clear hN WW
   go_wp2
   go_roundw
   case rel =>
    exact ⟨j + 1, by omega, by go_num, HN.out.1, HN.out.2.1, HN.out.2.2⟩
   case measure => simp [intOf]; omega
  ·
   obtain rfl : j = n := by omega
   have HN := Lib.hid (And.intro hblk hg)
   clear hblk hg hk
   go_wp2
   refine bodyPost_end (results_none rfl _ _ _) rfl ⟨rfl, HN.out.1, HN.out.2⟩
theorem grown_trans' {a w w' : World} {row : Option Nat} (h : a.grownBy w row) (k : w.grownBy w' row) : a.grownBy w' row :=
 ⟨k.os.trans h.os, k.tape.trans h.tape, k.output.trans h.output, Nat.le_trans h.size k.size, fun i hi hr => (k.block i (Nat.lt_of_lt_of_le hi h.size) hr).trans (h.block i hi hr)⟩
theorem grown_below {a w w' : World} {row : Option Nat} (h : a.grownBy w row) (hb : Below w.heap.size w w') : a.grownBy w' row :=
 grown_trans' h ⟨hb.os, hb.tape, hb.output, hb.size, fun i hi _ => hb.block i hi⟩
theorem grown_drew {a w : World} {row : Option Nat} (h : a.grownBy w row) : a.grownBy w.drew row := ⟨h.os, h.tape, h.output, h.size, h.block⟩
/-- l with the bytes of words laid from off on -/
def writeW (l : List UInt8) (off : Nat) (f : Nat → UInt32) : Nat → List UInt8
 | 0 => l
 | j + 1 => putL (writeW l off f j) (off + 4 * j) (littleL (f j).toNat 4)
theorem writeW_length (l : List UInt8) (off : Nat) (f : Nat → UInt32) : ∀ j, off + 4 * j ≤ l.length → (writeW l off f j).length = l.length
 | 0, _ => rfl
 | j + 1, h => by
  have := writeW_length l off f j (by omega)
  rw [writeW, putL_length _ _ _ (by rw [littleL_length]; omega), this]
set_option maxRecDepth 100000 in
theorem xcWriteWords_any (G off c H o2 n c2 M : Nat) (t th : TypeId) (l : List UInt8) (ws : List UInt32) (hl : l.length = M) (hM : off + 4 * n ≤ M) (_hM2 : M ≤ 1000) (hc : 4 * n ≤ c) (hcm : c ≤ 1000) (hw : o2 + n ≤ ws.length) (hc2 : n ≤ c2) (hHG : H ≠ G) (w : World) (hG : Blk w G t (l.map u8v)) (hH : Blk w H th (ws.map u32v)) :
 Calls Tryz.prog 70 #[.slice (some ⟨G, off, none⟩) (4 * n : Nat) c, .slice (some ⟨H, o2, none⟩) n c2] w fun e w' => e = .returned (.tuple #[]) ∧ Blk w' G t ((writeW l off (fun i => wd ws (o2 + i)) n).map u8v) ∧ w.grownBy w' (some G) := by
 have HG := Lib.hid hG
 have HH := Lib.hid hH
 have HL := Lib.hid hl
 have HW := Lib.hid hw
 have HHG := Lib.hid hHG
 clear hG hH hl hw hHG
 go_enter Tryz.func70, Tryz.ntmps70
 go_wp2
 go_loopw [8, 4, 5] (fun i _ _ wr => ∃ j : Nat, j ≤ n ∧ i = .int .i64 j ∧ Blk wr G t ((writeW l off (fun i => wd ws (o2 + i)) j).map u8v) ∧ Blk wr H th (ws.map u32v) ∧ w.grownBy wr (some G)) (fun i _ _ _ => n - (intOf i).toNat)
 case atStart => exact ⟨0, by omega, rfl, HG.out, HH.out, World.grownBy.refl _ _⟩
 case round =>
  clear HG HH
  obtain ⟨j, hj, rfl, hg, hh, hgr⟩ := hrel
  by_cases hlt : j < n
  ·
   have fx := hh.word (o2 + j) (by have := HW.out; omega)
   have hlen : (writeW l off (fun i => wd ws (o2 + i)) j).length = M := by rw [writeW_length _ _ _ _ (by have := HL.out; omega)]; exact HL.out
   have hnx : writeW l off (fun i => wd ws (o2 + i)) (j + 1) = putL (writeW l off (fun i => wd ws (o2 + i)) j) (off + 4 * j) (littleL (wd ws (o2 + j)).toNat 4) := rfl
   generalize writeW l off (fun i => wd ws (o2 + i)) j = cur at hg hlen hnx
   have HX := Lib.hid hnx
   clear hnx
   obtain ⟨x, hx⟩ : ∃ x, wd ws (o2 + j) = x := ⟨_, rfl⟩
   rw [hx] at fx
   have HB := Lib.hid (And.intro hg (And.intro hh hgr))
   clear hg hh hgr
   have hwr : IntKind.i64.wrap ((j : Int) * 4) = (j : Int) * 4 := IntWalk.i64_in _ (by omega)
   have hwc : IntKind.u64.wrap (x.toNat : Int) = (x.toNat : Int) := by
    have := x.toNat_lt
    rw [IntKind.wrap_u64]
    omega
   have hsl : ∀ w' : World, (Instr.sliceAt 29 (.slice (some ⟨G, off, none⟩) (4 * n) c) (some (.int .i64 ((j : Int) * 4))) none none).run Tryz.prog w' = .ok (.slice (some ⟨G, off + 4 * j, none⟩) (4 * n - 4 * j) (c - 4 * j)) w' := by
    intro w'
    have h := slice_l (some ⟨G, off, none⟩) (4 * n) c (4 * j) (by omega) w'
    rw [addrOf, if_neg (by omega), Option.map_some, Go.WideShapes.add_plain, Nat.mul_one, show ((4 * j : Nat) : Int) = (j : Int) * 4 by omega] at h
    exact h
   have HLI := Lib.hid (fun w' : World => little_any x.toNat (by have := x.toNat_lt; omega) 4 (by omega) (by omega) w')
   have HLEN := Lib.hid hlen
   clear hlen
   go_upto_region 3 with fail
   refine wp_region_held_drew (S := fun _ => True) (by kernel_rfl) (trivial) (fun hHeld => ?_)
   refine tf (v := ?_) 0 rfl (Or.inl ⟨by rfl, ?_⟩) ?_
   rotate_left
   · (intro w hSw; (try dsimp only at hSw); go_simp; try with_reducible rfl)
   (try simp only [Act.put, sA, s0, s1])
   refine tf (v := ?_) 1 rfl (Or.inl ⟨by rfl, ?_⟩) ?_
   rotate_left
   · (intro w hSw; (try dsimp only at hSw); go_simp; try with_reducible rfl)
   (try simp only [Act.put, sA, s0, s1])
   refine tf (v := ?_) 2 rfl (Or.inl ⟨by rfl, ?_⟩) ?_
   rotate_left
   · (intro w hSw; (try dsimp only at hSw); go_simp; try with_reducible rfl)
   (try simp only [Act.put, sA, s0, s1])
   refine tf (v := ?_) 3 rfl (Or.inl ⟨by rfl, ?_⟩) ?_
   rotate_left
   · (intro w hSw; (try dsimp only at hSw); go_simp; try with_reducible rfl)
   (try simp only [Act.put, sA, s0, s1])
   refine tf (v := ?_) 4 rfl (Or.inl ⟨by rfl, ?_⟩) ?_
   rotate_left
   · (intro w hSw; (try dsimp only at hSw); go_simp; try with_reducible rfl)
   (try simp only [Act.put, sA, s0, s1])
   refine tf (v := ?_) 5 rfl (Or.inl ⟨by rfl, ?_⟩) ?_
   rotate_left
   · (intro w hSw; (try dsimp only at hSw); go_simp; try with_reducible rfl)
   (try simp only [Act.put, sA, s0, s1])
   refine so 6 rfl fun K hK => ?_
   go_simp
   refine (HLI.out _).mono ?_
   rintro e wq ⟨rfl, hown, hbq⟩
   have HB8 := Lib.hid (show Blk wq G t (cur.map u8v) ∧ Blk wq H th (ws.map u32v) ∧ w.grownBy wq (some G) from ⟨HB.out.1.drew.below hbq HB.out.1.lt, HB.out.2.1.drew.below hbq HB.out.2.1.lt, grown_below (grown_drew HB.out.2.2) hbq⟩)
   have HO := Lib.hid hown
   clear hown hbq
   go_wp2_with fail
   refine hK.out _ _ (trivial) (fun hHeld => ?_)
   clear hK K
   (try simp only [Act.put, sA, s0, s1])
   refine so 7 rfl fun K hK => ?_
   refine step_copy_bytes _ rfl (.tmp 16) (.tmp 19) 29 29 (by rfl) 5 Tryz.underlying29 (by kernel_rfl) G (off + 4 * j) (4 * n - 4 * j) (c - 4 * j) ⟨wr.heap.size, 0, none⟩ 4 4 (by rfl) (by rfl) (cur.map u8v) t HB8.out.1 ((littleL x.toNat 4).map u8v) (by rw [List.length_map, littleL_length]; exact (Nat.min_eq_left (show 4 ≤ 4 * n - 4 * j by omega)).symm) (Rd.of_own HO.out).src (by simp only [List.length_map, littleL_length, HLEN.out]; omega) (u8v_one _) ?_
   intro w8 hb8 hg8
   rw [putL_map] at hb8
   refine hK.out _ _ (trivial) (fun hHeld => ?_)
   clear hK K
   (try simp only [Act.put, sA, s0, s1])
   refine wpAnyH_done (by kernel_rfl) ?_ _
   have HN := Lib.hid (show Blk w8 G t ((writeW l off (fun i => wd ws (o2 + i)) (j + 1)).map u8v) ∧ Blk w8 H th (ws.map u32v) ∧ w.grownBy w8 (some G) from by
    rw [HX.out, hx]
    exact ⟨hb8, HB8.out.2.1.grown hg8 (by intro e; injection e with e; exact HHG.out e), grown_trans' HB8.out.2.2 hg8⟩)
   clear hb8 hg8 HB8 HB HO hwr hwc hsl
   go_wp2
   go_roundw
   case rel => exact ⟨j + 1, by omega, by go_num, HN.out.1, HN.out.2.1, HN.out.2.2⟩
   case measure => simp [intOf]; omega
  ·
   obtain rfl : j = n := by omega
   have HN := Lib.hid (And.intro hg hgr)
   clear hg hgr hh
   go_wp2
   refine bodyPost_end (results_none rfl _ _ _) rfl ⟨rfl, HN.out.1, HN.out.2⟩
set_option maxRecDepth 100000 in
theorem xcStateOf_any (k inn : List UInt8) (hk : k.length = 32) (hin : inn.length = 16) (w : World) :
 Calls Tryz.prog 69 #[.agg (k.map u8v).toArray, .agg (inn.map u8v).toArray] w fun e w' => e = .returned (.agg ((xcW k inn).map u32v).toArray) ∧ Below w.heap.size w w' := by
 obtain ⟨ck, hck⟩ : ∃ ck, (k.map u8v).toArray = ck := ⟨_, rfl⟩
 obtain ⟨ci, hci⟩ : ∃ ck, (inn.map u8v).toArray = ck := ⟨_, rfl⟩
 rw [hck, hci]
 have HM := Lib.hid (show Mem w [blkE (w.heap.size + 1 + 1) 86 z16, blkE (w.heap.size + 1) 26 (inn.map u8v), blkE w.heap.size 23 (k.map u8v)] (((w.alloc (.cells ck 23)).alloc (.cells ci 26)).alloc (.cells zw16_ 86)) from (((Mem.nil w).alloc rfl 23 ck (k.map u8v) hck.symm).alloc (by simp) 26 ci (inn.map u8v) hci.symm).alloc (by simp) 86 zw16_ z16 rfl)
 have HK := Lib.hid hk
 have HN := Lib.hid hin
 have HBM := Lib.hid base_map
 clear hk hin hck hci
 go_enter Tryz.func69, Tryz.ntmps69
 go_upto_region 1 with fail
 generalize hw1 : (((w.alloc (.cells ck 23)).alloc (.cells ci 26)).alloc (.cells zw16_ 86)) = w1 at HM ⊢
 have HS1 := Lib.hid (show w1.heap.size = w.heap.size + 3 by rw [← hw1]; simp)
 clear hw1
 have HA := Lib.hid (show Mem w [blkE w1.heap.size 86 z16, blkE (w.heap.size + 1 + 1) 86 z16, blkE (w.heap.size + 1) 26 (inn.map u8v), blkE w.heap.size 23 (k.map u8v)] (w1.alloc (.cells zw16_ 86)) from HM.out.alloc rfl 86 zw16_ z16 rfl)
 go_upto_region 2 with (refine wpList_store_blk rfl 86 (.tmp 5) (.tmp 6) rfl w1.heap.size (baseW.map u32v) rfl (by rw [HBM.out]; rfl) 86 z16 (HA.out.blk 0 rfl) (cells16 baseW rfl) rfl (u32v_one _) ?_; intro w2 hb2 hg2)
 (try simp only [Act.put])
 replace HM := Lib.hid (show Mem w [blkE w1.heap.size 86 (baseW.map u32v), blkE (w.heap.size + 1 + 1) 86 z16, blkE (w.heap.size + 1) 26 (inn.map u8v), blkE w.heap.size 23 (k.map u8v)] w2 from HA.out.put 0 rfl _ hg2 hb2)
 clear hb2 hg2 HA HBM
 have HGN := Lib.hid (show w1.heap.size ≠ w.heap.size ∧ w1.heap.size ≠ w.heap.size + 1 by have := HS1.out; omega)
 clear HS1
 generalize w1.heap.size = G at HM HGN ⊢
 go_cut [] (fun wx => Mem w [blkE G 86 ((fillW baseW 4 (wordL k) 8).map u32v), blkE (w.heap.size + 1 + 1) 86 z16, blkE (w.heap.size + 1) 26 (inn.map u8v), blkE w.heap.size 23 (k.map u8v)] wx)
 case first =>
  have RW := Lib.hid (fun w' : World => fun h1 h2 => xcReadWords_any G 4 8 12 w.heap.size 32 86 23 (baseW) k rfl (by omega) (by omega) HK.out (by omega) (by omega) HGN.out.1 w' h1 h2)
  go_region_with ((go_at_call 84; refine (RW.out w2.drew (HM.out.drew.blk 0 rfl) (HM.out.drew.blk 3 rfl)).mono ?_; rintro e w4 ⟨rfl, hb4, hg4⟩))
  all_goals (go_wp2; go_meet; exact HM.out.drew.put 0 rfl _ hg4 hb4)
 case rest =>
  replace HM := Lib.hid hcut
  clear hcut
  go_upto_region 3 with fail
  go_cut [] (fun wx => Mem w [blkE G 86 ((fillW (fillW baseW 4 (wordL k) 8) 12 (wordL inn) 4).map u32v), blkE (w.heap.size + 1 + 1) 86 z16, blkE (w.heap.size + 1) 26 (inn.map u8v), blkE w.heap.size 23 (k.map u8v)] wx)
  case first =>
   have RW := Lib.hid (fun w' : World => fun h1 h2 => xcReadWords_any G 12 4 4 (w.heap.size + 1) 16 86 26 (fillW baseW 4 (wordL k) 8) inn (by rw [fillW_length]; rfl) (by omega) (by omega) HN.out (by omega) (by omega) HGN.out.2 w' h1 h2)
   go_region_with ((go_at_call 84; refine (RW.out wc.drew (HM.out.drew.blk 0 rfl) (HM.out.drew.blk 2 rfl)).mono ?_; rintro e w4 ⟨rfl, hb4, hg4⟩))
   all_goals (go_wp2; go_meet; exact HM.out.drew.put 0 rfl _ hg4 hb4)
  case rest =>
   replace HM := Lib.hid hcut
   clear hcut
   have HZ := Lib.hid (show fillW (fillW baseW 4 (wordL k) 8) 12 (wordL inn) 4 = xcW k inn from rfl)
   have HLz := Lib.hid (xcW_length k inn)
   rw [HZ.out] at HM
   clear HZ
   obtain ⟨lz, hlz⟩ : ∃ l, xcW k inn = l := ⟨_, rfl⟩
   rw [hlz] at HM HLz
   have HSZ := Lib.hid hlz
   clear hlz
   obtain ⟨cz, hcz⟩ : ∃ cz, (lz.map u32v).toArray = cz := ⟨_, rfl⟩
   have HCZ := Lib.hid hcz
   clear hcz
   go_wp2_with (first | (refine wpList_load_blk rfl 86 (.tmp 5) rfl G rfl 86 (lz.map u32v) (HM.out.blk 0 rfl) 16 28 Tryz.underlying86 (cells16 lz HLz.out) ?_; rw [HCZ.out]) | (refine wpList_store_blk rfl 86 (.tmp 4) (.tmp 13) rfl (w.heap.size + 1 + 1) (lz.map u32v) rfl (by show Value.agg cz = _; rw [HCZ.out]) 86 z16 (HM.out.blk 1 rfl) (cells16 lz HLz.out) (by rw [List.length_map, HLz.out]; rfl) (u32v_one _) ?_; intro w9 hb9 hg9))
   exact bodyPost_ret (results_blk rfl _ _ (w.heap.size + 1 + 1) 86 (lz.map u32v) 16 28 rfl hb9 Tryz.underlying86 (cells16 lz HLz.out)) rfl ⟨by rw [HSZ.out], (HM.out.put 1 rfl _ hg9 hb9).bel⟩
def DeriveC : Prop := ∀ (k inn : List UInt8), k.length = 32 → inn.length = 16 → ∀ w : World,
 Calls Tryz.prog 51 #[.agg (k.map u8v).toArray, .agg (inn.map u8v).toArray] w fun e w' => e = .returned (.agg ((deriveL k inn).map u8v).toArray) ∧ Below w.heap.size w w'
def XSealC : Prop := ∀ (k n : List UInt8), k.length = 32 → n.length = 24 → ∀ (Ap Am : Option Addr) (np cp nm cm : Nat) (pl more : List UInt8), np ≤ cp → cp ≤ maxLen → nm ≤ cm → cm ≤ maxLen → np ≤ 100000 → nm ≤ 100000 → ∀ w : World, Rd w w.heap.size Ap np pl → Rd w w.heap.size Am nm more →
 Calls Tryz.prog 13 #[.agg (k.map u8v).toArray, .agg (n.map u8v).toArray, .slice Ap np cp, .slice Am nm cm] w fun e w' => ∃ A c', e = .returned (.slice A (np + 16) c') ∧ w'.ownsRow w.heap.size 5 1 (.slice A (np + 16) c') (np + 16) ((xsealL k n pl more).map u8v) ∧ Below w.heap.size w w'
def XOpenC : Prop := ∀ (k n : List UInt8), k.length = 32 → n.length = 24 → ∀ (As Am : Option Addr) (ns cs nm cm : Nat) (sl more : List UInt8), ns ≤ cs → cs ≤ maxLen → nm ≤ cm → cm ≤ maxLen → ns ≤ 100000 → nm ≤ 100000 → ∀ w : World, Rd w w.heap.size As ns sl → Rd w w.heap.size Am nm more →
 Calls Tryz.prog 17 #[.agg (k.map u8v).toArray, .agg (n.map u8v).toArray, .slice As ns cs, .slice Am nm cm] w fun e w' => ∃ A c', e = .returned (.tuple #[.slice A (xopenL k n sl more).1.length c', .int .i64 ((xopenL k n sl more).2 : Int)]) ∧ Rd w' w'.heap.size A (xopenL k n sl more).1.length (xopenL k n sl more).1 ∧ (xopenL k n sl more).1.length ≤ c' ∧ c' ≤ maxLen ∧ Below w.heap.size w w'
theorem der_eight (b0 b1 b2 b3 c0 c1 c2 c3 : List UInt8) (hb0 : b0.length = 4) (hb1 : b1.length = 4) (hb2 : b2.length = 4) (hb3 : b3.length = 4) (hc0 : c0.length = 4) (hc1 : c1.length = 4) (hc2 : c2.length = 4) (hc3 : c3.length = 4) :
 putL (putL (putL (putL (putL (putL (putL (putL (List.replicate 32 0) 0 b0) 4 b1) 8 b2) 12 b3) 16 c0) 20 c1) 24 c2) 28 c3 = b0 ++ (b1 ++ (b2 ++ (b3 ++ (c0 ++ (c1 ++ (c2 ++ c3)))))) := by
 match b0, hb0, b1, hb1, b2, hb2, b3, hb3, c0, hc0, c1, hc1, c2, hc2, c3, hc3 with
 | [_, _, _, _], _, [_, _, _, _], _, [_, _, _, _], _, [_, _, _, _], _, [_, _, _, _], _, [_, _, _, _], _, [_, _, _, _], _, [_, _, _, _], _ => simp [putL]
theorem der_write (ms : List UInt32) (h : ms.length = 16) : writeW (writeW (List.replicate 32 (0 : UInt8)) 0 (fun i => wd ms (0 + i)) 4) 16 (fun i => wd ms (12 + i)) 4 = (ms.take 4 ++ ms.drop 12).flatMap fun x => littleL x.toNat 4 := by
 match ms, h with
 | [a0, a1, a2, a3, a4, a5, a6, a7, a8, a9, a10, a11, a12, a13, a14, a15], _ =>
  have h4 := der_eight (littleL a0.toNat 4) (littleL a1.toNat 4) (littleL a2.toNat 4) (littleL a3.toNat 4) (littleL a12.toNat 4) (littleL a13.toNat 4) (littleL a14.toNat 4) (littleL a15.toNat 4) (littleL_length _ _) (littleL_length _ _) (littleL_length _ _) (littleL_length _ _) (littleL_length _ _) (littleL_length _ _) (littleL_length _ _) (littleL_length _ _)
  simpa [writeW, wd] using h4
set_option maxRecDepth 100000 in
theorem deriveC : DeriveC := by
 intro k inn hk hin w
 have SC := fun w' : World => xcStateOf_any k inn hk hin w'
 have CC := fun w' : World => core_any (xcW k inn) (xcW_length k inn) w'
 rw [show coreW 10 (xcW k inn) = xcoreW k inn from rfl] at CC
 have hms := xcoreW_length k inn
 have hdr : deriveL k inn = ((xcoreW k inn).take 4 ++ (xcoreW k inn).drop 12).flatMap fun x => littleL x.toNat 4 := rfl
 rw [← der_write _ hms] at hdr
 generalize xcoreW k inn = ms at CC hms hdr
 obtain ⟨ck, hck⟩ : ∃ ck, (k.map u8v).toArray = ck := ⟨_, rfl⟩
 obtain ⟨ci, hci⟩ : ∃ ck, (inn.map u8v).toArray = ck := ⟨_, rfl⟩
 obtain ⟨cx, hcx⟩ : ∃ c, ((xcW k inn).map u32v).toArray = c := ⟨_, rfl⟩
 obtain ⟨cm, hcm⟩ : ∃ c, (ms.map u32v).toArray = c := ⟨_, rfl⟩
 rw [hck, hci, hcx] at SC
 rw [hcx, hcm] at CC
 rw [hck, hci]
 have HM := Lib.hid (show Mem w [blkE (w.heap.size + 1 + 1) 23 (aeZ 32), blkE (w.heap.size + 1) 26 (inn.map u8v), blkE w.heap.size 23 (k.map u8v)] (((w.alloc (.cells ck 23)).alloc (.cells ci 26)).alloc (.cells zb32 23)) from (((Mem.nil w).alloc rfl 23 ck (k.map u8v) hck.symm).alloc (by simp) 26 ci (inn.map u8v) hci.symm).alloc (by simp) 23 zb32 (aeZ 32) rfl)
 have HC := Lib.hid (And.intro hck (And.intro hci hcm))
 have HL := Lib.hid (And.intro hk hin)
 have HMS := Lib.hid hms
 have HDR := Lib.hid hdr
 have HSC := Lib.hid SC
 have HCC := Lib.hid CC
 clear hck hci hcx hcm hk hin hms hdr SC CC
 go_enter Tryz.func51, Tryz.ntmps51
 go_upto_region 1 with fail
 generalize (((w.alloc (.cells ck 23)).alloc (.cells ci 26)).alloc (.cells zb32 23)) = w1 at HM ⊢
 go_wp2_with (first | (refine wpList_load_blk rfl 23 (.tmp 2) rfl w.heap.size rfl 23 (k.map u8v) (HM.out.blk 2 rfl) 32 5 Tryz.underlying23 (cells32 k HL.out.1) ?_; rw [HC.out.1]) | (refine wpList_load_blk rfl 26 (.tmp 3) rfl (w.heap.size + 1) rfl 26 (inn.map u8v) (HM.out.blk 1 rfl) 16 5 Tryz.underlying26 (xc_cells16 _ HL.out.2) ?_; rw [HC.out.2.1]))
 refine (HSC.out _).mono ?_
 rintro e w2 ⟨rfl, hb⟩
 replace HM := Lib.hid (show Mem w [blkE (w.heap.size + 1 + 1) 23 (aeZ 32), blkE (w.heap.size + 1) 26 (inn.map u8v), blkE w.heap.size 23 (k.map u8v)] w2 from HM.out.below hb)
 clear hb
 go_wp2_with fail
 refine (HCC.out _).mono ?_
 rintro e w3 ⟨rfl, hb⟩
 replace HM := Lib.hid (show Mem w [blkE (w.heap.size + 1 + 1) 23 (aeZ 32), blkE (w.heap.size + 1) 26 (inn.map u8v), blkE w.heap.size 23 (k.map u8v)] w3 from HM.out.below hb)
 clear hb
 have HA := Lib.hid (show Mem w [blkE w3.heap.size 86 z16, blkE (w.heap.size + 1 + 1) 23 (aeZ 32), blkE (w.heap.size + 1) 26 (inn.map u8v), blkE w.heap.size 23 (k.map u8v)] (w3.alloc (.cells zw16_ 86)) from HM.out.alloc rfl 86 zw16_ z16 rfl)
 go_upto_region 2 with (refine wpList_store_blk rfl 86 (.tmp 5) (.tmp 10) rfl w3.heap.size (ms.map u32v) rfl (by show Value.agg cm = _; rw [HC.out.2.2]) 86 z16 (HA.out.blk 0 rfl) (cells16 ms HMS.out) (by rw [List.length_map, HMS.out]; rfl) (u32v_one _) ?_; intro w4 hb4 hg4)
 (try simp only [Act.put])
 replace HM := Lib.hid (show Mem w [blkE w3.heap.size 86 (ms.map u32v), blkE (w.heap.size + 1 + 1) 23 (aeZ 32), blkE (w.heap.size + 1) 26 (inn.map u8v), blkE w.heap.size 23 (k.map u8v)] w4 from HA.out.put 0 rfl _ hg4 hb4)
 have HP := Lib.hid (show w3.heap.size < w4.heap.size by have := hg4.size; simp at this; omega)
 clear hb4 hg4 HA
 generalize w3.heap.size = P at HM HP ⊢
 have HA := Lib.hid (show Mem w [blkE w4.heap.size 23 ((List.replicate 32 (0 : UInt8)).map u8v), blkE P 86 (ms.map u32v), blkE (w.heap.size + 1 + 1) 23 (aeZ 32), blkE (w.heap.size + 1) 26 (inn.map u8v), blkE w.heap.size 23 (k.map u8v)] (w4.alloc (.cells zb32 23)) from HM.out.alloc rfl 23 zb32 ((List.replicate 32 (0 : UInt8)).map u8v) rfl)
 go_upto_region 3 with fail
 replace HM := HA
 clear HA
 generalize w4.alloc (.cells zb32 23) = w5 at HM ⊢
 have HPQ := Lib.hid (show P ≠ w4.heap.size from Nat.ne_of_lt HP.out)
 clear HP
 generalize w4.heap.size = Q at HM HPQ ⊢
 go_cut [] (fun wx => Mem w [blkE Q 23 ((writeW (List.replicate 32 (0 : UInt8)) 0 (fun i => wd ms (0 + i)) 4).map u8v), blkE P 86 (ms.map u32v), blkE (w.heap.size + 1 + 1) 23 (aeZ 32), blkE (w.heap.size + 1) 26 (inn.map u8v), blkE w.heap.size 23 (k.map u8v)] wx)
 case first =>
  have RW := Lib.hid (fun w' : World => fun h1 h2 => xcWriteWords_any Q 0 32 P 0 4 16 32 23 86 (List.replicate 32 (0 : UInt8)) ms rfl (by omega) (by omega) (by omega) (by omega) (by rw [HMS.out]; omega) (by omega) HPQ.out w' h1 h2)
  go_region_with ((go_at_call 70; refine (RW.out w5.drew (HM.out.drew.blk 0 rfl) (HM.out.drew.blk 1 rfl)).mono ?_; rintro e w4 ⟨rfl, hb4, hg4⟩))
  all_goals (go_wp2; go_meet; exact HM.out.drew.put 0 rfl _ hg4 hb4)
 case rest =>
  replace HM := Lib.hid hcut
  clear hcut
  go_upto_region 4 with fail
  go_cut [] (fun wx => Mem w [blkE Q 23 ((writeW (writeW (List.replicate 32 (0 : UInt8)) 0 (fun i => wd ms (0 + i)) 4) 16 (fun i => wd ms (12 + i)) 4).map u8v), blkE P 86 (ms.map u32v), blkE (w.heap.size + 1 + 1) 23 (aeZ 32), blkE (w.heap.size + 1) 26 (inn.map u8v), blkE w.heap.size 23 (k.map u8v)] wx)
  case first =>
   have RW := Lib.hid (fun w' : World => fun h1 h2 => xcWriteWords_any Q 16 16 P 12 4 4 32 23 86 (writeW (List.replicate 32 (0 : UInt8)) 0 (fun i => wd ms (0 + i)) 4) ms (by rw [writeW_length _ _ _ _ (by simp)]; rfl) (by omega) (by omega) (by omega) (by omega) (by rw [HMS.out]; omega) (by omega) HPQ.out w' h1 h2)
   go_region_with ((go_at_call 70; refine (RW.out wc.drew (HM.out.drew.blk 0 rfl) (HM.out.drew.blk 1 rfl)).mono ?_; rintro e w4 ⟨rfl, hb4, hg4⟩))
   all_goals (go_wp2; go_meet; exact HM.out.drew.put 0 rfl _ hg4 hb4)
  case rest =>
   replace HM := Lib.hid hcut
   clear hcut
   rw [← HDR.out] at HM
   have HLz := Lib.hid (deriveL_length k inn)
   obtain ⟨lz, hlz⟩ : ∃ l, deriveL k inn = l := ⟨_, rfl⟩
   rw [hlz] at HM HLz
   have HSZ := Lib.hid hlz
   clear hlz
   obtain ⟨cz, hcz⟩ : ∃ cz, (lz.map u8v).toArray = cz := ⟨_, rfl⟩
   have HCZ := Lib.hid hcz
   clear hcz
   go_wp2_with (first | (refine wpList_load_blk rfl 23 (.tmp 6) rfl Q rfl 23 (lz.map u8v) (HM.out.blk 0 rfl) 32 5 Tryz.underlying23 (cells32 lz HLz.out) ?_; rw [HCZ.out]) | (refine wpList_store_blk rfl 23 (.tmp 4) (.tmp 17) rfl (w.heap.size + 1 + 1) (lz.map u8v) rfl (by show Value.agg cz = _; rw [HCZ.out]) 23 (aeZ 32) (HM.out.blk 2 rfl) (cells32 lz HLz.out) (by rw [List.length_map, HLz.out]; rfl) (u8v_one _) ?_; intro w9 hb9 hg9))
   exact bodyPost_ret (results_blk rfl _ _ (w.heap.size + 1 + 1) 23 (lz.map u8v) 32 5 rfl hb9 Tryz.underlying23 (cells32 lz HLz.out)) rfl ⟨by rw [HSZ.out], (HM.out.put 2 rfl _ hg9 hb9).bel⟩
set_option maxHeartbeats 1000000 in
set_option maxRecDepth 100000 in
theorem pad_any (n c : Nat) (A : Option Addr) (l : List UInt8) (hn : n ≤ 1000000) (w : World) (hr : Rd w w.heap.size A n l) (m : Nat) (hm : (padL l).length = m) :
 Calls Tryz.prog 91 #[.slice A n c] w fun e w' => ∃ A' c', e = .returned (.slice A' m c') ∧ Rd w' w'.heap.size A' m (padL l) ∧ Below w.heap.size w w' := by
 obtain ⟨i0, hi, hz0, hz1, hz2⟩ := info_parts Tryz.info5
 have hl : l.length = n := hr.1
 have hpl : (padL l).length = (16 - n % 16) % 16 := by rw [padL, List.length_replicate, hl]
 by_cases h0 : n % 16 = 0
 ·
  have e0 : m = 0 := by omega
  have en : padL l = [] := List.eq_nil_of_length_eq_zero (by omega)
  rw [en, e0]
  have d0 : ((n : Int) % 16 == 0) = true := by rw [beq_iff_eq]; omega
  clear hr hpl en hl hm e0
  go_enter Tryz.func91, Tryz.ntmps91
  go_wp2
  go_ret
  exact ⟨_, _, rfl, Rd.nil _ _ _, Below.refl _ _⟩
 ·
  obtain ⟨q, hq⟩ : ∃ q, n % 16 = q := ⟨_, rfl⟩
  have hm16 : m = 16 - q := by omega
  have en : padL l = List.replicate m 0 := by rw [padL, hl, ← hm, hpl]
  rw [en]
  have d0 : ((n : Int) % 16 == 0) = false := by rw [beq_eq_false_iff_ne]; omega
  have d1 : (n : Int) % 16 = (q : Int) := by omega
  subst hm16
  have e8 : (16 : Int) - ((n : Int) % 16) = ((16 - q : Nat) : Int) := by omega
  clear hr hpl en hl hm
  go_enter Tryz.func91, Tryz.ntmps91
  go_wp2_with (refine wpList_make_full _ rfl (.tmp 10) (.tmp 10) 29 rfl w.heap.size 5 i0 (.int .u8 0) 1 Tryz.underlying29 hi hz0 hz1 .i64 .i64 _ _ (16 - q) rfl rfl (by first | omega | (rw [IntKind.wrap_i64]; omega)) (by first | omega | (rw [IntKind.wrap_i64]; omega)) (by rw [hz2]; omega) (by unfold maxLen; omega) (Nat.le_refl _) ?_; intro w1 hown1 hg1)
  rw [show (Value.int IntKind.u8 0).cells = #[.int .u8 0] from rfl, toList_madeCells_one, Nat.mul_one] at hown1
  rw [show List.replicate (16 - q) (Value.int IntKind.u8 0) = (List.replicate (16 - q) (0 : UInt8)).map u8v by rw [List.map_replicate]; rfl] at hown1
  go_ret
  exact ⟨_, _, rfl, Rd.of_own hown1, (Below.refl _ _).grown hg1 (Nat.le_refl _) (by simp)⟩
set_option maxHeartbeats 1000000 in
set_option maxRecDepth 100000 in
theorem length_any (n c : Nat) (A : Option Addr) (hn : n ≤ 1000000) (w : World) :
 Calls Tryz.prog 92 #[.slice A n c] w fun e w' => e = .returned (.slice (some ⟨w.heap.size, 0, none⟩) 8 8) ∧ Rd w' w'.heap.size (some ⟨w.heap.size, 0, none⟩) 8 (littleL n 8) ∧ Below w.heap.size w w' := by
 go_enter Tryz.func92, Tryz.ntmps92
 go_wp2_with fail
 rw [show (8 : Int) = ((8 : Nat) : Int) from rfl]
 refine (little_any n (by omega) 8 (by omega) (by omega) _).mono ?_
 rintro e w1 ⟨rfl, ho, hb⟩
 have HO := Lib.hid (Rd.of_own ho)
 clear ho
 go_wp2_with fail
 go_ret
 exact ⟨rfl, HO.out, hb⟩
set_option maxRecDepth 100000 in
theorem coJoin_six (g : Nat) (t : TypeId) (A1 A2 A3 A4 A5 A6 : Option Addr) (n1 c1 n2 c2 n3 c3 n4 c4 n5 c5 n6 c6 : Nat) (l1 l2 l3 l4 l5 l6 : List UInt8) (M : Nat) (hM : n1 + n2 + (n3 + n4) + (n5 + n6) = M) (hn : M ≤ 1000000) (w : World) (hb : Blk w g t [.slice A1 n1 c1, .slice A2 n2 c2, .slice A3 n3 c3, .slice A4 n4 c4, .slice A5 n5 c5, .slice A6 n6 c6])
 (h1 : Rd w w.heap.size A1 n1 l1) (h2 : Rd w w.heap.size A2 n2 l2) (h3 : Rd w w.heap.size A3 n3 l3) (h4 : Rd w w.heap.size A4 n4 l4) (h5 : Rd w w.heap.size A5 n5 l5) (h6 : Rd w w.heap.size A6 n6 l6) :
 Calls Tryz.prog 30 #[.slice (some ⟨g, 0, none⟩) 6 6] w fun e w' => ∃ A' c', e = .returned (.slice A' M c') ∧ Rd w' w'.heap.size A' M (l1 ++ l2 ++ (l3 ++ l4) ++ (l5 ++ l6)) ∧ M ≤ c' ∧ c' ≤ maxLen ∧ Below w.heap.size w w' := by
 have hf : flat [⟨A1, n1, c1, l1⟩, ⟨A2, n2, c2, l2⟩, ⟨A3, n3, c3, l3⟩, ⟨A4, n4, c4, l4⟩, ⟨A5, n5, c5, l5⟩, ⟨A6, n6, c6, l6⟩] 6 = l1 ++ l2 ++ (l3 ++ l4) ++ (l5 ++ l6) := by simp [flat]
 have hl : (l1 ++ l2 ++ (l3 ++ l4) ++ (l5 ++ l6)).length = M := by simp only [List.length_append]; rw [h1.1, h2.1, h3.1, h4.1, h5.1, h6.1, hM]
 have hJ := coJoin_any w.heap.size 6 (some ⟨g, 0, none⟩) [⟨A1, n1, c1, l1⟩, ⟨A2, n2, c2, l2⟩, ⟨A3, n3, c3, l3⟩, ⟨A4, n4, c4, l4⟩, ⟨A5, n5, c5, l5⟩, ⟨A6, n6, c6, l6⟩] (by simp) (by show (flat _ 6).length ≤ _; rw [hf, hl]; exact hn) w (Nat.le_refl _) (fun _ => ⟨g, rfl, hb.lt, fun j hj => by
  rw [hb.cell]
  match j, hj with
  | 0, _ => exact ⟨rfl, h1⟩
  | 1, _ => exact ⟨rfl, h2⟩
  | 2, _ => exact ⟨rfl, h3⟩
  | 3, _ => exact ⟨rfl, h4⟩
  | 4, _ => exact ⟨rfl, h5⟩
  | 5, _ => exact ⟨rfl, h6⟩
  | j + 6, hj => exact absurd hj (by simp)⟩)
 refine hJ.mono ?_
 rintro e w' ⟨A', c', he, ho, hbl⟩
 have e2 : ([⟨A1, n1, c1, l1⟩, ⟨A2, n2, c2, l2⟩, ⟨A3, n3, c3, l3⟩, ⟨A4, n4, c4, l4⟩, ⟨A5, n5, c5, l5⟩, ⟨A6, n6, c6, l6⟩] : List Part).length = 6 := rfl
 rw [e2, hf, hl] at he ho
 obtain ⟨q1, q2, _⟩ := own_addr ho
 exact ⟨A', c', he, Rd.of_own ho, q1, q2, hbl⟩
set_option maxRecDepth 100000 in
set_option maxHeartbeats 4000000 in
theorem tagData_any (Ac Am : Option Addr) (nc cc nm cm : Nat) (c more : List UInt8) (hnc : nc ≤ 400000) (hnm : nm ≤ 400000) (w : World) (hrc : Rd w w.heap.size Ac nc c) (hrm : Rd w w.heap.size Am nm more) (M : Nat) (hM : (macL more c).length = M) :
 Calls Tryz.prog 73 #[.slice Ac nc cc, .slice Am nm cm] w fun e w' => ∃ A' c', e = .returned (.slice A' M c') ∧ Rd w' w'.heap.size A' M (macL more c) ∧ M ≤ c' ∧ c' ≤ maxLen ∧ M ≤ 1000000 ∧ Below w.heap.size w w' := by
 obtain ⟨m1, hm1⟩ : ∃ m1, (padL more).length = m1 := ⟨_, rfl⟩
 obtain ⟨m2, hm2⟩ : ∃ m2, (padL c).length = m2 := ⟨_, rfl⟩
 have hMM : nm + m1 + (nc + m2) + (8 + 8) = M := by rw [← hM]; simp only [macL, List.length_append, littleL_length]; rw [hm1, hm2, hrm.1, hrc.1]
 have hp1 := padL_length more
 have hp2 := padL_length c
 have hM6 : M ≤ 1000000 := by omega
 have hmac : more ++ padL more ++ (c ++ padL c) ++ (littleL nm 8 ++ littleL nc 8) = macL more c := by rw [macL, hrc.1, hrm.1]
 have HM := Lib.hid (And.intro hMM (And.intro hM6 (And.intro hmac (And.intro hm1 hm2))))
 have HC := Lib.hid hrc
 have HR := Lib.hid hrm
 have HB := Lib.hid (Below.refl w.heap.size w)
 clear hmac hm1 hm2 hMM hM hp1 hp2 hrc hrm hM6
 go_enter Tryz.func73, Tryz.ntmps73
 go_wp2_with fail
 refine (pad_any nm cm Am more (by omega) _ HR.out m1 HM.out.2.2.2.1).mono ?_
 rintro e w1 ⟨F1, d1, rfl, hr, hb⟩
 replace HB := Lib.hid (HB.out.trans (hb.mono HB.out.size))
 replace HC := Lib.hid ((HC.out.below hb).mono hb.size)
 replace HR := Lib.hid ((HR.out.below hb).mono hb.size)
 have R1 := Lib.hid hr
 clear hb hr
 go_wp2_with fail
 refine (pad_any nc cc Ac c (by omega) _ HC.out m2 HM.out.2.2.2.2).mono ?_
 rintro e w2 ⟨F2, d2, rfl, hr, hb⟩
 replace HB := Lib.hid (HB.out.trans (hb.mono HB.out.size))
 replace HC := Lib.hid ((HC.out.below hb).mono hb.size)
 replace HR := Lib.hid ((HR.out.below hb).mono hb.size)
 replace R1 := Lib.hid ((R1.out.below hb).mono hb.size)
 have R2 := Lib.hid hr
 clear hb hr
 go_wp2_with fail
 refine (length_any nm cm Am (by omega) _).mono ?_
 rintro e w3 ⟨rfl, hr, hb⟩
 replace HB := Lib.hid (HB.out.trans (hb.mono HB.out.size))
 replace HC := Lib.hid ((HC.out.below hb).mono hb.size)
 replace HR := Lib.hid ((HR.out.below hb).mono hb.size)
 replace R1 := Lib.hid ((R1.out.below hb).mono hb.size)
 replace R2 := Lib.hid ((R2.out.below hb).mono hb.size)
 have R3 := Lib.hid hr
 clear hb hr
 generalize w2.heap.size = g3 at R3 ⊢
 go_wp2_with fail
 refine (length_any nc cc Ac (by omega) _).mono ?_
 rintro e w4 ⟨rfl, hr, hb⟩
 replace HB := Lib.hid (HB.out.trans (hb.mono HB.out.size))
 replace HC := Lib.hid ((HC.out.below hb).mono hb.size)
 replace HR := Lib.hid ((HR.out.below hb).mono hb.size)
 replace R1 := Lib.hid ((R1.out.below hb).mono hb.size)
 replace R2 := Lib.hid ((R2.out.below hb).mono hb.size)
 replace R3 := Lib.hid ((R3.out.below hb).mono hb.size)
 have R4 := Lib.hid hr
 clear hb hr
 generalize w3.heap.size = g4 at R4 ⊢
 go_wp2_with fail
 have hg := Blk.new w4 29 [Value.slice Am nm cm, .slice F1 m1 d1, .slice Ac nc cc, .slice F2 m2 d2, .slice (some ⟨g3, 0, none⟩) 8 8, .slice (some ⟨g4, 0, none⟩) 8 8]
 have hb : Below w4.heap.size w4 (w4.alloc (.cells [Value.slice Am nm cm, .slice F1 m1 d1, .slice Ac nc cc, .slice F2 m2 d2, .slice (some ⟨g3, 0, none⟩) 8 8, .slice (some ⟨g4, 0, none⟩) 8 8].toArray 29)) := (Below.refl _ _).alloc (Nat.le_refl _) _
 rw [show [Value.slice Am nm cm, .slice F1 m1 d1, .slice Ac nc cc, .slice F2 m2 d2, .slice (some ⟨g3, 0, none⟩) 8 8, .slice (some ⟨g4, 0, none⟩) 8 8].toArray = #[Value.slice Am nm cm, .slice F1 m1 d1, .slice Ac nc cc, .slice F2 m2 d2, .slice (some ⟨g3, 0, none⟩) 8 8, .slice (some ⟨g4, 0, none⟩) 8 8] from rfl] at hg hb
 replace HB := Lib.hid (HB.out.trans (hb.mono HB.out.size))
 replace HC := Lib.hid ((HC.out.below hb).mono hb.size)
 replace HR := Lib.hid ((HR.out.below hb).mono hb.size)
 replace R1 := Lib.hid ((R1.out.below hb).mono hb.size)
 replace R2 := Lib.hid ((R2.out.below hb).mono hb.size)
 replace R3 := Lib.hid ((R3.out.below hb).mono hb.size)
 replace R4 := Lib.hid ((R4.out.below hb).mono hb.size)
 have HG := Lib.hid hg
 clear hb hg
 generalize w4.alloc (.cells #[Value.slice Am nm cm, .slice F1 m1 d1, .slice Ac nc cc, .slice F2 m2 d2, .slice (some ⟨g3, 0, none⟩) 8 8, .slice (some ⟨g4, 0, none⟩) 8 8] 29) = w5 at HB HC HR R1 R2 R3 R4 HG ⊢
 generalize w4.heap.size = g5 at HG ⊢
 refine (coJoin_six g5 29 _ _ _ _ _ _ nm cm m1 d1 nc cc m2 d2 8 8 8 8 _ _ _ _ _ _ M HM.out.1 HM.out.2.1 _ HG.out HR.out R1.out HC.out R2.out R3.out R4.out).mono ?_
 rintro e w6 ⟨A6, c6, rfl, hr, q1, q2, hb⟩
 rw [HM.out.2.2.1] at hr
 have HO := Lib.hid (And.intro hr (HB.out.trans (hb.mono HB.out.size)))
 clear hr hb HC HR R1 R2 R3 R4 HG HB
 go_wp2_with fail
 go_ret
 exact ⟨_, _, rfl, HO.out.1, q1, q2, HM.out.2.1, HO.out.2⟩
/-- the value of five limbs -/
def val5 (l : List Nat) : Nat := sumTo (fun i => dg l i * 67108864 ^ i) 5
theorem val5_eq (l : List Nat) : val5 l = dg l 0 + dg l 1 * 67108864 + dg l 2 * 4503599627370496 + dg l 3 * 302231454903657293676544 + dg l 4 * 20282409603651670423947251286016 := by
 simp [val5, sumTo]
/-- the first i rounds of a carry: the limbs, and what goes over -/
def cst (l : List Nat) : Nat → List Nat × Nat
 | 0 => (l, 0)
 | i + 1 => ((cst l i).1.set i ((dg (cst l i).1 i + (cst l i).2) % 67108864), (dg (cst l i).1 i + (cst l i).2) / 67108864)
def carryN (l : List Nat) : List Nat := (cst l 5).1.set 0 (dg (cst l 5).1 0 + 5 * (cst l 5).2)
theorem cst_length (l : List Nat) : ∀ j, (cst l j).1.length = l.length
 | 0 => rfl
 | j + 1 => by rw [cst, List.length_set, cst_length]
theorem cst_above (l : List Nat) : ∀ j i, j ≤ i → j ≤ l.length → dg (cst l j).1 i = dg l i
 | 0, _, _, _ => rfl
 | j + 1, i, h, hl => by
  rw [cst, dg_set _ _ _ _ (by rw [cst_length]; omega), if_neg (by omega), cst_above l j i (by omega) (by omega)]
theorem cst_below (l : List Nat) : ∀ j i, i < j → j ≤ l.length → dg (cst l j).1 i < 67108864
 | 0, _, h, _ => absurd h (by omega)
 | j + 1, i, h, hl => by
  rw [cst, dg_set _ _ _ _ (by rw [cst_length]; omega)]
  split
  · exact Nat.mod_lt _ (by omega)
  · exact cst_below l j i (by omega) (by omega)
theorem cst_carry (l : List Nat) (M : Nat) (hM : ∀ i, dg l i ≤ 67108863 * M) : ∀ j, j ≤ l.length → (cst l j).2 ≤ M
 | 0, _ => Nat.zero_le _
 | j + 1, hj => by
  have h1 := cst_carry l M hM j (by omega)
  have h2 := cst_above l j j (Nat.le_refl _) (by omega)
  have h3 := hM j
  show (dg (cst l j).1 j + (cst l j).2) / 67108864 ≤ M
  rw [h2]
  omega
theorem val5_cst (l : List Nat) (hl : l.length = 5) : val5 (cst l 5).1 + (cst l 5).2 * 1361129467683753853853498429727072845824 = val5 l := by
 have e : ∀ j, j < 5 → ∃ s, dg l j + (cst l j).2 = s ∧ dg (cst l 5).1 j = s % 67108864 ∧ (cst l (j + 1)).2 = s / 67108864 := by
  intro j hj
  refine ⟨_, rfl, ?_, ?_⟩
  ·
   have h1 : ∀ k, j < k → k ≤ 5 → dg (cst l k).1 j = (dg l j + (cst l j).2) % 67108864 := by
    intro k
    induction k with
    | zero => intro h; omega
    | succ k ih =>
     intro h hk
     rw [cst, dg_set _ _ _ _ (by rw [cst_length]; omega)]
     by_cases e : j = k
     · subst e; rw [if_pos rfl, cst_above l j j (Nat.le_refl _) (by omega)]
     · rw [if_neg e]; exact ih (by omega) (by omega)
   exact h1 5 hj (by omega)
  ·
   show (dg (cst l j).1 j + (cst l j).2) / 67108864 = _
   rw [cst_above l j j (Nat.le_refl _) (by omega)]
 obtain ⟨s0, a0, b0, c0⟩ := e 0 (by omega)
 obtain ⟨s1, a1, b1, c1⟩ := e 1 (by omega)
 obtain ⟨s2, a2, b2, c2⟩ := e 2 (by omega)
 obtain ⟨s3, a3, b3, c3⟩ := e 3 (by omega)
 obtain ⟨s4, a4, b4, c4⟩ := e 4 (by omega)
 rw [show (cst l 0).2 = 0 from rfl] at a0
 rw [show 0 + 1 = 1 from rfl] at c0
 rw [show 1 + 1 = 2 from rfl] at c1
 rw [show 2 + 1 = 3 from rfl] at c2
 rw [show 3 + 1 = 4 from rfl] at c3
 rw [show 4 + 1 = 5 from rfl] at c4
 rw [val5_eq, val5_eq, b0, b1, b2, b3, b4]
 generalize (cst l 5).2 = u5 at *
 generalize (cst l 4).2 = u4 at *
 generalize (cst l 3).2 = u3 at *
 generalize (cst l 2).2 = u2 at *
 generalize (cst l 1).2 = u1 at *
 generalize dg l 0 = d0 at *
 generalize dg l 1 = d1 at *
 generalize dg l 2 = d2 at *
 generalize dg l 3 = d3 at *
 generalize dg l 4 = d4 at *
 have g0 := Nat.div_add_mod s0 67108864
 have g1 := Nat.div_add_mod s1 67108864
 have g2 := Nat.div_add_mod s2 67108864
 have g3 := Nat.div_add_mod s3 67108864
 have g4 := Nat.div_add_mod s4 67108864
 rw [← c0] at g0
 rw [← c1] at g1
 rw [← c2] at g2
 rw [← c3] at g3
 rw [← c4] at g4
 generalize s0 % 67108864 = r0 at *
 generalize s1 % 67108864 = r1 at *
 generalize s2 % 67108864 = r2 at *
 generalize s3 % 67108864 = r3 at *
 generalize s4 % 67108864 = r4 at *
 clear c0 c1 c2 c3 c4 b0 b1 b2 b3 b4 e
 omega
theorem cst_lt (l : List Nat) (hl : l.length = 5) : val5 (cst l 5).1 < 1361129467683753853853498429727072845824 := by
 rw [val5_eq]
 have h0 := cst_below l 5 0 (by omega) (by omega)
 have h1 := cst_below l 5 1 (by omega) (by omega)
 have h2 := cst_below l 5 2 (by omega) (by omega)
 have h3 := cst_below l 5 3 (by omega) (by omega)
 have h4 := cst_below l 5 4 (by omega) (by omega)
 omega
theorem cst_over (l : List Nat) (hl : l.length = 5) : (cst l 5).2 = val5 l / 1361129467683753853853498429727072845824 ∧ val5 (cst l 5).1 = val5 l % 1361129467683753853853498429727072845824 := by
 have h1 := val5_cst l hl
 have h2 := cst_lt l hl
 omega
theorem carryN_length (l : List Nat) : (carryN l).length = l.length := by rw [carryN, List.length_set, cst_length]
theorem carryN_val (l : List Nat) (hl : l.length = 5) : val5 (carryN l) = val5 l % 1361129467683753853853498429727072845824 + 5 * (val5 l / 1361129467683753853853498429727072845824) := by
 obtain ⟨h1, h2⟩ := cst_over l hl
 have e : val5 (carryN l) = val5 (cst l 5).1 + 5 * (cst l 5).2 := by
  rw [val5_eq, val5_eq, carryN]
  simp only [dg_set _ _ _ _ (show 0 < (cst l 5).1.length by rw [cst_length]; omega)]
  simp
  omega
 rw [e, h1, h2]
theorem carryN_mod (l : List Nat) (hl : l.length = 5) : val5 (carryN l) % primeP = val5 l % primeP := by
 have h := carryN_val l hl
 have h2 := Nat.div_add_mod (val5 l) 1361129467683753853853498429727072845824
 have : val5 l = val5 (carryN l) + val5 l / 1361129467683753853853498429727072845824 * primeP := by
  rw [primeP]; omega
 rw [this, Nat.add_mul_mod_self_right]
theorem carryN_digit (l : List Nat) (hl : l.length = 5) (i : Nat) : dg (carryN l) i ≤ if i = 0 then 67108863 + 5 * (val5 l / 1361129467683753853853498429727072845824) else 67108863 := by
 obtain ⟨h1, _⟩ := cst_over l hl
 rw [carryN, dg_set _ _ _ _ (by rw [cst_length]; omega), h1]
 by_cases h5 : i < 5
 ·
  have := cst_below l 5 i h5 (by omega)
  split
  · subst i; omega
  · omega
 · rw [if_neg (by omega), if_neg (by omega), dg_high _ _ (by rw [cst_length]; omega)]; omega
/-! two words and a top -/
def splitN (a b c : Nat) : List Nat := [a % 67108864, a / 67108864 % 67108864, a / 4503599627370496 + b % 16384 * 4096, b / 16384 % 67108864, b / 1099511627776 + c * 16777216]
theorem three_parts (a m n : Nat) : a = a % m + a / m % n * m + a / (m * n) * (m * n) := by
 have h1 := Nat.div_add_mod a m
 have h2 := Nat.div_add_mod (a / m) n
 rw [Nat.div_div_eq_div_mul] at h2
 generalize a / (m * n) = q at h2 ⊢
 generalize a / m % n = r at h2 ⊢
 have h3 : a / m * m = r * m + q * (m * n) := by
  rw [← h2, Nat.add_mul, Nat.mul_comm m n, ← Nat.mul_assoc, Nat.mul_comm q n]
  omega
 rw [Nat.mul_comm] at h1
 omega
theorem parts_low (a : Nat) : a = a % 67108864 + a / 67108864 % 67108864 * 67108864 + a / 4503599627370496 * 4503599627370496 := by
 have h1 := three_parts a 67108864 67108864
 rwa [show 67108864 * 67108864 = 4503599627370496 by decide] at h1
theorem parts_high (a : Nat) : a = a % 16384 + a / 16384 % 67108864 * 16384 + a / 1099511627776 * 1099511627776 := by
 have h1 := three_parts a 16384 67108864
 rwa [show 16384 * 67108864 = 1099511627776 by decide] at h1
theorem parts_sum (a a0 a1 a2 b b0 b1 b2 c : Nat) (h1 : a = a0 + a1 * 67108864 + a2 * 4503599627370496) (h2 : b = b0 + b1 * 16384 + b2 * 1099511627776) :
 a0 + a1 * 67108864 + (a2 + b0 * 4096) * 4503599627370496 + b1 * 302231454903657293676544 + (b2 + c * 16777216) * 20282409603651670423947251286016 = a + 18446744073709551616 * b + 340282366920938463463374607431768211456 * c := by
 subst h1 h2
 omega
theorem splitN_0 (a b c : Nat) : dg (splitN a b c) 0 = a % 67108864 := by unfold splitN dg; simp only [List.getD_cons_zero]
theorem splitN_1 (a b c : Nat) : dg (splitN a b c) 1 = a / 67108864 % 67108864 := by unfold splitN dg; simp only [List.getD_cons_zero, List.getD_cons_succ]
theorem splitN_2 (a b c : Nat) : dg (splitN a b c) 2 = a / 4503599627370496 + b % 16384 * 4096 := by unfold splitN dg; simp only [List.getD_cons_zero, List.getD_cons_succ]
theorem splitN_3 (a b c : Nat) : dg (splitN a b c) 3 = b / 16384 % 67108864 := by unfold splitN dg; simp only [List.getD_cons_zero, List.getD_cons_succ]
theorem splitN_4 (a b c : Nat) : dg (splitN a b c) 4 = b / 1099511627776 + c * 16777216 := by unfold splitN dg; simp only [List.getD_cons_zero, List.getD_cons_succ]
theorem splitN_val (a b c : Nat) : val5 (splitN a b c) = a + 18446744073709551616 * b + 340282366920938463463374607431768211456 * c := by
 rw [val5_eq, splitN_0, splitN_1, splitN_2, splitN_3, splitN_4]
 have h1 := parts_low a
 have h2 := parts_high b
 exact parts_sum a _ _ _ b _ _ _ c h1 h2
theorem splitN_le (a b c : Nat) (ha : a < 18446744073709551616) (hb : b < 18446744073709551616) (hc : c ≤ 3) : ∀ i, dg (splitN a b c) i ≤ 67108863 := fun i => by
 by_cases h : i < 5
 ·
  have hi : i = 0 ∨ i = 1 ∨ i = 2 ∨ i = 3 ∨ i = 4 := by omega
  rcases hi with rfl | rfl | rfl | rfl | rfl <;> (first | rw [splitN_0] | rw [splitN_1] | rw [splitN_2] | rw [splitN_3] | rw [splitN_4])
  · exact Nat.le_of_lt_succ (Nat.mod_lt _ (by omega))
  · exact Nat.le_of_lt_succ (Nat.mod_lt _ (by omega))
  ·
   have h1 : a / 4503599627370496 < 4096 := Nat.div_lt_of_lt_mul (by omega)
   have h2 := Nat.mod_lt b (show 16384 > 0 by omega)
   omega
  · exact Nat.le_of_lt_succ (Nat.mod_lt _ (by omega))
  ·
   have h1 : b / 1099511627776 < 16777216 := Nat.div_lt_of_lt_mul (by omega)
   omega
 · rw [dg_high _ _ (by simp [splitN]; omega)]; omega
theorem splitN_length (a b c : Nat) : (splitN a b c).length = 5 := by simp [splitN]
/-- the two words of five limbs of 26 bits -/
def joinL (l : List Nat) : Nat := dg l 0 + dg l 1 * 67108864 + dg l 2 % 4096 * 4503599627370496
def joinH (l : List Nat) : Nat := dg l 2 / 4096 + dg l 3 * 16384 + dg l 4 % 16777216 * 1099511627776
theorem join_val (l : List Nat) (h : ∀ i, dg l i ≤ 67108863) : joinL l < 18446744073709551616 ∧ joinH l < 18446744073709551616 ∧ joinL l + 18446744073709551616 * joinH l = val5 l % 340282366920938463463374607431768211456 := by
 have h0 := h 0
 have h1 := h 1
 have h2 := h 2
 have h3 := h 3
 have h4 := h 4
 rw [val5_eq]
 unfold joinL joinH
 have g2 := Nat.div_add_mod (dg l 2) 4096
 have g4 := Nat.div_add_mod (dg l 4) 16777216
 have k2 := Nat.mod_lt (dg l 2) (show 4096 > 0 by omega)
 have k4 := Nat.mod_lt (dg l 4) (show 16777216 > 0 by omega)
 generalize dg l 2 % 4096 = r2 at *
 generalize dg l 2 / 4096 = q2 at *
 generalize dg l 4 % 16777216 = r4 at *
 generalize dg l 4 / 16777216 = q4 at *
 generalize dg l 0 = d0 at *
 generalize dg l 1 = d1 at *
 generalize dg l 2 = d2 at *
 generalize dg l 3 = d3 at *
 generalize dg l 4 = d4 at *
 clear h
 refine ⟨by omega, by omega, ?_⟩
 have e : d0 + d1 * 67108864 + d2 * 4503599627370496 + d3 * 302231454903657293676544 + d4 * 20282409603651670423947251286016 = d0 + d1 * 67108864 + r2 * 4503599627370496 + 18446744073709551616 * (q2 + d3 * 16384 + r4 * 1099511627776) + 340282366920938463463374607431768211456 * q4 := by omega
 rw [e, Nat.add_mul_mod_self_left, Nat.mod_eq_of_lt (by omega)]
/-! sums -/
def addS (x y : List Nat) : Nat → List Nat
 | 0 => x
 | i + 1 => (addS x y i).set i (dg (addS x y i) i + dg y i)
theorem addS_length (x y : List Nat) : ∀ j, (addS x y j).length = x.length
 | 0 => rfl
 | j + 1 => by rw [addS, List.length_set, addS_length]
theorem addS_dg (x y : List Nat) (hx : x.length = 5) : ∀ j i, j ≤ 5 → dg (addS x y j) i = if i < j then dg x i + dg y i else dg x i
 | 0, i, _ => by simp [addS]
 | j + 1, i, h => by
  rw [addS, dg_set _ _ _ _ (by rw [addS_length]; omega), addS_dg x y hx j j (by omega), addS_dg x y hx j i (by omega)]
  by_cases e : i = j
  · subst e; simp
  ·
   rw [if_neg e]
   by_cases h2 : i < j
   · rw [if_pos h2, if_pos (by omega)]
   · rw [if_neg h2, if_neg (by omega)]
theorem addS_val (x y : List Nat) (hx : x.length = 5) : val5 (addS x y 5) = val5 x + val5 y := by
 unfold val5
 rw [← sumTo_add]
 exact sumTo_congr 5 fun i hi => by rw [addS_dg x y hx 5 i (by omega), if_pos hi, Nat.add_mul]
/-! products -/
/-- one term: x_i y_j goes to the limb i + j, or five times to the limb i + j - 5 -/
def term (x y P : List Nat) (i j : Nat) : List Nat :=
 if i + j < 5 then P.set (i + j) (dg P (i + j) + dg x i * dg y j) else P.set (i + j - 5) (dg P (i + j - 5) + 5 * dg x i * dg y j)
def terms (x y P : List Nat) (i : Nat) : Nat → List Nat
 | 0 => P
 | j + 1 => term x y (terms x y P i j) i j
def prod (x y : List Nat) : Nat → List Nat
 | 0 => List.replicate 5 0
 | i + 1 => terms x y (prod x y i) i 5
theorem term_length (x y P : List Nat) (i j : Nat) : (term x y P i j).length = P.length := by
 unfold term; split <;> simp
theorem terms_length (x y P : List Nat) (i : Nat) : ∀ j, (terms x y P i j).length = P.length
 | 0 => rfl
 | j + 1 => by rw [terms, term_length, terms_length]
theorem prod_length (x y : List Nat) : ∀ i, (prod x y i).length = 5
 | 0 => by simp [prod]
 | i + 1 => by rw [prod, terms_length, prod_length]
theorem term_le (x y P : List Nat) (X Y B : Nat) (hx : ∀ i, dg x i ≤ X) (hy : ∀ i, dg y i ≤ Y) (i j : Nat) (hi : i < 5) (hj : j < 5) (hP : P.length = 5) (hB : ∀ k, dg P k ≤ B) : ∀ k, dg (term x y P i j) k ≤ B + 5 * (X * Y) := by
 intro k
 have h1 := Nat.mul_le_mul (hx i) (hy j)
 have h2 := hB k
 unfold term
 split
 ·
  rw [dg_set _ _ _ _ (by omega)]
  split
  · have := hB (i + j); omega
  · omega
 ·
  rw [dg_set _ _ _ _ (by omega)]
  split
  ·
   have := hB (i + j - 5)
   rw [Nat.mul_assoc]
   omega
  · omega
theorem terms_le (x y P : List Nat) (X Y B : Nat) (hx : ∀ i, dg x i ≤ X) (hy : ∀ i, dg y i ≤ Y) (i : Nat) (hi : i < 5) (hP : P.length = 5) (hB : ∀ k, dg P k ≤ B) : ∀ j, j ≤ 5 → ∀ k, dg (terms x y P i j) k ≤ B + j * (5 * (X * Y))
 | 0, _, k => by have := hB k; simpa [terms] using this
 | j + 1, h, k => by
  have := term_le x y (terms x y P i j) X Y _ hx hy i j hi (by omega) (by rw [terms_length, hP]) (terms_le x y P X Y B hx hy i hi hP hB j (by omega)) k
  rw [terms, Nat.add_mul]
  omega
theorem prod_le (x y : List Nat) (X Y : Nat) (hx : ∀ i, dg x i ≤ X) (hy : ∀ i, dg y i ≤ Y) : ∀ i, i ≤ 5 → ∀ k, dg (prod x y i) k ≤ i * (5 * (5 * (X * Y)))
 | 0, _, k => by
  have : dg (prod x y 0) k = 0 := by
   simp only [prod, dg, List.getD, List.getElem?_replicate]
   split <;> simp
  omega
 | i + 1, h, k => by
  have := terms_le x y (prod x y i) X Y _ hx hy i (by omega) (prod_length x y i) (prod_le x y X Y hx hy i (by omega)) 5 (by omega) k
  rw [prod, Nat.add_mul]
  omega
theorem val5_set (l : List Nat) (j x : Nat) (hl : l.length = 5) (hj : j < 5) : val5 (l.set j (dg l j + x)) = val5 l + x * 67108864 ^ j := by
 have h := sumTo_set (fun i => dg l i * 67108864 ^ i) j ((dg l j + x) * 67108864 ^ j) 5 hj
 have e : val5 (l.set j (dg l j + x)) = sumTo (fun i => if i = j then (dg l j + x) * 67108864 ^ j else dg l i * 67108864 ^ i) 5 := by
  unfold val5
  refine sumTo_congr 5 fun i hi => ?_
  rw [dg_set _ _ _ _ (by omega)]
  by_cases e : i = j
  · subst e; simp
  · simp [e]
 have e2 : val5 l = sumTo (fun i => dg l i * 67108864 ^ i) 5 := rfl
 rw [e, e2]
 rw [Nat.add_mul] at h ⊢
 omega
theorem fold_pow (t : Nat) (h : 5 ≤ t) : (67108864 : Nat) ^ t = 67108864 ^ (t - 5) * (primeP + 5) := by
 obtain ⟨s, rfl⟩ : ∃ s, t = s + 5 := ⟨t - 5, by omega⟩
 rw [Nat.add_sub_cancel, Nat.pow_add, show (67108864 : Nat) ^ 5 = primeP + 5 by decide]
theorem term_val (x y P : List Nat) (i j : Nat) (hi : i < 5) (hj : j < 5) (hP : P.length = 5) : val5 (term x y P i j) % primeP = (val5 P + dg x i * 67108864 ^ i * (dg y j * 67108864 ^ j)) % primeP := by
 have e : dg x i * 67108864 ^ i * (dg y j * 67108864 ^ j) = dg x i * dg y j * 67108864 ^ (i + j) := by
  rw [Nat.pow_add]
  simp only [Nat.mul_assoc]
  congr 1
  simp only [← Nat.mul_assoc]
  rw [Nat.mul_comm (67108864 ^ i) (dg y j)]
 rw [e]
 unfold term
 split
 · rw [val5_set P (i + j) _ hP (by omega)]
 ·
  rename_i h
  rw [val5_set P (i + j - 5) _ hP (by omega), fold_pow (i + j) (by omega)]
  have e2 : val5 P + dg x i * dg y j * (67108864 ^ (i + j - 5) * (primeP + 5)) = val5 P + 5 * dg x i * dg y j * 67108864 ^ (i + j - 5) + dg x i * dg y j * 67108864 ^ (i + j - 5) * primeP := by
   rw [Nat.mul_add, Nat.mul_add, Nat.mul_assoc 5, ← Nat.mul_assoc (dg x i * dg y j), ← Nat.mul_assoc (dg x i * dg y j)]
   rw [show 5 * (dg x i * dg y j) * 67108864 ^ (i + j - 5) = dg x i * dg y j * 67108864 ^ (i + j - 5) * 5 by rw [Nat.mul_assoc, Nat.mul_comm]]
   omega
  exact ((congrArg (· % primeP) e2).trans (Nat.add_mul_mod_self_right _ _ _)).symm
theorem terms_val (x y P : List Nat) (i : Nat) (hi : i < 5) (hP : P.length = 5) (j : Nat) (hj : j ≤ 5) : val5 (terms x y P i j) % primeP = (val5 P + dg x i * 67108864 ^ i * sumTo (fun j => dg y j * 67108864 ^ j) j) % primeP := by
 induction j with
 | zero => rw [show terms x y P i 0 = P from rfl, show sumTo (fun j => dg y j * 67108864 ^ j) 0 = 0 from rfl, Nat.mul_zero, Nat.add_zero]
 | succ j ih =>
  have h1 := term_val x y (terms x y P i j) i j hi (by omega) (by rw [terms_length, hP])
  have h2 := ih (by omega)
  rw [show terms x y P i (j + 1) = term x y (terms x y P i j) i j from rfl, h1, show sumTo (fun j => dg y j * 67108864 ^ j) (j + 1) = sumTo (fun j => dg y j * 67108864 ^ j) j + dg y j * 67108864 ^ j from rfl]
  generalize dg y j * 67108864 ^ j = b
  generalize sumTo (fun j => dg y j * 67108864 ^ j) j = c at h2 ⊢
  generalize dg x i * 67108864 ^ i = a at h2 ⊢
  generalize val5 (terms x y P i j) = V at h2 ⊢
  rw [Nat.mul_add, Nat.add_mod, h2, ← Nat.add_mod, Nat.add_assoc]
theorem prod_zero (x y : List Nat) : val5 (prod x y 0) = 0 := by
 rw [val5_eq]
 simp [prod, dg]
theorem prod_val (x y : List Nat) (i : Nat) (hi : i ≤ 5) : val5 (prod x y i) % primeP = (sumTo (fun i => dg x i * 67108864 ^ i) i * val5 y) % primeP := by
 induction i with
 | zero => rw [prod_zero, show sumTo (fun i => dg x i * 67108864 ^ i) 0 = 0 from rfl, Nat.zero_mul]
 | succ i ih =>
  have h1 := terms_val x y (prod x y i) i (by omega) (prod_length x y i) 5 (by omega)
  have h2 := ih (by omega)
  rw [show sumTo (fun j => dg y j * 67108864 ^ j) 5 = val5 y from rfl] at h1
  rw [show prod x y (i + 1) = terms x y (prod x y i) i 5 from rfl, h1, show sumTo (fun i => dg x i * 67108864 ^ i) (i + 1) = sumTo (fun i => dg x i * 67108864 ^ i) i + dg x i * 67108864 ^ i from rfl]
  generalize dg x i * 67108864 ^ i = b
  generalize sumTo (fun i => dg x i * 67108864 ^ i) i = c at h2 ⊢
  generalize val5 (prod x y i) = V at h2 ⊢
  rw [Nat.add_mul, Nat.add_mod, h2, ← Nat.add_mod]
def mulN (x y : List Nat) : List Nat := carryN (carryN (prod x y 5))
theorem mulN_length (x y : List Nat) : (mulN x y).length = 5 := by rw [mulN, carryN_length, carryN_length, prod_length]
theorem mulN_val (x y : List Nat) : val5 (mulN x y) % primeP = val5 x * val5 y % primeP := by
 rw [mulN, carryN_mod _ (by rw [carryN_length, prod_length]), carryN_mod _ (prod_length x y 5), prod_val x y 5 (by omega), show sumTo (fun i => dg x i * 67108864 ^ i) 5 = val5 x from rfl]
/-- limbs of 26 bits, the lowest one with 5 more at most: what multiply returns -/
def tight (l : List Nat) : Prop := l.length = 5 ∧ ∀ i, dg l i ≤ if i = 0 then 67108868 else 67108863
theorem prod_val_lt (x y : List Nat) (hx : ∀ i, dg x i ≤ 268435455) (hy : ∀ i, dg y i ≤ 67108863) : val5 (prod x y 5) < 68719476736 * 1361129467683753853853498429727072845824 := by
 have hp := prod_le x y _ _ hx hy 5 (by omega)
 rw [val5_eq]
 have h0 := hp 0
 have h1 := hp 1
 have h2 := hp 2
 have h3 := hp 3
 have h4 := hp 4
 omega
theorem mulN_tight (x y : List Nat) (hx : ∀ i, dg x i ≤ 268435455) (hy : ∀ i, dg y i ≤ 67108863) : tight (mulN x y) := by
 have hv := prod_val_lt x y hx hy
 have h1 := carryN_val _ (prod_length x y 5)
 have hl : (carryN (prod x y 5)).length = 5 := by rw [carryN_length, prod_length]
 refine ⟨mulN_length x y, fun i => ?_⟩
 have h2 := carryN_digit _ hl i
 have h3 : val5 (carryN (prod x y 5)) / 1361129467683753853853498429727072845824 ≤ 1 := by omega
 unfold mulN
 split
 · rw [if_pos (by assumption)] at h2; omega
 · rw [if_neg (by assumption)] at h2; omega
theorem and_join (b c x y : Nat) (hb : b < 256) (hc : c < 256) : (b + 256 * x) &&& (c + 256 * y) = (b &&& c) + 256 * (x &&& y) := by
 have h1 : ((b + 256 * x) &&& (c + 256 * y)) % 2 ^ 8 = (b + 256 * x) % 2 ^ 8 &&& (c + 256 * y) % 2 ^ 8 := Nat.and_mod_two_pow
 have h2 : ((b + 256 * x) &&& (c + 256 * y)) / 2 ^ 8 = (b + 256 * x) / 2 ^ 8 &&& (c + 256 * y) / 2 ^ 8 := Nat.and_div_two_pow
 rw [show (b + 256 * x) % 2 ^ 8 = b by omega, show (c + 256 * y) % 2 ^ 8 = c by omega] at h1
 rw [show (b + 256 * x) / 2 ^ 8 = x by omega, show (c + 256 * y) / 2 ^ 8 = y by omega] at h2
 generalize (b + 256 * x) &&& (c + 256 * y) = z at *
 omega
theorem numL_and : ∀ l m : List UInt8, l.length = m.length → numL l &&& numL m = numL (l.zipWith (· &&& ·) m)
 | [], [], _ => by simp [numL]
 | [], _ :: _, h => by simp at h
 | _ :: _, [], h => by simp at h
 | b :: l, c :: m, h => by
  rw [numL, numL, and_join _ _ _ _ b.toNat_lt c.toNat_lt, numL_and l m (by simpa using h), List.zipWith_cons_cons, numL, UInt8.toNat_and]
def maskLow : List UInt8 := [255, 255, 255, 15, 252, 255, 255, 15]
def maskHigh : List UInt8 := [252, 255, 255, 15, 252, 255, 255, 15]
theorem maskLow_num : numL maskLow = 1152921487695413247 := by decide
theorem maskHigh_num : numL maskHigh = 1152921487695413244 := by decide
def lowW (k : List UInt8) : Nat := numL (k.take 8)
def highW (k : List UInt8) : Nat := numL ((k.drop 8).take 8)
theorem take8_lt (l : List UInt8) : numL (l.take 8) < 18446744073709551616 := by
 have h := numL_take_lt l 8
 rwa [show 2 ^ (8 * 8) = 18446744073709551616 by decide] at h
theorem rN_words (k : List UInt8) (hk : 16 ≤ k.length) : rN k = (lowW k &&& 1152921487695413247) + 18446744073709551616 * (highW k &&& 1152921487695413244) := by
 have hl1 : (k.take 8).length = 8 := by rw [List.length_take]; omega
 have hl2 : ((k.drop 8).take 8).length = 8 := by rw [List.length_take, List.length_drop]; omega
 rw [← maskLow_num, ← maskHigh_num, lowW, highW, numL_and _ _ (by rw [hl1]; rfl), numL_and _ _ (by rw [hl2]; rfl)]
 have hz : ((k.take 8).zipWith (· &&& ·) maskLow).length = 8 := by rw [List.length_zipWith, hl1]; rfl
 have ha := numL_append ((k.take 8).zipWith (· &&& ·) maskLow) (((k.drop 8).take 8).zipWith (· &&& ·) maskHigh)
 rw [hz, show 256 ^ 8 = 18446744073709551616 by decide] at ha
 rw [← ha, rN]
 refine valN_bytes _ _ (by simp; omega) fun i hi => ?_
 have e : dg (rDig k) i = clampD k i := by simp [dg, rDig, List.getD, hi]
 rw [e]
 have hb : ∀ j, j < 16 → ((k.take 8).zipWith (· &&& ·) maskLow ++ ((k.drop 8).take 8).zipWith (· &&& ·) maskHigh).getD j 0 = (k.getD j 0) &&& ((maskLow ++ maskHigh).getD j 0) := by
  intro j hj
  simp only [List.getD]
  rw [List.getElem?_append, hz]
  have hml : maskLow.length = 8 := rfl
  have hmh : maskHigh.length = 8 := rfl
  by_cases h8 : j < 8
  ·
   rw [if_pos h8, List.getElem?_append_left (by omega), List.getElem?_zipWith, List.getElem?_take, if_pos h8, List.getElem?_eq_getElem (show j < k.length by omega), List.getElem?_eq_getElem (show j < maskLow.length by omega)]
   rfl
  ·
   rw [if_neg h8, List.getElem?_append_right (by omega), hml, List.getElem?_zipWith, List.getElem?_take, if_pos (by omega), List.getElem?_drop, show 8 + (j - 8) = j by omega, List.getElem?_eq_getElem (show j < k.length by omega), List.getElem?_eq_getElem (show j - 8 < maskHigh.length by omega)]
   rfl
 by_cases h16 : i < 16
 ·
  rw [hb i h16, UInt8.toNat_and]
  unfold clampD
  have hlt := (k.getD i 0).toNat_lt
  generalize (k.getD i 0).toNat = b at hlt ⊢
  have h255 : b &&& 255 = b := by
   have := Nat.and_two_pow_sub_one_eq_mod b 8
   rw [show 2 ^ 8 - 1 = 255 by decide] at this
   omega
  have hc : i = 0 ∨ i = 1 ∨ i = 2 ∨ i = 3 ∨ i = 4 ∨ i = 5 ∨ i = 6 ∨ i = 7 ∨ i = 8 ∨ i = 9 ∨ i = 10 ∨ i = 11 ∨ i = 12 ∨ i = 13 ∨ i = 14 ∨ i = 15 := by omega
  rcases hc with rfl | rfl | rfl | rfl | rfl | rfl | rfl | rfl | rfl | rfl | rfl | rfl | rfl | rfl | rfl | rfl <;> simp [maskLow, maskHigh, h255]
 ·
  obtain rfl : i = 16 := by omega
  have : clampD k 16 = 0 := by simp [clampD]
  rw [this, List.getD, List.getElem?_eq_none (by rw [List.length_append, hz, List.length_zipWith, hl2]; exact Nat.le_of_eq rfl)]
  rfl
theorem rN_zero_words (k : List UInt8) : (lowW k &&& 1152921487695413247) < 18446744073709551616 ∧ (highW k &&& 1152921487695413244) < 18446744073709551616 := by
 have h1 := Nat.and_le_right (n := lowW k) (m := 1152921487695413247)
 have h2 := Nat.and_le_right (n := highW k) (m := 1152921487695413244)
 omega
def facN (k : List UInt8) : List Nat := splitN (lowW k &&& 1152921487695413247) (highW k &&& 1152921487695413244) 0
theorem facN_val (k : List UInt8) (hk : 16 ≤ k.length) : val5 (facN k) = rN k := by rw [facN, splitN_val, rN_words k hk]; omega
theorem facN_le (k : List UInt8) : ∀ i, dg (facN k) i ≤ 67108863 := splitN_le _ _ _ (rN_zero_words k).1 (rN_zero_words k).2 (by omega)
/-! pieces -/
def bytesP (p : List UInt8) : List UInt8 := p ++ 1 :: List.replicate (16 - p.length) 0
theorem bytesP_length (p : List UInt8) (h : p.length ≤ 16) : (bytesP p).length = 17 := by simp [bytesP]; omega
theorem numL_zeros : ∀ n, numL (List.replicate n 0) = 0
 | 0 => rfl
 | n + 1 => by rw [List.replicate_succ, numL, numL_zeros n]; rfl
theorem bytesP_num (p : List UInt8) : numL (bytesP p) = numL p + 256 ^ p.length := by
 rw [bytesP, numL_append, numL, numL_zeros]
 simp
def topW (p : List UInt8) : Nat := ((bytesP p).getD 16 0).toNat
def numP (p : List UInt8) : List Nat := splitN (lowW (bytesP p)) (highW (bytesP p)) (topW p)
theorem topW_le (p : List UInt8) (h : p.length ≤ 16) : topW p ≤ 1 := by
 unfold topW bytesP
 simp only [List.getD, List.getElem?_append]
 by_cases e : p.length = 16
 ·
  rw [if_neg (by omega), e]
  simp
 ·
  rw [if_neg (by omega), show 16 - p.length = (15 - p.length) + 1 by omega, List.getElem?_cons_succ, List.getElem?_replicate]
  split <;> simp
theorem numP_val (p : List UInt8) (h : p.length ≤ 16) : val5 (numP p) = numL p + 256 ^ p.length := by
 rw [numP, splitN_val, ← bytesP_num]
 have hl := bytesP_length p h
 have hd : (bytesP p).drop 16 = [(bytesP p).getD 16 0] := by
  apply List.ext_getElem
  · simp [hl]
  ·
   intro i h1 h2
   have : i = 0 := by simpa using h2
   subst this
   simp [hl]
 have e1 : bytesP p = (bytesP p).take 8 ++ (((bytesP p).drop 8).take 8 ++ (bytesP p).drop 16) := by
  rw [← List.drop_drop (i := 8) (j := 8), List.take_append_drop, List.take_append_drop]
 have h1 := numL_append ((bytesP p).take 8) (((bytesP p).drop 8).take 8 ++ (bytesP p).drop 16)
 have h2 := numL_append (((bytesP p).drop 8).take 8) ((bytesP p).drop 16)
 rw [← e1, List.length_take, hl] at h1
 rw [List.length_take, List.length_drop, hl, hd] at h2
 rw [h1, hd, h2]
 unfold lowW highW topW
 rw [numL, numL]
 generalize numL ((bytesP p).take 8) = A
 generalize numL (((bytesP p).drop 8).take 8) = B
 generalize ((bytesP p).getD 16 0).toNat = C
 rw [show min 8 17 = 8 by decide, show min 8 (17 - 8) = 8 by decide, show 256 ^ 8 = 18446744073709551616 by decide]
 omega
theorem numP_le (p : List UInt8) (h : p.length ≤ 16) : ∀ i, dg (numP p) i ≤ 67108863 := splitN_le _ _ _ (take8_lt _) (take8_lt _) (by have := topW_le p h; omega)
/-! the last sum -/
def raised (n : List Nat) : List Nat := n.set 0 (dg n 0 + 5)
theorem tight_lt {n : List Nat} (h : tight n) : val5 n ≤ 1361129467683753853853498429727072845828 := by
 rw [val5_eq]
 have h0 := h.2 0
 have h1 := h.2 1
 have h2 := h.2 2
 have h3 := h.2 3
 have h4 := h.2 4
 simp at h0 h1 h2 h3 h4
 omega
theorem raised_val (n : List Nat) (h : n.length = 5) : val5 (raised n) = val5 n + 5 := by
 have := val5_set n 0 5 h (by omega)
 rw [raised, this, Nat.pow_zero, Nat.mul_one]
theorem raised_length (n : List Nat) : (raised n).length = n.length := by rw [raised, List.length_set]
theorem raised_carry {n : List Nat} (h : tight n) : val5 (carryN (raised n)) = val5 n % primeP + 5 ∧ ∀ i, dg (carryN (raised n)) i ≤ 67108863 := by
 have hlt := tight_lt h
 have hr := raised_val n h.1
 have hl : (raised n).length = 5 := by rw [raised_length, h.1]
 have hc := carryN_val _ hl
 rw [hr] at hc
 have hp : primeP = 1361129467683753853853498429727072845819 := rfl
 have hd := fun i => carryN_digit _ hl i
 rw [hr] at hd
 by_cases h1 : val5 n < primeP
 ·
  have hq : (val5 n + 5) / 1361129467683753853853498429727072845824 = 0 := Nat.div_eq_of_lt (by omega)
  rw [hq] at hc hd
  refine ⟨by rw [hc, Nat.mod_eq_of_lt h1, Nat.mod_eq_of_lt (by omega)], fun i => ?_⟩
  have := hd i
  split at this <;> omega
 ·
  have hq : (val5 n + 5) / 1361129467683753853853498429727072845824 = 1 := by omega
  have hm : (val5 n + 5) % 1361129467683753853853498429727072845824 = val5 n + 5 - 1361129467683753853853498429727072845824 := by omega
  have hmp : val5 n % primeP = val5 n - primeP := by rw [Nat.mod_eq_sub_mod (by omega), Nat.mod_eq_of_lt (by omega)]
  rw [hq, hm] at hc
  have hv : val5 (carryN (raised n)) = val5 n % primeP + 5 := by rw [hc, hmp]; omega
  refine ⟨hv, fun i => ?_⟩
  by_cases e : i = 0
  ·
   subst e
   have h9 : val5 (carryN (raised n)) ≤ 14 := by rw [hv, hmp]; omega
   rw [val5_eq] at h9
   omega
  ·
   have := hd i
   rw [if_neg e] at this
   exact this
theorem byteOf_mod (n m i : Nat) (h : i < m) : byteOf (n % 256 ^ m) i = byteOf n i := by
 unfold byteOf
 rw [← pow_256]
 obtain ⟨d, rfl⟩ : ∃ d, m = i + (1 + d) := ⟨m - i - 1, by omega⟩
 rw [Nat.pow_add, Nat.mod_mul_right_div_self, Nat.pow_add, Nat.pow_one, Nat.mod_mul_right_mod]
theorem byteOf_div (n m i : Nat) : byteOf (n / 256 ^ m) i = byteOf n (m + i) := by
 unfold byteOf
 rw [← pow_256, ← pow_256, Nat.div_div_eq_div_mul, ← Nat.pow_add]
theorem littleL_halves (n a b : Nat) (ha : a = n % 18446744073709551616) (hb : b = n / 18446744073709551616 % 18446744073709551616) : littleL a 8 ++ littleL b 8 = littleL n 16 := by
 rw [show 18446744073709551616 = 256 ^ 8 by decide] at ha hb
 apply List.ext_getElem
 · simp [littleL]
 ·
  intro i h1 h2
  rw [littleL_length] at h2
  rw [littleL_get n 16 i (by rw [littleL_length]; exact h2), List.getElem_append]
  split
  ·
   rename_i h
   rw [littleL_length] at h
   rw [littleL_get, ha, byteOf_mod n 8 i h]
  ·
   rename_i h
   rw [littleL_length] at h
   rw [littleL_get, hb, byteOf_mod _ 8 _ (by rw [littleL_length]; omega), littleL_length, byteOf_div, show 8 + (i - 8) = i by omega]
def keyLow (k : List UInt8) : Nat := numL ((k.drop 16).take 8)
def keyHigh (k : List UInt8) : Nat := numL ((k.drop 24).take 8)
theorem sN_words (k : List UInt8) (hk : k.length = 32) : sN k = keyLow k + 18446744073709551616 * keyHigh k := by
 have e : (k.drop 16).take 16 = (k.drop 16).take 8 ++ (k.drop 24).take 8 := by
  rw [show 16 = 8 + 8 from rfl, List.take_add, List.drop_drop]
 have h := numL_append ((k.drop 16).take 8) ((k.drop 24).take 8)
 rw [List.length_take, List.length_drop, hk, show min 8 (32 - 16) = 8 by decide, show 256 ^ 8 = 18446744073709551616 by decide] at h
 rw [sN, e, h]
 rfl
/-- the four sums of words -/
def fin0 (lo s0 : Nat) : Nat := (lo + s0) % 18446744073709551616
def over0 (lo s0 : Nat) : Nat := (lo + s0) / 18446744073709551616
def fin1 (lo hi s0 s1 : Nat) : Nat := (hi + s1 + over0 lo s0) % 18446744073709551616
def fin2 (lo s0 : Nat) : Nat := (fin0 lo s0 + 18446744073709551616 - 5) % 18446744073709551616
def under2 (lo s0 : Nat) : Nat := if fin0 lo s0 < 5 then 1 else 0
def fin3 (lo hi s0 s1 : Nat) : Nat := (fin1 lo hi s0 s1 + 18446744073709551616 - under2 lo s0) % 18446744073709551616
theorem fin_val (lo hi s0 s1 m : Nat) (_h1 : lo < 18446744073709551616) (_h2 : hi < 18446744073709551616) (_h3 : s0 < 18446744073709551616) (_h4 : s1 < 18446744073709551616) (h : lo + 18446744073709551616 * hi = (m + 5) % 340282366920938463463374607431768211456) :
 fin2 lo s0 + 18446744073709551616 * fin3 lo hi s0 s1 = (m + (s0 + 18446744073709551616 * s1)) % 340282366920938463463374607431768211456 := by
 have e0 : fin0 lo s0 = (lo + s0) % 18446744073709551616 := rfl
 have e1 : over0 lo s0 = (lo + s0) / 18446744073709551616 := rfl
 have e2 : fin1 lo hi s0 s1 = (hi + s1 + over0 lo s0) % 18446744073709551616 := rfl
 have e3 : fin2 lo s0 = (fin0 lo s0 + 18446744073709551616 - 5) % 18446744073709551616 := rfl
 have e5 : fin3 lo hi s0 s1 = (fin1 lo hi s0 s1 + 18446744073709551616 - under2 lo s0) % 18446744073709551616 := rfl
 have e4 : (fin0 lo s0 < 5 ∧ under2 lo s0 = 1) ∨ (5 ≤ fin0 lo s0 ∧ under2 lo s0 = 0) := by
  unfold under2
  by_cases h : fin0 lo s0 < 5
  · rw [if_pos h]; exact .inl ⟨h, rfl⟩
  · rw [if_neg h]; exact .inr ⟨by omega, rfl⟩
 generalize fin3 lo hi s0 s1 = A3 at *
 generalize fin2 lo s0 = A2 at *
 generalize fin1 lo hi s0 s1 = A1 at *
 generalize under2 lo s0 = U at *
 generalize over0 lo s0 = O at *
 generalize fin0 lo s0 = A0 at *
 omega
theorem sum_le (a : List Nat) (p : List UInt8) (ht : tight a) (hp : p.length ≤ 16) : ∀ i, dg (addS a (numP p) 5) i ≤ 268435455 := fun i => by
 rw [addS_dg _ _ ht.1 5 i (by omega)]
 have h1 := ht.2 i
 have h2 := numP_le p hp i
 split <;> (split at h1 <;> omega)
/-- a limb as a cell -/
def lv (n : Nat) : Value := .int .u64 (n : Int)
theorem lv_one (l : List Nat) : ∀ v ∈ l.map lv, v.oneCell' = true := by
 intro v hv
 obtain ⟨b, _, rfl⟩ := List.mem_map.1 hv
 rfl
theorem Blk.lim {w : World} {g : Nat} {t : TypeId} {l : List Nat} (h : Blk w g t (l.map lv)) (i : Nat) (hi : i < l.length) : w.cell? ⟨g, i, none⟩ = some (.int .u64 (dg l i : Int)) := by
 rw [h.cell i]
 simp [lv, hi, dg, List.getD]
theorem Blk.setLim {w : World} {g : Nat} {t : TypeId} {l : List Nat} (h : Blk w g t (l.map lv)) (i x : Nat) : Blk (w.setCell ⟨g, i, none⟩ (.int .u64 (x : Int))) g t ((l.set i x).map lv) := by
 have h' := h.set_ i (.int .u64 (x : Int))
 rw [List.map_set]
 exact h'
def z5 : List Value := [.int .u64 0, .int .u64 0, .int .u64 0, .int .u64 0, .int .u64 0]
theorem z5_arr : z5.toArray = #[.int .u64 0, .int .u64 0, .int .u64 0, .int .u64 0, .int .u64 0] := rfl
theorem cells5 (l : List Nat) (h : l.length = 5) : (Tryz.prog.info? 116).map (·.size) = some (l.map lv).length := by
 rw [List.length_map, h]; kernel_rfl
theorem and_mask64 (s : Nat) (k : Nat) (hs : s < 18446744073709551616) (hk : k < 64) : bits BinOp.and IntKind.u64 (s : Int) ((2 ^ k - 1 : Nat) : Int) = ((s % 2 ^ k : Nat) : Int) := by
 have hk2 : 2 ^ k ≤ 2 ^ 64 := Nat.pow_le_pow_right (by omega) (by omega)
 rw [u64_and_nat _ _ hs (by omega), Nat.and_two_pow_sub_one_eq_mod]
set_option maxRecDepth 100000 in
set_option maxHeartbeats 2000000 in
theorem carry_any (l : List Nat) (hl : l.length = 5) (hd : ∀ i, dg l i ≤ 4611686018427387904) (w : World) :
 Calls Tryz.prog 101 #[.agg (l.map lv).toArray] w fun e w' => e = .returned (.agg ((carryN l).map lv).toArray) ∧ Below w.heap.size w w' := by
 obtain ⟨cl, hcl⟩ : ∃ cl, (l.map lv).toArray = cl := ⟨_, rfl⟩
 rw [hcl]
 have HB0 := Lib.hid (show Blk (w.alloc (.cells cl 116)) w.heap.size 116 (l.map lv) by rw [← hcl]; exact Blk.new w _ _)
 have HL := Lib.hid hl
 have HD := Lib.hid hd
 clear hd hl
 go_enter Tryz.func101, Tryz.ntmps101
 go_upto_region 1 with fail
 have h0 := HB0.out.alloc (.cells z5.toArray 116)
 have h1 : Blk ((w.alloc (.cells cl 116)).alloc (.cells z5.toArray 116)) (w.heap.size + 1) 116 z5 := Blk.new' _ (by simp) _ _
 have h3 : Below w.heap.size w ((w.alloc (.cells cl 116)).alloc (.cells z5.toArray 116)) := ((Below.refl _ _).alloc (Nat.le_refl _) _).alloc (by simp) _
 rw [z5_arr] at h0 h1 h3
 have hsz : ((w.alloc (.cells cl 116)).alloc (.cells #[.int .u64 0, .int .u64 0, .int .u64 0, .int .u64 0, .int .u64 0] 116)).heap.size = w.heap.size + 2 := by simp
 clear HB0
 have HC := Lib.hid hcl
 clear hcl
 generalize ((w.alloc (.cells cl 116)).alloc (.cells #[.int .u64 0, .int .u64 0, .int .u64 0, .int .u64 0, .int .u64 0] 116)) = w1 at h0 h1 h3 hsz ⊢
 have H1 := Lib.hid (And.intro h0 (And.intro h1 (And.intro h3 hsz)))
 clear h0 h1 h3 hsz
 go_upto_region 2 with (first | (refine wpList_load_blk rfl 116 (.tmp 1) rfl w.heap.size rfl 116 (l.map lv) H1.out.1 5 81 Tryz.underlying116 (cells5 l HL.out) ?_; rw [HC.out]) | (refine wpList_store_blk rfl 116 (.tmp 3) (.tmp 6) rfl w1.heap.size (l.map lv) rfl (by show Value.agg cl = _; rw [HC.out]) 116 z5 (Blk.new w1 116 z5) (cells5 l HL.out) (by rw [List.length_map, HL.out]; rfl) (lv_one _) ?_; intro w2 hb2 hg2))
 simp only [Act.put]
 have e2 := H1.out.2.2.2
 have hk1 := (H1.out.2.1.alloc (.cells z5.toArray 116)).grown hg2 (fun e => by injection e; omega)
 have hk3 : Below w.heap.size w w2 := below_blk (H1.out.2.2.1.alloc (by omega) (.cells z5.toArray 116)) hg2 (by omega)
 rw [e2] at hb2 ⊢
 have H2 := Lib.hid (And.intro hb2 (And.intro hk1 hk3))
 clear hb2 hk1 hk3 hg2 e2 H1
 go_wp2_with fail
 go_loopw [4, 7, 5] (fun u i _ wr => ∃ n : Nat, n ≤ 5 ∧ i = .int .i64 (n : Int) ∧ u = .int .u64 ((cst l n).2 : Int) ∧ Blk wr (w.heap.size + 2) 116 ((cst l n).1.map lv) ∧ Blk wr (w.heap.size + 1) 116 z5 ∧ Below w.heap.size w wr) (fun _ i _ _ => 5 - (intOf i).toNat)
 case atStart => exact ⟨0, by omega, rfl, rfl, H2.out.1, H2.out.2.1, H2.out.2.2⟩
 case round =>
  clear H2
  obtain ⟨n, hn, rfl, rfl, hblk, hz, hbel⟩ := hrel
  by_cases hln : n < 5
  ·
   have d5 : decide ((n : Int) < 5) = true := by simp; omega
   have hlen : (cst l n).1.length = 5 := by rw [cst_length]; exact HL.out
   have fx := hblk.lim n (by omega)
   have zx := hblk.frozen n
   have hu := cst_carry l 68719477761 (fun i => by have := HD.out i; omega) n (by rw [HL.out]; omega)
   have hdn : dg (cst l n).1 n ≤ 4611686018427387904 := by rw [cst_above l n n (Nat.le_refl _) (by rw [HL.out]; omega)]; exact HD.out n
   have hnx : cst l (n + 1) = ((cst l n).1.set n ((dg (cst l n).1 n + (cst l n).2) % 67108864), (dg (cst l n).1 n + (cst l n).2) / 67108864) := rfl
   generalize (cst l n).2 = u at hu hnx ⊢
   generalize hdd : dg (cst l n).1 n = d at fx hdn hnx
   obtain ⟨s, hs⟩ : ∃ s, d + u = s := ⟨_, rfl⟩
   have hs1 : IntKind.u64.wrap ((d : Int) + (u : Int)) = (s : Int) := by rw [IntKind.wrap_u64]; omega
   obtain ⟨m, hmm⟩ : ∃ m, s % 67108864 = m := ⟨_, rfl⟩
   obtain ⟨q, hqq⟩ : ∃ q, s / 67108864 = q := ⟨_, rfl⟩
   have hm : bits BinOp.and IntKind.u64 (s : Int) 67108863 = (m : Int) := by rw [← hmm]; exact and_mask64 s 26 (by omega) (by omega)
   have hq : (s : Int) / 67108864 = (q : Int) := by omega
   have HNX := Lib.hid (show cst l (n + 1) = ((cst l n).1.set n m, q) by rw [hnx, hs, hmm, hqq])
   have g1 : (wr.setCell ⟨w.heap.size + 2, n, none⟩ (.int .u64 (s : Int))).cell? ⟨w.heap.size + 2, n, none⟩ = some (.int .u64 (s : Int)) := by
    have := (hblk.setLim n s).lim n (by rw [List.length_set]; omega)
    rwa [dg_set _ _ _ _ (by omega), if_pos rfl] at this
   have g2 := (hblk.setLim n s).frozen n
   have HB := Lib.hid (show Blk (wr.setCell ⟨w.heap.size + 2, n, none⟩ (.int .u64 (s : Int))) (w.heap.size + 2) 116 (((cst l n).1.set n s).map lv) ∧ Blk (wr.setCell ⟨w.heap.size + 2, n, none⟩ (.int .u64 (s : Int))) (w.heap.size + 1) 116 z5 ∧ Below w.heap.size w (wr.setCell ⟨w.heap.size + 2, n, none⟩ (.int .u64 (s : Int))) from ⟨hblk.setLim n s, hz.far (by simp) _, hbel.setCell (by dsimp only; omega) _⟩)
   clear hnx hblk hz hbel hdd hlen hs hmm hqq hu hdn
   go_upto_region 7 with fail
   (try simp only [hs1])
   generalize wr.setCell ⟨w.heap.size + 2, n, none⟩ (.int .u64 (s : Int)) = w3 at g1 g2 HB ⊢
   clear fx zx hs1
   go_wp2_with fail
   go_roundw
   case rel =>
    refine ⟨n + 1, by omega, by go_num, ?_, ?_, HB.out.2.1.far (by simp) _, HB.out.2.2.setCell (by dsimp only; omega) _⟩
    · rw [HNX.out]
    ·
     rw [HNX.out]
     have := HB.out.1.setLim n m
     rwa [List.set_set] at this
   case measure => simp [intOf]; omega
  ·
   obtain rfl : n = 5 := by omega
   have hlen : (cst l 5).1.length = 5 := by rw [cst_length]; exact HL.out
   have fx := hblk.lim 0 (by omega)
   have zx := hblk.frozen 0
   have hu := cst_carry l 68719477761 (fun i => by have := HD.out i; omega) 5 (by rw [HL.out]; omega)
   have hb := cst_below l 5 0 (by omega) (by rw [HL.out]; omega)
   obtain ⟨lz, hlz⟩ : ∃ lz, carryN l = lz := ⟨_, rfl⟩
   have hcn : carryN l = (cst l 5).1.set 0 (dg (cst l 5).1 0 + 5 * (cst l 5).2) := rfl
   have HLz := Lib.hid (show lz.length = 5 by rw [← hlz, carryN_length]; exact HL.out)
   generalize (cst l 5).2 = u at hu hcn ⊢
   generalize hdd : dg (cst l 5).1 0 = d at fx hb hcn
   obtain ⟨v, hv⟩ : ∃ v, 5 * u = v := ⟨_, rfl⟩
   obtain ⟨s, hs⟩ : ∃ s, d + v = s := ⟨_, rfl⟩
   have hv1 : IntKind.u64.wrap (5 * (u : Int)) = (v : Int) := by rw [IntKind.wrap_u64]; omega
   have hs1 : IntKind.u64.wrap ((d : Int) + (v : Int)) = (s : Int) := by rw [IntKind.wrap_u64]; omega
   rw [hv, hs, hlz] at hcn
   have g1 := hblk.setLim 0 s
   rw [← hcn] at g1
   have HB := Lib.hid (show Blk (wr.setCell ⟨w.heap.size + 2, 0, none⟩ (.int .u64 (s : Int))) (w.heap.size + 2) 116 (lz.map lv) ∧ Blk (wr.setCell ⟨w.heap.size + 2, 0, none⟩ (.int .u64 (s : Int))) (w.heap.size + 1) 116 z5 ∧ Below w.heap.size w (wr.setCell ⟨w.heap.size + 2, 0, none⟩ (.int .u64 (s : Int))) from ⟨g1, hz.far (by simp) _, hbel.setCell (by dsimp only; omega) _⟩)
   have HZ := Lib.hid hlz
   obtain ⟨cz, hcz⟩ : ∃ cz, (lz.map lv).toArray = cz := ⟨_, rfl⟩
   have HCZ := Lib.hid hcz
   clear hblk hz hbel hcz hlz hlen hu hb hv hs g1 hcn hdd
   rw [show ((5 : Nat) : Int) = 5 from rfl]
   go_upto_region 11 with fail
   (try simp only [hv1, hs1])
   generalize wr.setCell ⟨w.heap.size + 2, 0, none⟩ (.int .u64 (s : Int)) = w3 at HB ⊢
   clear fx zx hs1 hv1
   go_wp2_with (first | (refine wpList_load_blk rfl 116 (.tmp 3) rfl (w.heap.size + 2) rfl 116 (lz.map lv) HB.out.1 5 81 Tryz.underlying116 (cells5 lz HLz.out) ?_; rw [HCZ.out]) | (refine wpList_store_blk rfl 116 (.tmp 2) (.tmp 32) rfl (w.heap.size + 1) (lz.map lv) rfl (by show Value.agg cz = _; rw [HCZ.out]) 116 z5 HB.out.2.1 (cells5 lz HLz.out) (by rw [List.length_map, HLz.out]; rfl) (lv_one _) ?_; intro w9 hb9 hg9))
   exact bodyPost_ret (results_blk rfl _ _ (w.heap.size + 1) 116 (lz.map lv) 5 81 rfl hb9 Tryz.underlying116 (cells5 lz HLz.out)) rfl ⟨by rw [HZ.out], below_blk HB.out.2.2 hg9 (by omega)⟩
end Go.Proofs.YtlddafkikkaonaaGreatDoor
