/-
  The contracts of the reference's Counter, Seal and Open.
-/
import Derived.Test.YtafkedeelngnnaaAeRefTag
namespace Go.Proofs.Ytafkedeelngnnaa
open Go.RowKit

def RefXorC : Prop := ∀ (k n : List UInt8), k.length = 32 → n.length = 12 → ∀ (c : UInt32) (D : Option Addr) (m cap : Nat) (l : List UInt8), m ≤ 1000000 → ∀ w : World, Rd w w.heap.size D m l →
  Calls Try.prog 14 #[.agg (k.map u8v).toArray, .int .u32 (c.toNat : Int), .agg (n.map u8v).toArray, .slice D m cap] w fun e w' => ∃ A c', e = .returned (.slice A m c') ∧ w'.ownsRow w.heap.size 5 1 (.slice A m c') m ((xorL k c n l).map u8v) ∧ Below w.heap.size w w'

set_option maxRecDepth 100000 in
set_option maxHeartbeats 4000000 in
theorem refCounter_any (n : Nat) (hn : n < 18446744073709551616) (w : World) :
    Calls Try.prog 13 #[.int .u64 n] w fun e w' => e = .returned (.agg ((countL n).map u8v).toArray) ∧ Below w.heap.size w w' := by
  have h0 := (Blk.new w 25 (aeZ 12)).alloc (.cells (aeZ 12).toArray 25)
  have h1 : Blk ((w.alloc (.cells (aeZ 12).toArray 25)).alloc (.cells (aeZ 12).toArray 25)) (w.heap.size + 1) 25 (aeZ 12) := Blk.new' _ (by simp) _ _
  have h3 : Below w.heap.size w ((w.alloc (.cells (aeZ 12).toArray 25)).alloc (.cells (aeZ 12).toArray 25)) := ((Below.refl _ _).alloc (Nat.le_refl _) _).alloc (by simp) _
  rw [aeZ12] at h0 h1 h3
  go_enter Try.func13, Try.ntmps13
  go_upto_region 2 with fail
  generalize ((w.alloc (.cells #[.int .u8 0, .int .u8 0, .int .u8 0, .int .u8 0, .int .u8 0, .int .u8 0, .int .u8 0, .int .u8 0, .int .u8 0, .int .u8 0, .int .u8 0, .int .u8 0] 25)).alloc (.cells #[.int .u8 0, .int .u8 0, .int .u8 0, .int .u8 0, .int .u8 0, .int .u8 0, .int .u8 0, .int .u8 0, .int .u8 0, .int .u8 0, .int .u8 0, .int .u8 0] 25)) = w1 at h0 h1 h3 ⊢
  have H1 := Lib.hid (And.intro h1 (And.intro h0 h3))
  clear h0 h1 h3
  refine wp_region_held_drew (S := fun _ => True) (by kernel_rfl) (trivial) (fun hHeld => ?_)
  refine take_first (v := ?_) 0 rfl (by kernel_rfl) (by kernel_rfl) (by kernel_rfl) (fun _ _ _ h => h) (Or.inl ⟨by rfl, ?_⟩) (by assumption) ?_
  rotate_left
  · (intro w hSw; (try dsimp only at hSw); go_simp; try with_reducible rfl)
  (try simp only [Act.put, List.setIfInBounds_toArray, List.set_cons_zero, List.set_cons_succ])
  refine take_first (v := ?_) 1 rfl (by kernel_rfl) (by kernel_rfl) (by kernel_rfl) (fun _ _ _ h => h) (Or.inl ⟨by rfl, ?_⟩) (by assumption) ?_
  rotate_left
  · (intro w hSw; (try dsimp only at hSw); go_simp; try with_reducible rfl)
  (try simp only [Act.put, List.setIfInBounds_toArray, List.set_cons_zero, List.set_cons_succ])
  refine step_one 2 rfl (by kernel_rfl) (fun K hK => ?_)
  go_simp
  rw [show (8 : Int) = ((8 : Nat) : Int) from rfl]
  refine (refLittle_any n hn 8 (by omega) (by omega) _).mono ?_
  rintro e w2 ⟨A, c, rfl, ho, hb⟩
  obtain ⟨_, _, hA⟩ := own_addr ho
  obtain ⟨ga, rfl⟩ := hA (by omega)
  have HSRC := Lib.hid (Rd.of_own ho).src
  replace H1 := Lib.hid (show Blk w2 (w.heap.size + 1) 25 (aeZ 12) ∧ Blk w2 w.heap.size 25 (aeZ 12) ∧ Below w.heap.size w w2 from ⟨H1.out.1.drew.below hb H1.out.1.drew.lt, H1.out.2.1.drew.below hb H1.out.2.1.drew.lt, H1.out.2.2.drew.trans (hb.mono H1.out.2.2.drew.size)⟩)
  clear ho hb
  go_wp2_with fail
  refine hK.out _ _ (trivial) (fun hHeld => ?_)
  clear hK K
  (try simp only [Act.put, List.setIfInBounds_toArray, List.set_cons_zero, List.set_cons_succ])
  refine step_one 3 rfl (by kernel_rfl) (fun K hK => ?_)
  refine step_copy_bytes _ rfl (.tmp 4) (.tmp 6) 26 26 (by rfl) 5 Try.underlying26 (by kernel_rfl) (w.heap.size + 1) 4 8 8 ⟨ga, 0, none⟩ 8 c (by rfl) (by rfl) (aeZ 12) 25 H1.out.1 ((littleL n 8).map u8v) (by rw [List.length_map, littleL_length]; rfl) HSRC.out (by rw [List.length_map, littleL_length]; decide) (u8v_one _) ?_
  intro w3 hb3 hg3
  refine hK.out _ _ (trivial) (fun hHeld => ?_)
  clear hK K
  (try simp only [Act.put, List.setIfInBounds_toArray, List.set_cons_zero, List.set_cons_succ])
  refine wpAnyH_done (by kernel_rfl) ?_ _
  have hrow : (aeZ 12).take 4 ++ (littleL n 8).map u8v ++ (aeZ 12).drop (4 + ((littleL n 8).map u8v).length) = (countL n).map u8v := by
    rw [List.length_map, littleL_length, List.drop_of_length_le (by simp [aeZ]), List.append_nil, countL, List.map_append]
    rfl
  rw [hrow] at hb3
  have H3 := Lib.hid (show Blk w3 w.heap.size 25 (aeZ 12) ∧ Below w.heap.size w w3 from ⟨H1.out.2.1.grown hg3 (by simp), below_blk H1.out.2.2 hg3 (by omega)⟩)
  have hcl := countL_length n
  obtain ⟨lz, hlz⟩ : ∃ lz, countL n = lz := ⟨_, rfl⟩
  rw [hlz] at hb3 hcl
  have HB3 := Lib.hid (And.intro hb3 hcl)
  obtain ⟨cz, hcz⟩ : ∃ cz, (lz.map u8v).toArray = cz := ⟨_, rfl⟩
  have HCZ := Lib.hid (And.intro hcz hlz)
  clear hb3 hg3 hrow H1 HSRC hHeld hcl hlz hcz
  go_wp2_with (first | (refine wpList_load_blk rfl 25 (.tmp 3) rfl (w.heap.size + 1) rfl 25 (lz.map u8v) HB3.out.1 12 5 Try.underlying25 (ae_cellsN lz HB3.out.2) ?_; rw [HCZ.out.1]) | (refine wpList_store_blk rfl 25 (.tmp 2) (.tmp 8) rfl w.heap.size (lz.map u8v) rfl (by show Value.agg cz = _; rw [HCZ.out.1]) 25 (aeZ 12) H3.out.1 (ae_cellsN lz HB3.out.2) (by rw [List.length_map, HB3.out.2]; rfl) (u8v_one _) ?_; intro w9 hb9 hg9))
  exact bodyPost_ret (results_blk rfl _ _ w.heap.size 25 (lz.map u8v) 12 5 rfl hb9 Try.underlying25 (ae_cellsN lz HB3.out.2)) rfl ⟨by rw [HCZ.out.2], below_blk H3.out.2 hg9 (Nat.le_refl _)⟩

set_option maxRecDepth 100000 in
set_option maxHeartbeats 4000000 in
theorem refSeal_any (HXC : RefXorC) (HBC : RefBlockC) (HPC : RefPolyC) (k nn : List UInt8) (hk : k.length = 32) (hn : nn.length = 12) (Ap Am : Option Addr) (np cp nm cm : Nat) (pl more : List UInt8) (hnp : np ≤ 300000) (hnm : nm ≤ 300000) (w : World) (hrp : Rd w w.heap.size Ap np pl) (hrm : Rd w w.heap.size Am nm more) :
    Calls Try.prog 7 #[.agg (k.map u8v).toArray, .agg (nn.map u8v).toArray, .slice Ap np cp, .slice Am nm cm] w fun e w' => ∃ A c', e = .returned (.slice A (np + 16) c') ∧ w'.ownsRow w.heap.size 5 1 (.slice A (np + 16) c') (np + 16) ((sealL k nn pl more).map u8v) ∧ Below w.heap.size w w' := by
  obtain ⟨i0, hi, hz0, hz1, hz2⟩ := info_parts Try.info5
  have XC := HXC k nn hk hn 1 Ap np cp pl (by omega)
  have TC := fun (A : Option Addr) (c' : Nat) => refTag_any HBC HPC k nn hk hn A Am np c' nm cm (xorL k 1 nn pl) more (by omega) (by omega)
  rw [show ((1 : UInt32).toNat : Int) = 1 from rfl] at XC
  obtain ⟨ck, hck⟩ : ∃ ck, (k.map u8v).toArray = ck := ⟨_, rfl⟩
  obtain ⟨cn, hcn⟩ : ∃ cn, (nn.map u8v).toArray = cn := ⟨_, rfl⟩
  rw [hck, hcn] at XC TC
  rw [hck, hcn]
  have h0 : Blk ((w.alloc (.cells ck 23)).alloc (.cells cn 25)) w.heap.size 23 (k.map u8v) := by rw [← hck]; exact (Blk.new w _ _).alloc _
  have h1 : Blk ((w.alloc (.cells ck 23)).alloc (.cells cn 25)) (w.heap.size + 1) 25 (nn.map u8v) := by rw [← hcn]; exact Blk.new' (w.alloc (.cells ck 23)) (by simp) _ _
  have h3 : Below w.heap.size w ((w.alloc (.cells ck 23)).alloc (.cells cn 25)) := ((Below.refl _ _).alloc (Nat.le_refl _) _).alloc (by simp) _
  have hst := sealT_length k nn (xorL k 1 nn pl) more
  have hse : xorL k 1 nn pl ++ sealT k nn (xorL k 1 nn pl) more = sealL k nn pl more := rfl
  generalize sealL k nn pl more = se at hse
  generalize sealT k nn (xorL k 1 nn pl) more = st at TC hst hse
  generalize xorL k 1 nn pl = xl at XC TC hse
  obtain ⟨cs, hcs⟩ : ∃ cs, (st.map u8v).toArray = cs := ⟨_, rfl⟩
  rw [hcs] at TC
  have HP := Lib.hid (hrp.below h3)
  have HM := Lib.hid (hrm.below h3)
  have HC := Lib.hid (And.intro hck hcn)
  have HL := Lib.hid (And.intro hk hn)
  have HS := Lib.hid (And.intro hst (And.intro hcs hse))
  have HXC2 := Lib.hid XC
  have HTC2 := Lib.hid TC
  clear hck hcn hk hn hst hcs hse XC TC HXC HBC HPC hrp hrm
  go_enter Try.func7, Try.ntmps7
  go_upto_region 1 with fail
  generalize ((w.alloc (.cells ck 23)).alloc (.cells cn 25)) = w1 at h0 h1 h3 HP HM ⊢
  have hw1 := h3.size
  have H1 := Lib.hid (show Blk w1 w.heap.size 23 (k.map u8v) ∧ Blk w1 (w.heap.size + 1) 25 (nn.map u8v) ∧ Below w.heap.size w w1 from ⟨h0, h1, h3⟩)
  clear h0 h1 h3
  replace HP := Lib.hid (HP.out.mono H1.out.2.2.size)
  replace HM := Lib.hid (HM.out.mono H1.out.2.2.size)
  go_wp2_with (first | (refine wpList_load_blk rfl 23 (.tmp 4) rfl w.heap.size rfl 23 (k.map u8v) H1.out.1 32 5 Try.underlying23 (cells32 k HL.out.1) ?_; rw [HC.out.1]) | (refine wpList_load_blk rfl 25 (.tmp 5) rfl (w.heap.size + 1) rfl 25 (nn.map u8v) H1.out.2.1 12 5 Try.underlying25 (ae_cellsN nn HL.out.2) ?_; rw [HC.out.2]))
  refine (HXC2.out _ HP.out).mono ?_
  rintro e w2 ⟨A1, c1, rfl, ho, hb⟩
  replace H1 := Lib.hid (show Blk w2 w.heap.size 23 (k.map u8v) ∧ Blk w2 (w.heap.size + 1) 25 (nn.map u8v) ∧ Below w.heap.size w w2 from ⟨H1.out.1.below hb H1.out.1.lt, H1.out.2.1.below hb H1.out.2.1.lt, H1.out.2.2.trans (hb.mono H1.out.2.2.size)⟩)
  have HO := Lib.hid (own_base ho (show w.heap.size ≤ w1.heap.size by have := H1.out.2.2; exact hw1))
  replace HM := Lib.hid ((HM.out.below hb).mono hb.size)
  clear ho hb HP
  go_wp2_with (first | (refine wpList_load_blk rfl 23 (.tmp 4) rfl w.heap.size rfl 23 (k.map u8v) H1.out.1 32 5 Try.underlying23 (cells32 k HL.out.1) ?_; rw [HC.out.1]) | (refine wpList_load_blk rfl 25 (.tmp 5) rfl (w.heap.size + 1) rfl 25 (nn.map u8v) H1.out.2.1 12 5 Try.underlying25 (ae_cellsN nn HL.out.2) ?_; rw [HC.out.2]))
  refine (HTC2.out A1 c1 _ (Rd.of_own HO.out) HM.out).mono ?_
  rintro e w3 ⟨rfl, hb⟩
  have HO3 := Lib.hid (And.intro (own_below HO.out hb) (H1.out.2.2.trans (hb.mono H1.out.2.2.size)))
  clear hb HO H1 HM
  go_upto_region 3 with (refine wpList_store_blk rfl 43 (.tmp 10) (.tmp 19) rfl w3.heap.size (st.map u8v) rfl (by show Value.agg cs = _; rw [HS.out.2.1]) 43 (aeZ 16) (Blk.new w3 43 (aeZ 16)) (ae_cellsT st HS.out.1) (by rw [List.length_map, HS.out.1]; rfl) (u8v_one _) ?_; intro w4 hb4 hg4)
  simp only [Act.put]
  have hb34 : Below w3.heap.size w3 w4 := Below.grown ((Below.refl _ _).alloc (Nat.le_refl _) (.cells (aeZ 16).toArray 43)) hg4 (by simp) (by intro k hk; injection hk with hk; omega)
  have HO4 := Lib.hid (And.intro (own_below HO3.out.1 hb34) (And.intro (HO3.out.2.trans (hb34.mono HO3.out.2.size)) (blk_all hb4 HS.out.1)))
  clear hb4 hg4 hb34 HO3
  generalize w3.heap.size = P at HO4 ⊢
  go_wp2_with (refine wpList_append_rd _ rfl (.tmp 20) (.tmp 21) 26 rfl w.heap.size 5 i0 (.int .u8 0) Try.underlying26 hi hz0 hz1 hz2 rfl (.slice A1 np c1) np (xl.map u8v) rfl HO4.out.1 _ _ 16 16 st rfl HO4.out.2.2 (by omega) HO4.out.2.1.size ?_; intro v5 w5 hown5 hg5)
  obtain ⟨A5, c5, rfl, _⟩ := own_slice hown5
  have H5 := Lib.hid (show w5.ownsRow w.heap.size 5 1 (.slice A5 (np + 16) c5) (np + 16) (se.map u8v) ∧ Below w.heap.size w w5 from ⟨by rw [← List.map_append, HS.out.2.2] at hown5; exact hown5, HO4.out.2.1.grown hg5 HO4.out.2.1.size (own_from HO4.out.1)⟩)
  clear hown5 hg5 HO4
  go_wp2
  go_ret
  exact ⟨_, _, rfl, H5.out.1, H5.out.2⟩

/-- 'string(b)' of a slice that reads as l -/
theorem ae_str {w : World} {B n : Nat} {A : Option Addr} {l : List UInt8} (h : Rd w B A n l) (c : Nat) : (convert 26 9 (.slice A n c)).run Try.prog w = .ok (.string ⟨l.toArray⟩) w :=
  run_string_of_rd (P := Try.prog) 26 9 5 c Try.underlying26 Try.underlying5 Try.underlying9 h

set_option maxRecDepth 100000 in
set_option maxHeartbeats 4000000 in
theorem refOpen_any (HXC : RefXorC) (HBC : RefBlockC) (HPC : RefPolyC) (k nn : List UInt8) (hk : k.length = 32) (hn : nn.length = 12) (As Am : Option Addr) (ns cs0 nm cm : Nat) (sl more : List UInt8) (hns : ns ≤ 300000) (hnc : ns ≤ cs0) (_hcm : cs0 ≤ maxLen) (hnm : nm ≤ 300000) (w : World) (hrs : Rd w w.heap.size As ns sl) (hrm : Rd w w.heap.size Am nm more) :
    Calls Try.prog 10 #[.agg (k.map u8v).toArray, .agg (nn.map u8v).toArray, .slice As ns cs0, .slice Am nm cm] w fun e w' => ∃ A c', e = .returned (.tuple #[.slice A (openL k nn sl more).1.length c', .int .i64 ((openL k nn sl more).2 : Int)]) ∧ Rd w' w'.heap.size A (openL k nn sl more).1.length (openL k nn sl more).1 ∧ Below w.heap.size w w' := by
  have hsl : sl.length = ns := hrs.1
  by_cases h16 : ns < 16
  · have ho : openL k nn sl more = ([], 2) := by rw [openL, if_pos (by omega)]
    rw [ho]
    have d16 : decide ((ns : Int) < 16) = true := by simp; omega
    have hB := Lib.hid (((Below.refl w.heap.size w).alloc (Nat.le_refl _) (.cells (k.map u8v).toArray 23)).alloc (by simp) (.cells (nn.map u8v).toArray 25))
    obtain ⟨ck, hck⟩ : ∃ ck, (k.map u8v).toArray = ck := ⟨_, rfl⟩
    obtain ⟨cn, hcn⟩ : ∃ cn, (nn.map u8v).toArray = cn := ⟨_, rfl⟩
    rw [hck, hcn] at hB
    rw [hck, hcn]
    clear hck hcn ho HXC HBC HPC
    go_enter Try.func10, Try.ntmps10
    go_wp2_with fail
    exact bodyPost_ret (results_tmp2 rfl _ _ _) rfl ⟨_, _, rfl, Rd.nil _ _ _, hB.out⟩
  · obtain ⟨m, hm⟩ : ∃ m, ns - 16 = m := ⟨_, rfl⟩
    have d16 : decide ((ns : Int) < 16) = false := by simp; omega
    have hsb : (ns : Int) - 16 = (m : Int) := by omega
    have hsw : IntKind.i64.wrap ((ns : Int) - 16) = (m : Int) := by rw [hsb]; exact IntWalk.i64_in _ (by omega)
    have b1 : (m : Int) ≤ (cs0 : Int) := by omega
    have b2 : ¬ cs0 = m := by omega
    have b3 : (m : Int) ≤ (ns : Int) := by omega
    obtain ⟨sb, soff, rfl, hsbl, _⟩ := hrs.2 (by omega)
    have ho : openL k nn sl more = if sealT k nn (sl.take m) more = sl.drop m then (xorL k 1 nn (sl.take m), 0) else ([], 6) := by rw [openL, if_neg (by omega), hsl, hm]
    have hr1 := hrs.take (m := m) (by omega)
    have hr2 := hrs.drop m sb soff rfl (by omega)
    rw [show ns - m = 16 by omega] at hr2
    have htl : (sl.drop m).length = 16 := hr2.1
    have hcl : (sl.take m).length = m := hr1.1
    have XC := HXC k nn hk hn 1 (some ⟨sb, soff, none⟩) m cs0 (sl.take m) (by omega)
    have TC := refTag_any HBC HPC k nn hk hn (some ⟨sb, soff, none⟩) Am m cs0 nm cm (sl.take m) more (by omega) (by omega)
    rw [show ((1 : UInt32).toNat : Int) = 1 from rfl] at XC
    have hst := sealT_length k nn (sl.take m) more
    have hxl : (xorL k 1 nn (sl.take m)).length = m := by rw [xorL_length, hcl]
    obtain ⟨st, hste⟩ : ∃ st, sealT k nn (sl.take m) more = st := ⟨_, rfl⟩
    rw [hste] at TC hst ho
    generalize xorL k 1 nn (sl.take m) = xl at XC hxl ho
    generalize sl.take m = cl at XC TC hr1 hcl hste
    generalize sl.drop m = tl at hr2 htl ho
    obtain ⟨⟨ol, oe⟩, hoe⟩ : ∃ o, openL k nn sl more = o := ⟨_, rfl⟩
    rw [hoe] at ho ⊢
    have HOE := Lib.hid ho
    clear hste ho hrs hoe
    obtain ⟨cs, hcs⟩ : ∃ cs, (st.map u8v).toArray = cs := ⟨_, rfl⟩
    rw [hcs] at TC
    obtain ⟨ck, hck⟩ : ∃ ck, (k.map u8v).toArray = ck := ⟨_, rfl⟩
    obtain ⟨cn, hcn⟩ : ∃ cn, (nn.map u8v).toArray = cn := ⟨_, rfl⟩
    rw [hck, hcn] at XC TC
    rw [hck, hcn]
    have h0 : Blk ((w.alloc (.cells ck 23)).alloc (.cells cn 25)) w.heap.size 23 (k.map u8v) := by rw [← hck]; exact (Blk.new w _ _).alloc _
    have h1 : Blk ((w.alloc (.cells ck 23)).alloc (.cells cn 25)) (w.heap.size + 1) 25 (nn.map u8v) := by rw [← hcn]; exact Blk.new' (w.alloc (.cells ck 23)) (by simp) _ _
    have h3 : Below w.heap.size w ((w.alloc (.cells ck 23)).alloc (.cells cn 25)) := ((Below.refl _ _).alloc (Nat.le_refl _) _).alloc (by simp) _
    have HP := Lib.hid (hr1.below h3)
    have HT := Lib.hid (hr2.below h3)
    have HM := Lib.hid (hrm.below h3)
    have HC := Lib.hid (And.intro hck hcn)
    have HL := Lib.hid (And.intro hk hn)
    have HS := Lib.hid (And.intro hst (And.intro hcs (And.intro hcl (And.intro htl hxl))))
    have HXC2 := Lib.hid XC
    have HTC2 := Lib.hid TC
    have HSM := Lib.hid hm
    clear hck hcn hk hn hst hcs hcl htl hxl XC TC HXC HBC HPC hr1 hr2 hrm hsl hm
    go_enter Try.func10, Try.ntmps10
    go_upto_region 1 with fail
    generalize ((w.alloc (.cells ck 23)).alloc (.cells cn 25)) = w1 at h0 h1 h3 HP HT HM ⊢
    have H1 := Lib.hid (show Blk w1 w.heap.size 23 (k.map u8v) ∧ Blk w1 (w.heap.size + 1) 25 (nn.map u8v) ∧ Below w.heap.size w w1 from ⟨h0, h1, h3⟩)
    clear h0 h1 h3
    replace HP := Lib.hid (HP.out.mono H1.out.2.2.size)
    replace HT := Lib.hid (HT.out.mono H1.out.2.2.size)
    replace HM := Lib.hid (HM.out.mono H1.out.2.2.size)
    go_wp2_with (first | (refine wpList_load_blk rfl 23 (.tmp 4) rfl w.heap.size rfl 23 (k.map u8v) H1.out.1 32 5 Try.underlying23 (cells32 k HL.out.1) ?_; rw [HC.out.1]) | (refine wpList_load_blk rfl 25 (.tmp 5) rfl (w.heap.size + 1) rfl 25 (nn.map u8v) H1.out.2.1 12 5 Try.underlying25 (ae_cellsN nn HL.out.2) ?_; rw [HC.out.2]))
    clear d16 hsb hsw b1
    refine (HTC2.out _ HP.out HM.out).mono ?_
    rintro e w2 ⟨rfl, hb⟩
    replace H1 := Lib.hid (show Blk w2 w.heap.size 23 (k.map u8v) ∧ Blk w2 (w.heap.size + 1) 25 (nn.map u8v) ∧ Below w.heap.size w w2 from ⟨H1.out.1.below hb H1.out.1.lt, H1.out.2.1.below hb H1.out.2.1.lt, H1.out.2.2.trans (hb.mono H1.out.2.2.size)⟩)
    replace HP := Lib.hid ((HP.out.below hb).mono hb.size)
    replace HT := Lib.hid ((HT.out.below hb).mono hb.size)
    clear hb HM
    go_upto_region 5 with (refine wpList_store_blk rfl 43 (.tmp 11) (.tmp 24) rfl w2.heap.size (st.map u8v) rfl (by show Value.agg cs = _; rw [HS.out.2.1]) 43 (aeZ 16) (Blk.new w2 43 (aeZ 16)) (ae_cellsT st HS.out.1) (by rw [List.length_map, HS.out.1]; rfl) (u8v_one _) ?_; intro w4 hb4 hg4)
    simp only [Act.put]
    have hb24 : Below w2.heap.size w2 w4 := Below.grown ((Below.refl _ _).alloc (Nat.le_refl _) (.cells (aeZ 16).toArray 43)) hg4 (by simp) (by intro k hk; injection hk with hk; omega)
    replace H1 := Lib.hid (show Blk w4 w.heap.size 23 (k.map u8v) ∧ Blk w4 (w.heap.size + 1) 25 (nn.map u8v) ∧ Below w.heap.size w w4 from ⟨H1.out.1.below hb24 H1.out.1.lt, H1.out.2.1.below hb24 H1.out.2.1.lt, H1.out.2.2.trans (hb24.mono H1.out.2.2.size)⟩)
    replace HP := Lib.hid ((HP.out.below hb24).mono hb24.size)
    replace HT := Lib.hid ((HT.out.below hb24).mono hb24.size)
    have HG := Lib.hid (blk_all hb4 HS.out.1)
    clear hb4 hg4 hb24
    generalize w2.heap.size = P at HG ⊢
    have cvg : ∀ w' : World, Below w4.heap.size w4 w' → (convert 26 9 (.slice (some ⟨P, 0, none⟩) 16 16)).run Try.prog w' = .ok (.string ⟨st.toArray⟩) w' := fun w' hb => ae_str (HG.out.below hb) 16
    have cvt : ∀ w' : World, Below w4.heap.size w4 w' → (convert 26 9 (.slice (some ⟨sb, soff + m, none⟩) 16 (cs0 - m))).run Try.prog w' = .ok (.string ⟨tl.toArray⟩) w' := fun w' hb => ae_str (HT.out.below hb) _
    have e16 : ns - m = 16 := by have := HSM.out; omega
    by_cases hst : st = tl
    · have ho := HOE.out
      rw [if_pos hst] at ho
      injection ho with ho1 ho2
      subst ho1 ho2 hst
      refine wp_region_held_drew (S := fun w5 => Below w4.heap.size w4 w5) (by kernel_rfl) ((Below.refl w4.heap.size w4).drew) (fun hHeld => ?_)
      refine take_first (v := ?_) 0 rfl (by kernel_rfl) (by kernel_rfl) (by kernel_rfl) (fun _ _ _ h => h) (Or.inl ⟨by rfl, ?_⟩) (by assumption) ?_
      rotate_left
      · (intro w hSw; (try dsimp only at hSw); go_simp; try with_reducible rfl)
      (try simp only [Act.put, List.setIfInBounds_toArray, List.set_cons_zero, List.set_cons_succ])
      refine take_first (v := ?_) 1 rfl (by kernel_rfl) (by kernel_rfl) (by kernel_rfl) (fun _ _ _ h => h) (Or.inl ⟨by rfl, ?_⟩) (by assumption) ?_
      rotate_left
      · (intro w hSw; (try dsimp only at hSw); go_simp; try with_reducible rfl)
      (try simp only [Act.put, List.setIfInBounds_toArray, List.set_cons_zero, List.set_cons_succ])
      refine take_first (v := ?_) 2 rfl (by kernel_rfl) (by kernel_rfl) (by kernel_rfl) (fun _ _ _ h => h) (Or.inl ⟨by rfl, ?_⟩) (by assumption) ?_
      rotate_left
      · (intro w hSw; (try dsimp only at hSw); go_simp; try with_reducible rfl)
      (try simp only [Act.put, List.setIfInBounds_toArray, List.set_cons_zero, List.set_cons_succ])
      refine take_first (v := ?_) 3 rfl (by kernel_rfl) (by kernel_rfl) (by kernel_rfl) (fun _ _ _ h => h) (Or.inl ⟨by rfl, ?_⟩) (by assumption) ?_
      rotate_left
      · (intro w hSw; (try dsimp only at hSw); go_simp; try with_reducible rfl)
      (try simp only [Act.put, List.setIfInBounds_toArray, List.set_cons_zero, List.set_cons_succ])
      refine take_first (v := ?_) 4 rfl (by kernel_rfl) (by kernel_rfl) (by kernel_rfl) (fun _ _ _ h => h) (Or.inl ⟨by rfl, ?_⟩) (by assumption) ?_
      rotate_left
      · (intro w hSw; (try dsimp only at hSw); go_simp; try with_reducible rfl)
      (try simp only [Act.put, List.setIfInBounds_toArray, List.set_cons_zero, List.set_cons_succ])
      refine take_first (v := ?_) 5 rfl (by kernel_rfl) (by kernel_rfl) (by kernel_rfl) (fun _ _ _ h => h) (Or.inl ⟨by rfl, ?_⟩) (by assumption) ?_
      rotate_left
      · (intro w hSw; (try dsimp only at hSw); go_simp; try with_reducible rfl)
      (try simp only [Act.put, List.setIfInBounds_toArray, List.set_cons_zero, List.set_cons_succ])
      refine take_first (v := ?_) 6 rfl (by kernel_rfl) (by kernel_rfl) (by kernel_rfl) (fun _ _ _ h => h) (Or.inl ⟨by rfl, ?_⟩) (by assumption) ?_
      rotate_left
      · (intro w hSw; (try dsimp only at hSw); go_simp; try with_reducible rfl)
      (try simp only [Act.put, List.setIfInBounds_toArray, List.set_cons_zero, List.set_cons_succ])
      refine take_first (v := ?_) 7 rfl (by kernel_rfl) (by kernel_rfl) (by kernel_rfl) (fun _ _ _ h => h) (Or.inl ⟨by rfl, ?_⟩) (by assumption) ?_
      rotate_left
      · (intro w hSw; (try dsimp only at hSw); go_simp; try with_reducible rfl)
      (try simp only [Act.put, List.setIfInBounds_toArray, List.set_cons_zero, List.set_cons_succ])
      refine wpAnyH_done (by kernel_rfl) ?_ _
      replace H1 := Lib.hid (show Blk w4.drew w.heap.size 23 (k.map u8v) ∧ Blk w4.drew (w.heap.size + 1) 25 (nn.map u8v) ∧ Below w.heap.size w w4.drew from ⟨H1.out.1.drew, H1.out.2.1.drew, H1.out.2.2.drew⟩)
      replace HP := Lib.hid HP.out.drew
      clear cvg cvt HG HT hHeld HOE
      go_wp2_with (first | (refine wpList_load_blk rfl 23 (.tmp 4) rfl w.heap.size rfl 23 (k.map u8v) H1.out.1 32 5 Try.underlying23 (cells32 k HL.out.1) ?_; rw [HC.out.1]) | (refine wpList_load_blk rfl 25 (.tmp 5) rfl (w.heap.size + 1) rfl 25 (nn.map u8v) H1.out.2.1 12 5 Try.underlying25 (ae_cellsN nn HL.out.2) ?_; rw [HC.out.2]))
      refine (HXC2.out _ HP.out).mono ?_
      rintro e w6 ⟨A6, c6, rfl, ho6, hb6⟩
      have HF := Lib.hid (And.intro (Rd.of_own ho6) (H1.out.2.2.trans (hb6.mono H1.out.2.2.size)))
      clear ho6 hb6 H1 HP
      go_wp2_with fail
      have hoL := HS.out.2.2.2.2
      exact bodyPost_ret (results_tmp2 rfl _ _ _) rfl ⟨A6, c6, by rw [hoL]; rfl, by rw [hoL]; exact HF.out.1, HF.out.2⟩
    · have ho := HOE.out
      rw [if_neg hst] at ho
      injection ho with ho1 ho2
      subst ho1 ho2
      refine wp_region_held_drew (S := fun w5 => Below w4.heap.size w4 w5) (by kernel_rfl) ((Below.refl w4.heap.size w4).drew) (fun hHeld => ?_)
      refine take_first (v := ?_) 0 rfl (by kernel_rfl) (by kernel_rfl) (by kernel_rfl) (fun _ _ _ h => h) (Or.inl ⟨by rfl, ?_⟩) (by assumption) ?_
      rotate_left
      · (intro w hSw; (try dsimp only at hSw); go_simp; try with_reducible rfl)
      (try simp only [Act.put, List.setIfInBounds_toArray, List.set_cons_zero, List.set_cons_succ])
      refine take_first (v := ?_) 1 rfl (by kernel_rfl) (by kernel_rfl) (by kernel_rfl) (fun _ _ _ h => h) (Or.inl ⟨by rfl, ?_⟩) (by assumption) ?_
      rotate_left
      · (intro w hSw; (try dsimp only at hSw); go_simp; try with_reducible rfl)
      (try simp only [Act.put, List.setIfInBounds_toArray, List.set_cons_zero, List.set_cons_succ])
      refine take_first (v := ?_) 2 rfl (by kernel_rfl) (by kernel_rfl) (by kernel_rfl) (fun _ _ _ h => h) (Or.inl ⟨by rfl, ?_⟩) (by assumption) ?_
      rotate_left
      · (intro w hSw; (try dsimp only at hSw); go_simp; try with_reducible rfl)
      (try simp only [Act.put, List.setIfInBounds_toArray, List.set_cons_zero, List.set_cons_succ])
      refine take_first (v := ?_) 3 rfl (by kernel_rfl) (by kernel_rfl) (by kernel_rfl) (fun _ _ _ h => h) (Or.inl ⟨by rfl, ?_⟩) (by assumption) ?_
      rotate_left
      · (intro w hSw; (try dsimp only at hSw); go_simp; try with_reducible rfl)
      (try simp only [Act.put, List.setIfInBounds_toArray, List.set_cons_zero, List.set_cons_succ])
      refine take_first (v := ?_) 4 rfl (by kernel_rfl) (by kernel_rfl) (by kernel_rfl) (fun _ _ _ h => h) (Or.inl ⟨by rfl, ?_⟩) (by assumption) ?_
      rotate_left
      · (intro w hSw; (try dsimp only at hSw); go_simp; try with_reducible rfl)
      (try simp only [Act.put, List.setIfInBounds_toArray, List.set_cons_zero, List.set_cons_succ])
      refine take_first (v := ?_) 5 rfl (by kernel_rfl) (by kernel_rfl) (by kernel_rfl) (fun _ _ _ h => h) (Or.inl ⟨by rfl, ?_⟩) (by assumption) ?_
      rotate_left
      · (intro w hSw; (try dsimp only at hSw); go_simp; try with_reducible rfl)
      (try simp only [Act.put, List.setIfInBounds_toArray, List.set_cons_zero, List.set_cons_succ])
      refine take_first (v := ?_) 6 rfl (by kernel_rfl) (by kernel_rfl) (by kernel_rfl) (fun _ _ _ h => h) (Or.inl ⟨by rfl, ?_⟩) (by assumption) ?_
      rotate_left
      · (intro w hSw; (try dsimp only at hSw); go_simp; try with_reducible rfl)
      (try simp only [Act.put, List.setIfInBounds_toArray, List.set_cons_zero, List.set_cons_succ])
      refine take_first (v := .bool true) 7 rfl (by kernel_rfl) (by kernel_rfl) (by kernel_rfl) (fun _ _ _ h => h) (Or.inl ⟨by rfl, ?_⟩) (by assumption) ?_
      · (intro w hSw; (try dsimp only at hSw); go_simp)
      (try simp only [Act.put, List.setIfInBounds_toArray, List.set_cons_zero, List.set_cons_succ])
      refine wpAnyH_done (by kernel_rfl) ?_ _
      have HF := Lib.hid H1.out.2.2.drew
      clear cvg cvt HG HT hHeld HOE H1 HP
      go_wp2_with fail
      exact bodyPost_ret (results_tmp2 rfl _ _ _) rfl ⟨_, _, rfl, Rd.nil _ _ _, HF.out⟩
end Go.Proofs.Ytafkedeelngnnaa
