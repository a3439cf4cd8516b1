/-
  The contracts of the reference's times and least.
-/
import Derived.Test.YthjhohmmdnjpkaaPoRef
import Derived.Test.YthjhohmmdnjpkaaPoPlus
namespace Go.Proofs.Ythjhohmmdnjpkaa
open Go.RowKit

/-- the first i digits of the product, then zeros -/
def rowC (a b : List Nat) (i : Nat) : List Nat := ((List.range i).map fun i => convI a b i 17) ++ List.replicate (17 - i) 0
theorem rowC_length (a b : List Nat) (i : Nat) (h : i ≤ 17) : (rowC a b i).length = 17 := by simp [rowC]; omega
theorem rowC_set (a b : List Nat) (i : Nat) (h : i < 17) : (rowC a b i).set i (convI a b i 17) = rowC a b (i + 1) := by
  unfold rowC
  rw [List.set_append_right _ _ (by simp), List.length_map, List.length_range, Nat.sub_self, show 17 - i = (17 - (i + 1)) + 1 by omega, List.replicate_succ, List.set_cons_zero, List.range_succ, List.map_append, List.append_assoc]
  rfl
theorem rowC_end (a b : List Nat) : rowC a b 17 = convN a b := by simp [rowC, convN]

set_option maxRecDepth 100000 in
set_option maxHeartbeats 2000000 in
theorem times_any (a b : List Nat) (ha : a.length = 17 ∧ ∀ i, dg a i ≤ 255) (hb : b.length = 17 ∧ ∀ i, dg b i ≤ 255) (w : World) :
    Calls Try.prog 16 #[.agg (a.map nv).toArray, .agg (b.map nv).toArray] w fun e w' => e = .returned (.agg ((timesN a b).map nv).toArray) ∧ Below w.heap.size w w' := by
  obtain ⟨ca, hca⟩ : ∃ ca, (a.map nv).toArray = ca := ⟨_, rfl⟩
  obtain ⟨cb, hcb⟩ : ∃ cb, (b.map nv).toArray = cb := ⟨_, rfl⟩
  rw [hca, hcb]
  have HB0 := Lib.hid (show Blk (w.alloc (.cells ca 47)) w.heap.size 47 (a.map nv) by rw [← hca]; exact Blk.new w _ _)
  have HB1 := Lib.hid (show Blk ((w.alloc (.cells ca 47)).alloc (.cells cb 47)) (w.heap.size + 1) 47 (b.map nv) by rw [← hcb]; exact Blk.new' _ (by simp) _ _)
  have HA := Lib.hid ha
  have HBB := Lib.hid hb
  clear ha hb
  go_enter Try.func16, Try.ntmps16
  go_upto_region 2 with fail
  have h1 := ((HB0.out.alloc (.cells cb 47)).alloc (.cells z17.toArray 47)).alloc (.cells z17.toArray 47)
  have h2 := (HB1.out.alloc (.cells z17.toArray 47)).alloc (.cells z17.toArray 47)
  have h3 : Blk ((((w.alloc (.cells ca 47)).alloc (.cells cb 47)).alloc (.cells z17.toArray 47)).alloc (.cells z17.toArray 47)) (w.heap.size + 2) 47 z17 := (Blk.new' ((w.alloc (.cells ca 47)).alloc (.cells cb 47)) (by simp) 47 z17).alloc _
  have h5 : Blk ((((w.alloc (.cells ca 47)).alloc (.cells cb 47)).alloc (.cells z17.toArray 47)).alloc (.cells z17.toArray 47)) (w.heap.size + 3) 47 z17 := Blk.new' _ (by simp) _ _
  have h4 : Below w.heap.size w ((((w.alloc (.cells ca 47)).alloc (.cells cb 47)).alloc (.cells z17.toArray 47)).alloc (.cells z17.toArray 47)) := ((((Below.refl _ _).alloc (Nat.le_refl _) _).alloc (by simp) _).alloc (by simp; omega) _).alloc (by simp; omega) _
  rw [z17_arr] at h1 h2 h3 h4 h5
  clear HB0 HB1 hca hcb
  generalize ((((w.alloc (.cells ca 47)).alloc (.cells cb 47)).alloc (.cells #[.int .u32 0, .int .u32 0, .int .u32 0, .int .u32 0, .int .u32 0, .int .u32 0, .int .u32 0, .int .u32 0, .int .u32 0, .int .u32 0, .int .u32 0, .int .u32 0, .int .u32 0, .int .u32 0, .int .u32 0, .int .u32 0, .int .u32 0] 47)).alloc (.cells #[.int .u32 0, .int .u32 0, .int .u32 0, .int .u32 0, .int .u32 0, .int .u32 0, .int .u32 0, .int .u32 0, .int .u32 0, .int .u32 0, .int .u32 0, .int .u32 0, .int .u32 0, .int .u32 0, .int .u32 0, .int .u32 0, .int .u32 0] 47)) = w1 at h1 h2 h3 h4 h5 ⊢
  rw [show w.heap.size + 1 + 1 = w.heap.size + 2 from rfl, show w.heap.size + 2 + 1 = w.heap.size + 3 from rfl]
  have H1 := Lib.hid (And.intro h1 (And.intro h2 (And.intro h3 (And.intro h5 h4))))
  clear h1 h2 h3 h4 h5
  go_wp2_with fail
  go_loopw [6, 7, 8] (fun v _ _ wr => ∃ i : Nat, i ≤ 17 ∧ v = .int .i64 (i : Int) ∧ Blk wr w.heap.size 47 (a.map nv) ∧ Blk wr (w.heap.size + 1) 47 (b.map nv) ∧ Blk wr (w.heap.size + 2) 47 z17 ∧ Blk wr (w.heap.size + 3) 47 ((rowC a b i).map nv) ∧ Below w.heap.size w wr) (fun v _ _ _ => 17 - (intOf v).toNat)
  case atStart => exact ⟨0, by omega, rfl, H1.out.1, H1.out.2.1, H1.out.2.2.1, H1.out.2.2.2.1, H1.out.2.2.2.2⟩
  case round =>
    clear H1
    obtain ⟨i, hi, rfl, ha, hb, hz, hr, hbel⟩ := hrel
    have HH := Lib.hid (And.intro ha (And.intro hb (And.intro hz (And.intro hr hbel))))
    clear ha hb hz hr hbel
    by_cases hil : i < 17
    · have d17 : decide ((i : Int) < 17) = true := by simp; omega
      go_upto_region 7 with fail
      clear d17
      go_loopw [7, 8] (fun u v wr => ∃ n : Nat, n ≤ 17 ∧ v = .int .i64 (n : Int) ∧ u = .int .u32 (convI a b i n : Int) ∧ Blk wr w.heap.size 47 (a.map nv) ∧ Blk wr (w.heap.size + 1) 47 (b.map nv) ∧ Blk wr (w.heap.size + 2) 47 z17 ∧ Blk wr (w.heap.size + 3) 47 ((rowC a b i).map nv) ∧ Below w.heap.size w wr) (fun _ v _ => 17 - (intOf v).toNat)
      case atStart => exact ⟨0, by omega, rfl, rfl, HH.out.1, HH.out.2.1, HH.out.2.2.1, HH.out.2.2.2.1, HH.out.2.2.2.2⟩
      case round =>
        clear HH
        obtain ⟨n, hn, rfl, rfl, ha, hb, hz, hr, hbel⟩ := hrel
        have HH := Lib.hid (And.intro ha (And.intro hb (And.intro hz (And.intro hr hbel))))
        by_cases hln : n < 17
        · have dn : decide ((n : Int) < 17) = true := by simp; omega
          have fx := ha.dig n (by rw [HA.out.1]; omega)
          have hd := HA.out.2 n
          have hu := convI_le a b HA.out.2 HBB.out.2 i n
          by_cases hni : n ≤ i
          · have dl : decide ((n : Int) ≤ (i : Int)) = true := by simp; omega
            obtain ⟨t, ht⟩ : ∃ t, i - n = t := ⟨_, rfl⟩
            have hsb : (i : Int) - (n : Int) = (t : Int) := by omega
            have hsw : IntKind.i64.wrap ((i : Int) - (n : Int)) = (t : Int) := by rw [hsb]; exact IntWalk.i64_in _ (by omega)
            have bt : (t : Int) < 17 := by omega
            have fy := hb.dig t (by rw [HBB.out.1]; omega)
            have hg := HBB.out.2 t
            have hrot : rotB b n i = dg b t := by rw [rotB, if_pos hni, ht]
            have hmul := Nat.mul_le_mul hd hg
            obtain ⟨p, hp⟩ : ∃ p, dg a n * dg b t = p := ⟨_, rfl⟩
            obtain ⟨s, hs⟩ : ∃ s, convI a b i n + p = s := ⟨_, rfl⟩
            have HS := Lib.hid (show convI a b i n + dg a n * rotB b n i = s by rw [hrot, hp, hs])
            rw [hp] at hmul
            have hp1 : ((dg a n : Nat) : Int) * ((dg b t : Nat) : Int) = (p : Int) := by rw [← hp, Int.natCast_mul]
            have hp2 : (((dg a n : Nat) : Int) * ((dg b t : Nat) : Int)) % 4294967296 = (p : Int) := by rw [hp1]; omega
            have hs1 : (((convI a b i n : Nat) : Int) + (p : Int)) % 4294967296 = (s : Int) := by omega
            generalize convI a b i n = u at hu hs hs1 ⊢
            generalize dg a n = x at fx hd hp hp1 hp2
            generalize dg b t = y at fy hg hp hp1 hp2
            clear ha hb hz hr hbel hrot hp hs hu hd hg hmul ht hp1
            go_upto_region 10 with fail
            clear dn dl
            go_region
            (try simp only [hp2, hs1])
            clear fx fy hsb hsw bt hp2 hs1
            go_wp2_with fail
            go_roundw
            case rel => exact ⟨n + 1, by omega, by go_num, by rw [show convI a b i (n + 1) = convI a b i n + dg a n * rotB b n i from rfl, HS.out], HH.out.1.drew, HH.out.2.1.drew, HH.out.2.2.1.drew, HH.out.2.2.2.1.drew, HH.out.2.2.2.2.drew⟩
            case measure => simp [intOf]; omega
          · have dl : decide ((n : Int) ≤ (i : Int)) = false := by simp; omega
            obtain ⟨t, ht⟩ : ∃ t, i + 17 - n = t := ⟨_, rfl⟩
            have hsb : (i : Int) + 17 - (n : Int) = (t : Int) := by omega
            have hi17 : IntKind.i64.wrap ((i : Int) + 17) = (i : Int) + 17 := IntWalk.i64_in _ (by omega)
            have hsw : IntKind.i64.wrap ((i : Int) + 17 - (n : Int)) = (t : Int) := by rw [hsb]; exact IntWalk.i64_in _ (by omega)
            have bt : (t : Int) < 17 := by omega
            have fy := hb.dig t (by rw [HBB.out.1]; omega)
            have hg := HBB.out.2 t
            have hrot : rotB b n i = 320 * dg b t := by rw [rotB, if_neg hni, ht]
            obtain ⟨z, hzz⟩ : ∃ z, 320 * dg a n = z := ⟨_, rfl⟩
            have hmul := Nat.mul_le_mul (show z ≤ 81600 by omega) hg
            obtain ⟨p, hp⟩ : ∃ p, z * dg b t = p := ⟨_, rfl⟩
            obtain ⟨s, hs⟩ : ∃ s, convI a b i n + p = s := ⟨_, rfl⟩
            have HS := Lib.hid (show convI a b i n + dg a n * rotB b n i = s by rw [hrot, ← hs, ← hp, ← hzz, ← Nat.mul_assoc, Nat.mul_comm (dg a n) 320])
            rw [hp] at hmul
            have hz1 : (320 * ((dg a n : Nat) : Int)) % 4294967296 = (z : Int) := by omega
            have hp1 : (z : Int) * ((dg b t : Nat) : Int) = (p : Int) := by rw [← hp, Int.natCast_mul]
            have hp2 : ((z : Int) * ((dg b t : Nat) : Int)) % 4294967296 = (p : Int) := by rw [hp1]; omega
            have hs1 : (((convI a b i n : Nat) : Int) + (p : Int)) % 4294967296 = (s : Int) := by omega
            generalize convI a b i n = u at hu hs hs1 ⊢
            generalize dg a n = x at fx hd hzz hz1
            generalize dg b t = y at fy hg hp hp1 hp2
            clear ha hb hz hr hbel hrot hp hs hu hd hg hmul ht hp1 hzz
            go_upto_region 11 with fail
            clear dn dl
            go_region
            (try simp only [hz1, hp2, hs1])
            clear fx fy hsb hsw bt hp2 hs1 hz1 hi17
            go_wp2_with fail
            go_roundw
            case rel => exact ⟨n + 1, by omega, by go_num, by rw [show convI a b i (n + 1) = convI a b i n + dg a n * rotB b n i from rfl, HS.out], HH.out.1.drew, HH.out.2.1.drew, HH.out.2.2.1.drew, HH.out.2.2.2.1.drew, HH.out.2.2.2.2.drew⟩
            case measure => simp [intOf]; omega
        · obtain rfl : n = 17 := by omega
          have hrl := rowC_length a b i (by omega)
          have fx := hr.dig i (by omega)
          have zx := hr.frozen i
          have HB := Lib.hid (show Blk (wr.setCell ⟨w.heap.size + 3, i, none⟩ (.int .u32 ((convI a b i 17 : Nat) : Int))) w.heap.size 47 (a.map nv) ∧ Blk (wr.setCell ⟨w.heap.size + 3, i, none⟩ (.int .u32 ((convI a b i 17 : Nat) : Int))) (w.heap.size + 1) 47 (b.map nv) ∧ Blk (wr.setCell ⟨w.heap.size + 3, i, none⟩ (.int .u32 ((convI a b i 17 : Nat) : Int))) (w.heap.size + 2) 47 z17 ∧ Blk (wr.setCell ⟨w.heap.size + 3, i, none⟩ (.int .u32 ((convI a b i 17 : Nat) : Int))) (w.heap.size + 3) 47 ((rowC a b (i + 1)).map nv) ∧ Below w.heap.size w (wr.setCell ⟨w.heap.size + 3, i, none⟩ (.int .u32 ((convI a b i 17 : Nat) : Int))) from ⟨ha.far (by simp) _, hb.far (by simp) _, hz.far (by simp) _, by rw [← rowC_set a b i hil]; exact hr.setDig i _, hbel.setCell (by dsimp only; omega) _⟩)
          clear ha hb hz hr hbel HH hrl
          generalize convI a b i 17 = u at HB ⊢
          rw [show ((17 : Nat) : Int) = 17 from rfl]
          go_wp2_with fail
          go_roundw
          case rel => exact ⟨i + 1, by omega, by go_num, HB.out.1, HB.out.2.1, HB.out.2.2.1, HB.out.2.2.2.1, HB.out.2.2.2.2⟩
          case measure => simp [intOf]; omega
    · obtain rfl : i = 17 := by omega
      have hr := HH.out.2.2.2.1
      rw [rowC_end] at hr
      have RC := reduced_any (convN a b) (convN_fits a b HA.out.2 HBB.out.2)
      have HCL := Lib.hid (convN_length a b)
      obtain ⟨lc, hlc⟩ : ∃ lc, convN a b = lc := ⟨_, rfl⟩
      obtain ⟨lz, hlz⟩ : ∃ lz, timesN a b = lz := ⟨_, rfl⟩
      rw [show redN (convN a b) = lz from hlz] at RC
      rw [hlc] at hr RC HCL
      have HLz := Lib.hid (show lz.length = 17 by rw [← hlz, timesN, redN_length, convN_length])
      have HZ := Lib.hid hlz
      obtain ⟨cc, hcc⟩ : ∃ cc, (lc.map nv).toArray = cc := ⟨_, rfl⟩
      obtain ⟨cz, hcz⟩ : ∃ cz, (lz.map nv).toArray = cz := ⟨_, rfl⟩
      rw [hcc, hcz] at RC
      have HCC := Lib.hid hcc
      have HCZ := Lib.hid hcz
      have HRC := Lib.hid RC
      have HB := Lib.hid (And.intro hr (And.intro HH.out.2.2.1 HH.out.2.2.2.2))
      clear hr hcc hcz RC hlz hlc HH
      rw [show ((17 : Nat) : Int) = 17 from rfl]
      go_wp2_with (refine wpList_load_blk rfl 47 (.tmp 5) rfl (w.heap.size + 3) rfl 47 (lc.map nv) HB.out.1 17 45 Try.underlying47 (cells17 lc HCL.out) ?_; rw [HCC.out])
      refine (HRC.out _).mono ?_
      rintro e w4 ⟨rfl, hb4⟩
      have HB4 := Lib.hid (And.intro (HB.out.2.1.below hb4 HB.out.2.1.lt) (HB.out.2.2.trans (hb4.mono HB.out.2.2.size)))
      clear hb4 HB
      go_wp2_with (refine wpList_store_blk rfl 47 (.tmp 4) (.tmp 48) rfl (w.heap.size + 2) (lz.map nv) rfl (by rw [HCZ.out]; rfl) 47 z17 HB4.out.1 (cells17 lz HLz.out) (by rw [List.length_map, HLz.out]; rfl) (nv_one _) ?_; intro w9 hb9 hg9)
      exact bodyPost_ret (results_blk rfl _ _ (w.heap.size + 2) 47 (lz.map nv) 17 45 rfl hb9 Try.underlying47 (cells17 lz HLz.out)) rfl ⟨by rw [HZ.out], below_blk HB4.out.2 hg9 (by omega)⟩
end Go.Proofs.Ythjhohmmdnjpkaa
