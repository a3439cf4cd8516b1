/-
  The contract of the reference's plus. The contracts of the reference's times and least. The contract of the reference's least. No statement is proved here.
-/
import Derived.Test.YtkbefhmgcodpaaaPoRef
namespace Go.Proofs.Ytkbefhmgcodpaaa
open Go.RowKit

set_option maxRecDepth 100000 in
set_option maxHeartbeats 2000000 in
theorem plus_any (a b : List Nat) (ha : a.length = 17 ∧ ∀ i, dg a i ≤ 255) (hb : b.length = 17 ∧ ∀ i, dg b i ≤ 255) (w : World) :
    Calls Try.prog 47 #[.agg (a.map nv).toArray, .agg (b.map nv).toArray] w fun e w' => e = .returned (.agg ((plusN a b).map nv).toArray) ∧ Below w.heap.size w w' := by
  obtain ⟨ca, hca⟩ : ∃ ca, (a.map nv).toArray = ca := ⟨_, rfl⟩
  obtain ⟨cb, hcb⟩ : ∃ cb, (b.map nv).toArray = cb := ⟨_, rfl⟩
  rw [hca, hcb]
  have HB0 := Lib.hid (show Blk (w.alloc (.cells ca 71)) w.heap.size 71 (a.map nv) by rw [← hca]; exact Blk.new w _ _)
  have HB1 := Lib.hid (show Blk ((w.alloc (.cells ca 71)).alloc (.cells cb 71)) (w.heap.size + 1) 71 (b.map nv) by rw [← hcb]; exact Blk.new' _ (by simp) _ _)
  have HA := Lib.hid ha
  have HBB := Lib.hid hb
  clear ha hb
  go_enter Try.func47, Try.ntmps47
  go_upto_region 1 with fail
  have h1 := (HB0.out.alloc (.cells cb 71)).alloc (.cells z17.toArray 71)
  have h2 := HB1.out.alloc (.cells z17.toArray 71)
  have h3 : Blk (((w.alloc (.cells ca 71)).alloc (.cells cb 71)).alloc (.cells z17.toArray 71)) (w.heap.size + 2) 71 z17 := Blk.new' _ (by simp) _ _
  have h4 : Below w.heap.size w (((w.alloc (.cells ca 71)).alloc (.cells cb 71)).alloc (.cells z17.toArray 71)) := (((Below.refl _ _).alloc (Nat.le_refl _) _).alloc (by simp) _).alloc (by simp; omega) _
  rw [z17_arr] at h1 h2 h3 h4
  clear HB0 HB1 hca hcb
  generalize (((w.alloc (.cells ca 71)).alloc (.cells cb 71)).alloc (.cells #[.int .u32 0, .int .u32 0, .int .u32 0, .int .u32 0, .int .u32 0, .int .u32 0, .int .u32 0, .int .u32 0, .int .u32 0, .int .u32 0, .int .u32 0, .int .u32 0, .int .u32 0, .int .u32 0, .int .u32 0, .int .u32 0, .int .u32 0] 71)) = w1 at h1 h2 h3 h4 ⊢
  rw [show w.heap.size + 1 + 1 = w.heap.size + 2 from rfl]
  have H1 := Lib.hid (And.intro h1 (And.intro h2 (And.intro h3 h4)))
  clear h1 h2 h3 h4
  go_wp2_with fail
  go_loopw [5, 7, 6] (fun u i _ wr => ∃ n : Nat, n ≤ 17 ∧ i = .int .i64 (n : Int) ∧ u = .int .u32 ((plusP a b n).2 : Int) ∧ Blk wr w.heap.size 71 ((plusP a b n).1.map nv) ∧ Blk wr (w.heap.size + 1) 71 (b.map nv) ∧ Blk wr (w.heap.size + 2) 71 z17 ∧ Below w.heap.size w wr) (fun _ i _ _ => 17 - (intOf i).toNat)
  case atStart => exact ⟨0, by omega, rfl, rfl, H1.out.1, H1.out.2.1, H1.out.2.2.1, H1.out.2.2.2⟩
  case round =>
    clear H1
    obtain ⟨n, hn, rfl, rfl, hblk, hbb, hz, hbel⟩ := hrel
    by_cases hln : n < 17
    · have d17 : decide ((n : Int) < 17) = true := by simp; omega
      have hlen : (plusP a b n).1.length = 17 := by rw [plusP_length]; exact HA.out.1
      have fx := hblk.dig n (by omega)
      have fy := hbb.dig n (by rw [HBB.out.1]; omega)
      have zx := hblk.frozen n
      have hu := plusP_carry a b HA.out.2 HBB.out.2 n (by rw [HA.out.1]; omega)
      have hd : dg (plusP a b n).1 n ≤ 255 := by rw [plusP_above a b n n (Nat.le_refl _) (by rw [HA.out.1]; omega)]; exact HA.out.2 n
      have hg := HBB.out.2 n
      have hnx : plusP a b (n + 1) = ((plusP a b n).1.set n (((plusP a b n).2 + (dg (plusP a b n).1 n + dg b n)) % 256), ((plusP a b n).2 + (dg (plusP a b n).1 n + dg b n)) / 256) := rfl
      generalize (plusP a b n).2 = u at hu hnx ⊢
      generalize hdd : dg (plusP a b n).1 n = d at fx hd hnx
      generalize dg b n = g at fy hg hnx
      have HNX := Lib.hid hnx
      have HB := Lib.hid (And.intro hblk (And.intro hbb (And.intro hz hbel)))
      clear hnx hblk hbb hz hbel hdd hlen
      obtain ⟨x, hx⟩ : ∃ x, d + g = x := ⟨_, rfl⟩
      obtain ⟨s, hs⟩ : ∃ s, u + x = s := ⟨_, rfl⟩
      have hx1 : ((d : Int) + (g : Int)) % 4294967296 = (x : Int) := by omega
      have hs1 : ((u : Int) + (x : Int)) % 4294967296 = (s : Int) := by omega
      obtain ⟨m, hmm⟩ : ∃ m, s % 256 = m := ⟨_, rfl⟩
      obtain ⟨q, hqq⟩ : ∃ q, s / 256 = q := ⟨_, rfl⟩
      have HS := Lib.hid (And.intro hx (And.intro hs (And.intro hmm hqq)))
      have hm : bits BinOp.and IntKind.u32 (s : Int) 255 = (m : Int) := by rw [← hmm]; exact and_mask s 8 (by omega) (by omega)
      have hq : (s : Int) / 256 = (q : Int) := by omega
      clear hs hmm hqq hu hd hg hx
      go_upto_region 5 with fail
      go_region
      (try simp only [hx1, hs1])
      go_wp2_with fail
      go_roundw
      case rel =>
        refine ⟨n + 1, by omega, by go_num, ?_, ?_, ?_, ?_, ?_⟩
        · rw [HNX.out, HS.out.1, HS.out.2.1, HS.out.2.2.2]
        · rw [HNX.out, HS.out.1, HS.out.2.1, HS.out.2.2.1]
          exact HB.out.1.drew.setDig n m
        · exact HB.out.2.1.drew.far (by simp) _
        · exact HB.out.2.2.1.drew.far (by simp) _
        · exact HB.out.2.2.2.drew.setCell (by dsimp only; omega) _
      case measure => simp [intOf]; omega
    · obtain rfl : n = 17 := by omega
      obtain ⟨lz, hlz⟩ : ∃ lz, plusN a b = lz := ⟨_, rfl⟩
      have HLz := Lib.hid (show lz.length = 17 by rw [← hlz, plusN_length]; exact HA.out.1)
      rw [show (plusP a b 17).1 = lz from hlz] at hblk
      have HZ := Lib.hid hlz
      have HB := Lib.hid (And.intro hblk (And.intro hz hbel))
      obtain ⟨cz, hcz⟩ : ∃ cz, (lz.map nv).toArray = cz := ⟨_, rfl⟩
      have HCZ := Lib.hid hcz
      clear hblk hz hbel hcz hlz hbb
      rw [show ((17 : Nat) : Int) = 17 from rfl]
      go_wp2_with (first | (refine wpList_load_blk rfl 71 (.tmp 2) rfl w.heap.size rfl 71 (lz.map nv) HB.out.1 17 43 Try.underlying71 (cells17 lz HLz.out) ?_; rw [HCZ.out]) | (refine wpList_store_blk rfl 71 (.tmp 4) (.tmp 26) rfl (w.heap.size + 2) (lz.map nv) rfl (by show Value.agg cz = _; rw [HCZ.out]) 71 z17 HB.out.2.1 (cells17 lz HLz.out) (by rw [List.length_map, HLz.out]; rfl) (nv_one _) ?_; intro w9 hb9 hg9))
      exact bodyPost_ret (results_blk rfl _ _ (w.heap.size + 2) 71 (lz.map nv) 17 43 rfl hb9 Try.underlying71 (cells17 lz HLz.out)) rfl ⟨by rw [HZ.out], below_blk HB.out.2.2 hg9 (by omega)⟩

/-- the first i digits of the product, then zeros -/
def rowC (a b : List Nat) (i : Nat) : List Nat := ((List.range i).map fun i => convI a b i 17) ++ List.replicate (17 - i) 0
theorem rowC_length (a b : List Nat) (i : Nat) (h : i ≤ 17) : (rowC a b i).length = 17 := by simp [rowC]; omega
theorem rowC_set (a b : List Nat) (i : Nat) (h : i < 17) : (rowC a b i).set i (convI a b i 17) = rowC a b (i + 1) := by
  unfold rowC
  rw [List.set_append_right _ _ (by simp), List.length_map, List.length_range, Nat.sub_self, show 17 - i = (17 - (i + 1)) + 1 by omega, List.replicate_succ, List.set_cons_zero, List.range_succ, List.map_append, List.append_assoc]
  rfl
theorem rowC_end (a b : List Nat) : rowC a b 17 = convN a b := by simp [rowC, convN]

set_option maxRecDepth 100000 in
set_option maxHeartbeats 2000000 in
theorem times_any (a b : List Nat) (ha : a.length = 17 ∧ ∀ i, dg a i ≤ 255) (hb : b.length = 17 ∧ ∀ i, dg b i ≤ 255) (w : World) :
    Calls Try.prog 46 #[.agg (a.map nv).toArray, .agg (b.map nv).toArray] w fun e w' => e = .returned (.agg ((timesN a b).map nv).toArray) ∧ Below w.heap.size w w' := by
  obtain ⟨ca, hca⟩ : ∃ ca, (a.map nv).toArray = ca := ⟨_, rfl⟩
  obtain ⟨cb, hcb⟩ : ∃ cb, (b.map nv).toArray = cb := ⟨_, rfl⟩
  rw [hca, hcb]
  have HB0 := Lib.hid (show Blk (w.alloc (.cells ca 71)) w.heap.size 71 (a.map nv) by rw [← hca]; exact Blk.new w _ _)
  have HB1 := Lib.hid (show Blk ((w.alloc (.cells ca 71)).alloc (.cells cb 71)) (w.heap.size + 1) 71 (b.map nv) by rw [← hcb]; exact Blk.new' _ (by simp) _ _)
  have HA := Lib.hid ha
  have HBB := Lib.hid hb
  clear ha hb
  go_enter Try.func46, Try.ntmps46
  go_upto_region 2 with fail
  have h1 := ((HB0.out.alloc (.cells cb 71)).alloc (.cells z17.toArray 71)).alloc (.cells z17.toArray 71)
  have h2 := (HB1.out.alloc (.cells z17.toArray 71)).alloc (.cells z17.toArray 71)
  have h3 : Blk ((((w.alloc (.cells ca 71)).alloc (.cells cb 71)).alloc (.cells z17.toArray 71)).alloc (.cells z17.toArray 71)) (w.heap.size + 2) 71 z17 := (Blk.new' ((w.alloc (.cells ca 71)).alloc (.cells cb 71)) (by simp) 71 z17).alloc _
  have h5 : Blk ((((w.alloc (.cells ca 71)).alloc (.cells cb 71)).alloc (.cells z17.toArray 71)).alloc (.cells z17.toArray 71)) (w.heap.size + 3) 71 z17 := Blk.new' _ (by simp) _ _
  have h4 : Below w.heap.size w ((((w.alloc (.cells ca 71)).alloc (.cells cb 71)).alloc (.cells z17.toArray 71)).alloc (.cells z17.toArray 71)) := ((((Below.refl _ _).alloc (Nat.le_refl _) _).alloc (by simp) _).alloc (by simp; omega) _).alloc (by simp; omega) _
  rw [z17_arr] at h1 h2 h3 h4 h5
  clear HB0 HB1 hca hcb
  generalize ((((w.alloc (.cells ca 71)).alloc (.cells cb 71)).alloc (.cells #[.int .u32 0, .int .u32 0, .int .u32 0, .int .u32 0, .int .u32 0, .int .u32 0, .int .u32 0, .int .u32 0, .int .u32 0, .int .u32 0, .int .u32 0, .int .u32 0, .int .u32 0, .int .u32 0, .int .u32 0, .int .u32 0, .int .u32 0] 71)).alloc (.cells #[.int .u32 0, .int .u32 0, .int .u32 0, .int .u32 0, .int .u32 0, .int .u32 0, .int .u32 0, .int .u32 0, .int .u32 0, .int .u32 0, .int .u32 0, .int .u32 0, .int .u32 0, .int .u32 0, .int .u32 0, .int .u32 0, .int .u32 0] 71)) = w1 at h1 h2 h3 h4 h5 ⊢
  rw [show w.heap.size + 1 + 1 = w.heap.size + 2 from rfl, show w.heap.size + 2 + 1 = w.heap.size + 3 from rfl]
  have H1 := Lib.hid (And.intro h1 (And.intro h2 (And.intro h3 (And.intro h5 h4))))
  clear h1 h2 h3 h4 h5
  go_wp2_with fail
  go_loopw [6, 7, 8] (fun v _ _ wr => ∃ i : Nat, i ≤ 17 ∧ v = .int .i64 (i : Int) ∧ Blk wr w.heap.size 71 (a.map nv) ∧ Blk wr (w.heap.size + 1) 71 (b.map nv) ∧ Blk wr (w.heap.size + 2) 71 z17 ∧ Blk wr (w.heap.size + 3) 71 ((rowC a b i).map nv) ∧ Below w.heap.size w wr) (fun v _ _ _ => 17 - (intOf v).toNat)
  case atStart => exact ⟨0, by omega, rfl, H1.out.1, H1.out.2.1, H1.out.2.2.1, H1.out.2.2.2.1, H1.out.2.2.2.2⟩
  case round =>
    clear H1
    obtain ⟨i, hi, rfl, ha, hb, hz, hr, hbel⟩ := hrel
    have HH := Lib.hid (And.intro ha (And.intro hb (And.intro hz (And.intro hr hbel))))
    clear ha hb hz hr hbel
    by_cases hil : i < 17
    · have d17 : decide ((i : Int) < 17) = true := by simp; omega
      go_upto_region 7 with fail
      clear d17
      go_loopw [7, 8] (fun u v wr => ∃ n : Nat, n ≤ 17 ∧ v = .int .i64 (n : Int) ∧ u = .int .u32 (convI a b i n : Int) ∧ Blk wr w.heap.size 71 (a.map nv) ∧ Blk wr (w.heap.size + 1) 71 (b.map nv) ∧ Blk wr (w.heap.size + 2) 71 z17 ∧ Blk wr (w.heap.size + 3) 71 ((rowC a b i).map nv) ∧ Below w.heap.size w wr) (fun _ v _ => 17 - (intOf v).toNat)
      case atStart => exact ⟨0, by omega, rfl, rfl, HH.out.1, HH.out.2.1, HH.out.2.2.1, HH.out.2.2.2.1, HH.out.2.2.2.2⟩
      case round =>
        clear HH
        obtain ⟨n, hn, rfl, rfl, ha, hb, hz, hr, hbel⟩ := hrel
        have HH := Lib.hid (And.intro ha (And.intro hb (And.intro hz (And.intro hr hbel))))
        by_cases hln : n < 17
        · have dn : decide ((n : Int) < 17) = true := by simp; omega
          have fx := ha.dig n (by rw [HA.out.1]; omega)
          have hd := HA.out.2 n
          have hu := convI_le a b HA.out.2 HBB.out.2 i n
          by_cases hni : n ≤ i
          · have dl : decide ((n : Int) ≤ (i : Int)) = true := by simp; omega
            obtain ⟨t, ht⟩ : ∃ t, i - n = t := ⟨_, rfl⟩
            have hsb : (i : Int) - (n : Int) = (t : Int) := by omega
            have hsw : IntKind.i64.wrap ((i : Int) - (n : Int)) = (t : Int) := by rw [hsb]; exact IntWalk.i64_in _ (by omega)
            have bt : (t : Int) < 17 := by omega
            have fy := hb.dig t (by rw [HBB.out.1]; omega)
            have hg := HBB.out.2 t
            have hrot : rotB b n i = dg b t := by rw [rotB, if_pos hni, ht]
            have hmul := Nat.mul_le_mul hd hg
            obtain ⟨p, hp⟩ : ∃ p, dg a n * dg b t = p := ⟨_, rfl⟩
            obtain ⟨s, hs⟩ : ∃ s, convI a b i n + p = s := ⟨_, rfl⟩
            have HS := Lib.hid (show convI a b i n + dg a n * rotB b n i = s by rw [hrot, hp, hs])
            rw [hp] at hmul
            have hp1 : ((dg a n : Nat) : Int) * ((dg b t : Nat) : Int) = (p : Int) := by rw [← hp, Int.natCast_mul]
            have hp2 : (((dg a n : Nat) : Int) * ((dg b t : Nat) : Int)) % 4294967296 = (p : Int) := by rw [hp1]; omega
            have hs1 : (((convI a b i n : Nat) : Int) + (p : Int)) % 4294967296 = (s : Int) := by omega
            generalize convI a b i n = u at hu hs hs1 ⊢
            generalize dg a n = x at fx hd hp hp1 hp2
            generalize dg b t = y at fy hg hp hp1 hp2
            clear ha hb hz hr hbel hrot hp hs hu hd hg hmul ht hp1
            go_upto_region 10 with fail
            clear dn dl
            go_region
            (try simp only [hp2, hs1])
            clear fx fy hsb hsw bt hp2 hs1
            go_wp2_with fail
            go_roundw
            case rel => exact ⟨n + 1, by omega, by go_num, by rw [show convI a b i (n + 1) = convI a b i n + dg a n * rotB b n i from rfl, HS.out], HH.out.1.drew, HH.out.2.1.drew, HH.out.2.2.1.drew, HH.out.2.2.2.1.drew, HH.out.2.2.2.2.drew⟩
            case measure => simp [intOf]; omega
          · have dl : decide ((n : Int) ≤ (i : Int)) = false := by simp; omega
            obtain ⟨t, ht⟩ : ∃ t, i + 17 - n = t := ⟨_, rfl⟩
            have hsb : (i : Int) + 17 - (n : Int) = (t : Int) := by omega
            have hi17 : IntKind.i64.wrap ((i : Int) + 17) = (i : Int) + 17 := IntWalk.i64_in _ (by omega)
            have hsw : IntKind.i64.wrap ((i : Int) + 17 - (n : Int)) = (t : Int) := by rw [hsb]; exact IntWalk.i64_in _ (by omega)
            have bt : (t : Int) < 17 := by omega
            have fy := hb.dig t (by rw [HBB.out.1]; omega)
            have hg := HBB.out.2 t
            have hrot : rotB b n i = 320 * dg b t := by rw [rotB, if_neg hni, ht]
            obtain ⟨z, hzz⟩ : ∃ z, 320 * dg a n = z := ⟨_, rfl⟩
            have hmul := Nat.mul_le_mul (show z ≤ 81600 by omega) hg
            obtain ⟨p, hp⟩ : ∃ p, z * dg b t = p := ⟨_, rfl⟩
            obtain ⟨s, hs⟩ : ∃ s, convI a b i n + p = s := ⟨_, rfl⟩
            have HS := Lib.hid (show convI a b i n + dg a n * rotB b n i = s by rw [hrot, ← hs, ← hp, ← hzz, ← Nat.mul_assoc, Nat.mul_comm (dg a n) 320])
            rw [hp] at hmul
            have hz1 : (320 * ((dg a n : Nat) : Int)) % 4294967296 = (z : Int) := by omega
            have hp1 : (z : Int) * ((dg b t : Nat) : Int) = (p : Int) := by rw [← hp, Int.natCast_mul]
            have hp2 : ((z : Int) * ((dg b t : Nat) : Int)) % 4294967296 = (p : Int) := by rw [hp1]; omega
            have hs1 : (((convI a b i n : Nat) : Int) + (p : Int)) % 4294967296 = (s : Int) := by omega
            generalize convI a b i n = u at hu hs hs1 ⊢
            generalize dg a n = x at fx hd hzz hz1
            generalize dg b t = y at fy hg hp hp1 hp2
            clear ha hb hz hr hbel hrot hp hs hu hd hg hmul ht hp1 hzz
            go_upto_region 11 with fail
            clear dn dl
            go_region
            (try simp only [hz1, hp2, hs1])
            clear fx fy hsb hsw bt hp2 hs1 hz1 hi17
            go_wp2_with fail
            go_roundw
            case rel => exact ⟨n + 1, by omega, by go_num, by rw [show convI a b i (n + 1) = convI a b i n + dg a n * rotB b n i from rfl, HS.out], HH.out.1.drew, HH.out.2.1.drew, HH.out.2.2.1.drew, HH.out.2.2.2.1.drew, HH.out.2.2.2.2.drew⟩
            case measure => simp [intOf]; omega
        · obtain rfl : n = 17 := by omega
          have hrl := rowC_length a b i (by omega)
          have fx := hr.dig i (by omega)
          have zx := hr.frozen i
          have HB := Lib.hid (show Blk (wr.setCell ⟨w.heap.size + 3, i, none⟩ (.int .u32 ((convI a b i 17 : Nat) : Int))) w.heap.size 71 (a.map nv) ∧ Blk (wr.setCell ⟨w.heap.size + 3, i, none⟩ (.int .u32 ((convI a b i 17 : Nat) : Int))) (w.heap.size + 1) 71 (b.map nv) ∧ Blk (wr.setCell ⟨w.heap.size + 3, i, none⟩ (.int .u32 ((convI a b i 17 : Nat) : Int))) (w.heap.size + 2) 71 z17 ∧ Blk (wr.setCell ⟨w.heap.size + 3, i, none⟩ (.int .u32 ((convI a b i 17 : Nat) : Int))) (w.heap.size + 3) 71 ((rowC a b (i + 1)).map nv) ∧ Below w.heap.size w (wr.setCell ⟨w.heap.size + 3, i, none⟩ (.int .u32 ((convI a b i 17 : Nat) : Int))) from ⟨ha.far (by simp) _, hb.far (by simp) _, hz.far (by simp) _, by rw [← rowC_set a b i hil]; exact hr.setDig i _, hbel.setCell (by dsimp only; omega) _⟩)
          clear ha hb hz hr hbel HH hrl
          generalize convI a b i 17 = u at HB ⊢
          rw [show ((17 : Nat) : Int) = 17 from rfl]
          go_wp2_with fail
          go_roundw
          case rel => exact ⟨i + 1, by omega, by go_num, HB.out.1, HB.out.2.1, HB.out.2.2.1, HB.out.2.2.2.1, HB.out.2.2.2.2⟩
          case measure => simp [intOf]; omega
    · obtain rfl : i = 17 := by omega
      have hr := HH.out.2.2.2.1
      rw [rowC_end] at hr
      have RC := reduced_any (convN a b) (convN_fits a b HA.out.2 HBB.out.2)
      have HCL := Lib.hid (convN_length a b)
      obtain ⟨lc, hlc⟩ : ∃ lc, convN a b = lc := ⟨_, rfl⟩
      obtain ⟨lz, hlz⟩ : ∃ lz, timesN a b = lz := ⟨_, rfl⟩
      rw [show redN (convN a b) = lz from hlz] at RC
      rw [hlc] at hr RC HCL
      have HLz := Lib.hid (show lz.length = 17 by rw [← hlz, timesN, redN_length, convN_length])
      have HZ := Lib.hid hlz
      obtain ⟨cc, hcc⟩ : ∃ cc, (lc.map nv).toArray = cc := ⟨_, rfl⟩
      obtain ⟨cz, hcz⟩ : ∃ cz, (lz.map nv).toArray = cz := ⟨_, rfl⟩
      rw [hcc, hcz] at RC
      have HCC := Lib.hid hcc
      have HCZ := Lib.hid hcz
      have HRC := Lib.hid RC
      have HB := Lib.hid (And.intro hr (And.intro HH.out.2.2.1 HH.out.2.2.2.2))
      clear hr hcc hcz RC hlz hlc HH
      rw [show ((17 : Nat) : Int) = 17 from rfl]
      go_wp2_with (refine wpList_load_blk rfl 71 (.tmp 5) rfl (w.heap.size + 3) rfl 71 (lc.map nv) HB.out.1 17 43 Try.underlying71 (cells17 lc HCL.out) ?_; rw [HCC.out])
      refine (HRC.out _).mono ?_
      rintro e w4 ⟨rfl, hb4⟩
      have HB4 := Lib.hid (And.intro (HB.out.2.1.below hb4 HB.out.2.1.lt) (HB.out.2.2.trans (hb4.mono HB.out.2.2.size)))
      clear hb4 HB
      go_wp2_with (refine wpList_store_blk rfl 71 (.tmp 4) (.tmp 48) rfl (w.heap.size + 2) (lz.map nv) rfl (by rw [HCZ.out]; rfl) 71 z17 HB4.out.1 (cells17 lz HLz.out) (by rw [List.length_map, HLz.out]; rfl) (nv_one _) ?_; intro w9 hb9 hg9)
      exact bodyPost_ret (results_blk rfl _ _ (w.heap.size + 2) 71 (lz.map nv) 17 43 rfl hb9 Try.underlying71 (cells17 lz HLz.out)) rfl ⟨by rw [HZ.out], below_blk HB4.out.2 hg9 (by omega)⟩

theorem minus_map : (minusN.map nv).toArray = #[.int .u32 5, .int .u32 0, .int .u32 0, .int .u32 0, .int .u32 0, .int .u32 0, .int .u32 0, .int .u32 0, .int .u32 0, .int .u32 0, .int .u32 0, .int .u32 0, .int .u32 0, .int .u32 0, .int .u32 0, .int .u32 0, .int .u32 252] := rfl
theorem minus_le : minusN.length = 17 ∧ ∀ i, dg minusN i ≤ 255 := ⟨rfl, fun i => by
  by_cases h : i < 17
  · have : ∀ j : Fin 17, dg minusN j.val ≤ 255 := by decide
    exact this ⟨i, h⟩
  · rw [dg_high minusN i (by simp [minusN]; omega)]; omega⟩

set_option maxRecDepth 100000 in
set_option maxHeartbeats 2000000 in
theorem least_any (l : List Nat) (hf : fits l) (w : World) :
    Calls Try.prog 48 #[.agg (l.map nv).toArray] w fun e w' => e = .returned (.agg ((leastN l).map nv).toArray) ∧ Below w.heap.size w w' := by
  have RC := reduced_any l hf
  have ht := redN_tidy hf
  obtain ⟨r, hr⟩ : ∃ r, redN l = r := ⟨_, rfl⟩
  have hL : leastN l = if dg (lessN r) 16 &&& 128 = 0 then (lessN r).set 16 (dg (lessN r) 16 &&& 3) else r := by rw [← hr]; rfl
  rw [hr] at RC ht
  have PC := plus_any r minusN ⟨ht.1, tidy_le ht (by omega)⟩ minus_le
  have hgl : (lessN r).length = 17 := by rw [lessN, plusN_length]; exact ht.1
  have h255 := plusN_digits r minusN ht.1 16
  rw [show plusN r minusN = lessN r from rfl] at PC h255
  obtain ⟨g, hg⟩ : ∃ g, lessN r = g := ⟨_, rfl⟩
  rw [hg] at PC hgl h255 hL
  obtain ⟨cl, hcl⟩ : ∃ cl, (l.map nv).toArray = cl := ⟨_, rfl⟩
  obtain ⟨cr, hcr⟩ : ∃ cr, (r.map nv).toArray = cr := ⟨_, rfl⟩
  obtain ⟨cm, hcm⟩ : ∃ cm, (minusN.map nv).toArray = cm := ⟨_, rfl⟩
  obtain ⟨cg, hcg⟩ : ∃ cg, (g.map nv).toArray = cg := ⟨_, rfl⟩
  rw [hcl, hcr] at RC
  rw [hcr, hcm, hcg] at PC
  rw [hcl]
  have HB0 := Lib.hid (show Blk (w.alloc (.cells cl 71)) w.heap.size 71 (l.map nv) by rw [← hcl]; exact Blk.new w _ _)
  have HRL := Lib.hid ht.1
  have HGL := Lib.hid hgl
  have HLL := Lib.hid hf.1
  have HL := Lib.hid hL
  have HRC := Lib.hid RC
  have HPC := Lib.hid PC
  have HCR := Lib.hid hcr
  have HCL := Lib.hid hcl
  have HCM := Lib.hid hcm
  have HCG := Lib.hid hcg
  have HMM := Lib.hid minus_map
  clear hf RC ht hr hL PC hgl hg hcl hcr hcm hcg
  go_enter Try.func48, Try.ntmps48
  go_upto_region 1 with fail
  have h1 := HB0.out.alloc (.cells z17.toArray 71)
  have h2 : Blk ((w.alloc (.cells cl 71)).alloc (.cells z17.toArray 71)) (w.heap.size + 1) 71 z17 := Blk.new' _ (by simp) _ _
  have h3 : Below w.heap.size w ((w.alloc (.cells cl 71)).alloc (.cells z17.toArray 71)) := ((Below.refl _ _).alloc (Nat.le_refl _) _).alloc (by simp) _
  have h4 : ((w.alloc (.cells cl 71)).alloc (.cells z17.toArray 71)).heap.size = w.heap.size + 2 := by simp
  rw [z17_arr] at h1 h2 h3 h4
  clear HB0
  generalize ((w.alloc (.cells cl 71)).alloc (.cells #[.int .u32 0, .int .u32 0, .int .u32 0, .int .u32 0, .int .u32 0, .int .u32 0, .int .u32 0, .int .u32 0, .int .u32 0, .int .u32 0, .int .u32 0, .int .u32 0, .int .u32 0, .int .u32 0, .int .u32 0, .int .u32 0, .int .u32 0] 71)) = w1 at h1 h2 h3 h4 ⊢
  have H1 := Lib.hid (And.intro h1 (And.intro h2 (And.intro h3 (Nat.le_of_eq h4.symm))))
  clear h1 h2 h3 h4
  go_wp2_with (refine wpList_load_blk rfl 71 (.tmp 1) rfl w.heap.size rfl 71 (l.map nv) H1.out.1 17 43 Try.underlying71 (cells17 l HLL.out) ?_; rw [HCL.out])
  refine (HRC.out _).mono ?_
  rintro e w2 ⟨rfl, hb2⟩
  have H2 := Lib.hid (And.intro (H1.out.1.below hb2 H1.out.1.lt) (And.intro (H1.out.2.1.below hb2 H1.out.2.1.lt) (And.intro (H1.out.2.2.1.trans (hb2.mono H1.out.2.2.1.size)) (Nat.le_trans H1.out.2.2.2 hb2.size))))
  clear H1 hb2
  go_upto_region 2 with (refine wpList_store_blk rfl 71 (.tmp 1) (.tmp 6) rfl w.heap.size (r.map nv) rfl (by rw [HCR.out]; rfl) 71 (l.map nv) H2.out.1 (cells17 r HRL.out) (by rw [List.length_map, List.length_map, HLL.out, HRL.out]) (nv_one _) ?_; intro w3 hb3 hg3)
  simp only [Act.put]
  have H3 := Lib.hid (And.intro hb3 (And.intro (H2.out.2.1.grown hg3 (by simp)) (And.intro (below_blk H2.out.2.2.1 hg3 (Nat.le_refl _)) (Nat.le_trans H2.out.2.2.2 hg3.size))))
  clear H2 hb3 hg3
  go_upto_region 3 with (refine wpList_store_blk rfl 71 (.tmp 3) (.tmp 7) rfl w3.heap.size (minusN.map nv) rfl (by rw [HMM.out]; rfl) 71 z17 (Blk.new w3 71 z17) (cells17 minusN rfl) rfl (nv_one _) ?_; intro w4 hb4 hg4)
  simp only [Act.put]
  have H4 := Lib.hid (show Blk w4 w3.heap.size 71 (minusN.map nv) ∧ Blk w4 w.heap.size 71 (r.map nv) ∧ Blk w4 (w.heap.size + 1) 71 z17 ∧ Below w.heap.size w w4 ∧ w3.heap.size + 1 ≤ w4.heap.size by
    have h0 := H3.out.2.2.2
    exact ⟨hb4, (H3.out.1.alloc _).grown hg4 (by simp; omega), (H3.out.2.1.alloc _).grown hg4 (by simp; omega), Below.grown (H3.out.2.2.1.alloc (by omega) (.cells z17.toArray 71)) hg4 (by simp; omega) (by intro k hk; injection hk with hk; omega), by have := hg4.size; simpa using this⟩)
  have HP := Lib.hid H3.out.2.2.2
  clear H3 hb4 hg4
  generalize w3.heap.size = P at H4 HP ⊢
  go_wp2_with (first | (refine wpList_load_blk rfl 71 (.tmp 1) rfl w.heap.size rfl 71 (r.map nv) H4.out.2.1 17 43 Try.underlying71 (cells17 r HRL.out) ?_; rw [HCR.out]) | (refine wpList_load_blk rfl 71 (.tmp 3) rfl P rfl 71 (minusN.map nv) H4.out.1 17 43 Try.underlying71 (cells17 minusN rfl) ?_; rw [HCM.out]))
  refine (HPC.out _).mono ?_
  rintro e w5 ⟨rfl, hb5⟩
  have H5 := Lib.hid (show Blk w5 w.heap.size 71 (r.map nv) ∧ Blk w5 (w.heap.size + 1) 71 z17 ∧ Below w.heap.size w w5 ∧ w.heap.size + 2 ≤ w5.heap.size from ⟨H4.out.2.1.below hb5 H4.out.2.1.lt, H4.out.2.2.1.below hb5 H4.out.2.2.1.lt, H4.out.2.2.2.1.trans (hb5.mono H4.out.2.2.2.1.size), by have := hb5.size; have := H4.out.2.2.2.2; have := HP.out; omega⟩)
  clear H4 HP hb5
  go_upto_region 4 with (refine wpList_store_blk rfl 71 (.tmp 4) (.tmp 10) rfl w5.heap.size (g.map nv) rfl (by rw [HCG.out]; rfl) 71 z17 (Blk.new w5 71 z17) (cells17 g HGL.out) (by rw [List.length_map, HGL.out]; rfl) (nv_one _) ?_; intro w6 hb6 hg6)
  simp only [Act.put]
  have H6 := Lib.hid (show Blk w6 w5.heap.size 71 (g.map nv) ∧ Blk w6 w.heap.size 71 (r.map nv) ∧ Blk w6 (w.heap.size + 1) 71 z17 ∧ Below w.heap.size w w6 by
    have h0 := H5.out.2.2.2
    exact ⟨hb6, (H5.out.1.alloc _).grown hg6 (by simp; omega), (H5.out.2.1.alloc _).grown hg6 (by simp; omega), Below.grown (H5.out.2.2.1.alloc (by omega) (.cells z17.toArray 71)) hg6 (by simp; omega) (by intro k hk; injection hk with hk; omega)⟩)
  have HP := Lib.hid H5.out.2.2.2
  clear H5 hb6 hg6
  generalize w5.heap.size = P at H6 HP ⊢
  have fx := H6.out.1.dig 16 (by rw [HGL.out]; omega)
  have zx := H6.out.1.frozen 16
  obtain ⟨d, hd⟩ : ∃ d, dg g 16 = d := ⟨_, rfl⟩
  rw [hd] at fx h255
  replace HL := Lib.hid (show leastN l = if d &&& 128 = 0 then g.set 16 (d &&& 3) else r by rw [HL.out, hd])
  clear hd
  have h128 : bits BinOp.and IntKind.u32 (d : Int) 128 = ((d &&& 128 : Nat) : Int) := u32_and_nat d 128 (by omega) (by omega)
  have h3 : bits BinOp.and IntKind.u32 (d : Int) 3 = ((d &&& 3 : Nat) : Int) := u32_and_nat d 3 (by omega) (by omega)
  obtain ⟨b, hb⟩ : ∃ b, d &&& 128 = b := ⟨_, rfl⟩
  obtain ⟨m, hm⟩ : ∃ m, d &&& 3 = m := ⟨_, rfl⟩
  rw [hb] at h128
  rw [hm] at h3
  rw [hb, hm] at HL
  clear hb hm
  by_cases h0 : b = 0
  · subst h0
    have hb0 : (((0 : Nat) : Int) == 0) = true := rfl
    replace h128 : bits BinOp.and IntKind.u32 (d : Int) 128 = 0 := h128
    have HLe := Lib.hid (show leastN l = g.set 16 m by rw [HL.out, if_pos rfl])
    have HSL := Lib.hid (show (g.set 16 m).length = 17 by rw [List.length_set]; exact HGL.out)
    have H7 := Lib.hid (show Blk (w6.setCell ⟨P, 16, none⟩ (.int .u32 (m : Int))) P 71 ((g.set 16 m).map nv) ∧ Blk (w6.setCell ⟨P, 16, none⟩ (.int .u32 (m : Int))) (w.heap.size + 1) 71 z17 ∧ Below w.heap.size w (w6.setCell ⟨P, 16, none⟩ (.int .u32 (m : Int))) from ⟨H6.out.1.setDig 16 m, H6.out.2.2.1.far (by have := HP.out; simp; omega) _, H6.out.2.2.2.setCell (by have := HP.out; dsimp only; omega) _⟩)
    clear H6
    generalize g.set 16 m = lz at H7 HLe HSL
    obtain ⟨cz, hcz⟩ : ∃ cz, (lz.map nv).toArray = cz := ⟨_, rfl⟩
    have HCZ := Lib.hid hcz
    clear hcz
    go_upto_region 6 with fail
    clear fx zx h128 h3
    generalize w6.setCell ⟨P, 16, none⟩ (.int .u32 (m : Int)) = w7 at H7 ⊢
    go_wp2_with (first | (refine wpList_load_blk rfl 71 (.tmp 4) rfl P rfl 71 (lz.map nv) H7.out.1 17 43 Try.underlying71 (cells17 lz HSL.out) ?_; rw [HCZ.out]) | (refine wpList_store_blk rfl 71 (.tmp 2) (.tmp 19) rfl (w.heap.size + 1) (lz.map nv) rfl (by show Value.agg cz = _; rw [HCZ.out]) 71 z17 H7.out.2.1 (cells17 lz HSL.out) (by rw [List.length_map, HSL.out]; rfl) (nv_one _) ?_; intro w9 hb9 hg9))
    exact bodyPost_ret (results_blk rfl _ _ (w.heap.size + 1) 71 (lz.map nv) 17 43 rfl hb9 Try.underlying71 (cells17 lz HSL.out)) rfl ⟨by rw [HLe.out], below_blk H7.out.2.2 hg9 (by omega)⟩
  · have hb0 : ((b : Int) == 0) = false := by rw [beq_eq_false_iff_ne]; omega
    have HLe := Lib.hid (show leastN l = r by rw [HL.out, if_neg h0])
    clear zx h3
    go_wp2_with (first | (refine wpList_load_blk rfl 71 (.tmp 1) rfl w.heap.size rfl 71 (r.map nv) H6.out.2.1 17 43 Try.underlying71 (cells17 r HRL.out) ?_; rw [HCR.out]) | (refine wpList_store_blk rfl 71 (.tmp 2) (.tmp 20) rfl (w.heap.size + 1) (r.map nv) rfl (by show Value.agg cr = _; rw [HCR.out]) 71 z17 H6.out.2.2.1 (cells17 r HRL.out) (by rw [List.length_map, HRL.out]; rfl) (nv_one _) ?_; intro w9 hb9 hg9))
    exact bodyPost_ret (results_blk rfl _ _ (w.heap.size + 1) 71 (r.map nv) 17 43 rfl hb9 Try.underlying71 (cells17 r HRL.out)) rfl ⟨by rw [HLe.out], below_blk H6.out.2.2.2 hg9 (by omega)⟩
end Go.Proofs.Ytkbefhmgcodpaaa
