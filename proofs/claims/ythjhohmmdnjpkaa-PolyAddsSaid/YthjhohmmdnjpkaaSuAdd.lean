/-
  The contract of the program's sum of two numbers of five limbs.
-/
import Derived.Test.YthjhohmmdnjpkaaSuCarry
namespace Go.Proofs.Ythjhohmmdnjpkaa
open Go.RowKit

set_option maxRecDepth 100000 in
set_option maxHeartbeats 2000000 in
theorem add_any (x y : List Nat) (hx : x.length = 5 ∧ ∀ i, dg x i ≤ 4611686018427387904) (hy : y.length = 5 ∧ ∀ i, dg y i ≤ 4611686018427387904) (w : World) :
    Calls Try.prog 13 #[.agg (x.map lv).toArray, .agg (y.map lv).toArray] w fun e w' => e = .returned (.agg ((addS x y 5).map lv).toArray) ∧ Below w.heap.size w w' := by
  obtain ⟨cx, hcx⟩ : ∃ cx, (x.map lv).toArray = cx := ⟨_, rfl⟩
  obtain ⟨cy, hcy⟩ : ∃ cy, (y.map lv).toArray = cy := ⟨_, rfl⟩
  rw [hcx, hcy]
  have HB0 := Lib.hid (show Blk (w.alloc (.cells cx 40)) w.heap.size 40 (x.map lv) by rw [← hcx]; exact Blk.new w _ _)
  have HB1 := Lib.hid (show Blk ((w.alloc (.cells cx 40)).alloc (.cells cy 40)) (w.heap.size + 1) 40 (y.map lv) by rw [← hcy]; exact Blk.new' _ (by simp) _ _)
  have HX := Lib.hid hx
  have HY := Lib.hid hy
  clear hx hy
  go_enter Try.func13, Try.ntmps13
  go_upto_region 1 with fail
  have h0 := (HB0.out.alloc (.cells cy 40)).alloc (.cells z5.toArray 40)
  have h1 := HB1.out.alloc (.cells z5.toArray 40)
  have h2 : Blk (((w.alloc (.cells cx 40)).alloc (.cells cy 40)).alloc (.cells z5.toArray 40)) (w.heap.size + 2) 40 z5 := Blk.new' _ (by simp) _ _
  have h3 : Below w.heap.size w (((w.alloc (.cells cx 40)).alloc (.cells cy 40)).alloc (.cells z5.toArray 40)) := (((Below.refl _ _).alloc (Nat.le_refl _) _).alloc (by simp) _).alloc (by simp; omega) _
  rw [z5_arr] at h0 h1 h2 h3
  have hsz : (((w.alloc (.cells cx 40)).alloc (.cells cy 40)).alloc (.cells #[.int .u64 0, .int .u64 0, .int .u64 0, .int .u64 0, .int .u64 0] 40)).heap.size = w.heap.size + 3 := by simp
  clear HB0 HB1
  have HC := Lib.hid (And.intro hcx hcy)
  clear hcx hcy
  generalize (((w.alloc (.cells cx 40)).alloc (.cells cy 40)).alloc (.cells #[.int .u64 0, .int .u64 0, .int .u64 0, .int .u64 0, .int .u64 0] 40)) = w1 at h0 h1 h2 h3 hsz ⊢
  rw [show w.heap.size + 1 + 1 = w.heap.size + 2 from rfl]
  have H1 := Lib.hid (And.intro h0 (And.intro h1 (And.intro h2 (And.intro h3 hsz))))
  clear h0 h1 h2 h3 hsz
  go_upto_region 2 with (first | (refine wpList_load_blk rfl 40 (.tmp 2) rfl w.heap.size rfl 40 (x.map lv) H1.out.1 5 38 Try.underlying40 (cells5 x HX.out.1) ?_; rw [HC.out.1]) | (refine wpList_store_blk rfl 40 (.tmp 5) (.tmp 7) rfl w1.heap.size (x.map lv) rfl (by show Value.agg cx = _; rw [HC.out.1]) 40 z5 (Blk.new w1 40 z5) (cells5 x HX.out.1) (by rw [List.length_map, HX.out.1]; rfl) (lv_one _) ?_; intro w2 hb2 hg2))
  simp only [Act.put]
  have e2 := H1.out.2.2.2.2
  have hk1 := (H1.out.2.1.alloc (.cells z5.toArray 40)).grown hg2 (fun e => by injection e; omega)
  have hk2 := (H1.out.2.2.1.alloc (.cells z5.toArray 40)).grown hg2 (fun e => by injection e; omega)
  have hk3 : Below w.heap.size w w2 := below_blk (H1.out.2.2.2.1.alloc (by omega) (.cells z5.toArray 40)) hg2 (by omega)
  rw [e2] at hb2 ⊢
  have H2 := Lib.hid (And.intro hb2 (And.intro hk1 (And.intro hk2 hk3)))
  clear hb2 hk1 hk2 hk3 hg2 e2 H1
  go_wp2_with fail
  go_loopw [8, 6] (fun i _ wr => ∃ n : Nat, n ≤ 5 ∧ i = .int .i64 (n : Int) ∧ Blk wr (w.heap.size + 3) 40 ((addS x y n).map lv) ∧ Blk wr (w.heap.size + 1) 40 (y.map lv) ∧ Blk wr (w.heap.size + 2) 40 z5 ∧ Below w.heap.size w wr) (fun i _ _ => 5 - (intOf i).toNat)
  case atStart => exact ⟨0, by omega, rfl, H2.out.1, H2.out.2.1, H2.out.2.2.1, H2.out.2.2.2⟩
  case round =>
    clear H2
    obtain ⟨n, hn, rfl, hblk, hyb, hz, hbel⟩ := hrel
    by_cases hln : n < 5
    · have d5 : decide ((n : Int) < 5) = true := by simp; omega
      have hlen : (addS x y n).length = 5 := by rw [addS_length]; exact HX.out.1
      have fx := hblk.lim n (by omega)
      have fy := hyb.lim n (by rw [HY.out.1]; omega)
      have zx := hblk.frozen n
      have hd : dg (addS x y n) n ≤ 4611686018427387904 := by rw [addS_dg x y HX.out.1 n n (by omega), if_neg (by omega)]; exact HX.out.2 n
      have hg := HY.out.2 n
      have hnx : addS x y (n + 1) = (addS x y n).set n (dg (addS x y n) n + dg y n) := rfl
      generalize hdd : dg (addS x y n) n = d at fx hd hnx
      generalize dg y n = g at fy hg hnx
      obtain ⟨s, hs⟩ : ∃ s, d + g = s := ⟨_, rfl⟩
      have hs1 : IntKind.u64.wrap ((d : Int) + (g : Int)) = (s : Int) := by rw [IntKind.wrap_u64]; omega
      have hs2 : ((d : Int) + (g : Int)) % 18446744073709551616 = (s : Int) := by omega
      rw [hs] at hnx
      have HNX := Lib.hid hnx
      have HB := Lib.hid (And.intro hblk (And.intro hyb (And.intro hz hbel)))
      clear hnx hblk hyb hz hbel hdd hlen hs hd hg
      go_upto_region 5 with fail
      go_region
      (try simp only [hs1, hs2])
      clear fx fy zx hs1 hs2
      go_wp2_with fail
      go_roundw
      case rel =>
        refine ⟨n + 1, by omega, by go_num, ?_, ?_, ?_, ?_⟩
        · rw [HNX.out]
          exact HB.out.1.drew.setLim n s
        · exact HB.out.2.1.drew.far (by simp) _
        · exact HB.out.2.2.1.drew.far (by simp) _
        · exact HB.out.2.2.2.drew.setCell (by dsimp only; omega) _
      case measure => simp [intOf]; omega
    · obtain rfl : n = 5 := by omega
      obtain ⟨lz, hlz⟩ : ∃ lz, addS x y 5 = lz := ⟨_, rfl⟩
      have HLz := Lib.hid (show lz.length = 5 by rw [← hlz, addS_length]; exact HX.out.1)
      rw [hlz] at hblk
      have HZ := Lib.hid hlz
      have HB := Lib.hid (And.intro hblk (And.intro hz hbel))
      obtain ⟨cz, hcz⟩ : ∃ cz, (lz.map lv).toArray = cz := ⟨_, rfl⟩
      have HCZ := Lib.hid hcz
      clear hblk hz hbel hcz hlz hyb
      rw [show ((5 : Nat) : Int) = 5 from rfl]
      go_wp2_with (first | (refine wpList_load_blk rfl 40 (.tmp 5) rfl (w.heap.size + 3) rfl 40 (lz.map lv) HB.out.1 5 38 Try.underlying40 (cells5 lz HLz.out) ?_; rw [HCZ.out]) | (refine wpList_store_blk rfl 40 (.tmp 4) (.tmp 20) rfl (w.heap.size + 2) (lz.map lv) rfl (by show Value.agg cz = _; rw [HCZ.out]) 40 z5 HB.out.2.1 (cells5 lz HLz.out) (by rw [List.length_map, HLz.out]; rfl) (lv_one _) ?_; intro w9 hb9 hg9))
      exact bodyPost_ret (results_blk rfl _ _ (w.heap.size + 2) 40 (lz.map lv) 5 38 rfl hb9 Try.underlying40 (cells5 lz HLz.out)) rfl ⟨by rw [HZ.out], below_blk HB.out.2.2 hg9 (by omega)⟩
end Go.Proofs.Ythjhohmmdnjpkaa
