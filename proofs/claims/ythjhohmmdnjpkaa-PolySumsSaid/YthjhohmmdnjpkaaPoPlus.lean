/-
  The contract of the reference's plus.
-/
import Derived.Test.YthjhohmmdnjpkaaPoRef
namespace Go.Proofs.Ythjhohmmdnjpkaa
open Go.RowKit

set_option maxRecDepth 100000 in
set_option maxHeartbeats 2000000 in
theorem plus_any (a b : List Nat) (ha : a.length = 17 ∧ ∀ i, dg a i ≤ 255) (hb : b.length = 17 ∧ ∀ i, dg b i ≤ 255) (w : World) :
    Calls Try.prog 17 #[.agg (a.map nv).toArray, .agg (b.map nv).toArray] w fun e w' => e = .returned (.agg ((plusN a b).map nv).toArray) ∧ Below w.heap.size w w' := by
  obtain ⟨ca, hca⟩ : ∃ ca, (a.map nv).toArray = ca := ⟨_, rfl⟩
  obtain ⟨cb, hcb⟩ : ∃ cb, (b.map nv).toArray = cb := ⟨_, rfl⟩
  rw [hca, hcb]
  have HB0 := Lib.hid (show Blk (w.alloc (.cells ca 47)) w.heap.size 47 (a.map nv) by rw [← hca]; exact Blk.new w _ _)
  have HB1 := Lib.hid (show Blk ((w.alloc (.cells ca 47)).alloc (.cells cb 47)) (w.heap.size + 1) 47 (b.map nv) by rw [← hcb]; exact Blk.new' _ (by simp) _ _)
  have HA := Lib.hid ha
  have HBB := Lib.hid hb
  clear ha hb
  go_enter Try.func17, Try.ntmps17
  go_upto_region 1 with fail
  have h1 := (HB0.out.alloc (.cells cb 47)).alloc (.cells z17.toArray 47)
  have h2 := HB1.out.alloc (.cells z17.toArray 47)
  have h3 : Blk (((w.alloc (.cells ca 47)).alloc (.cells cb 47)).alloc (.cells z17.toArray 47)) (w.heap.size + 2) 47 z17 := Blk.new' _ (by simp) _ _
  have h4 : Below w.heap.size w (((w.alloc (.cells ca 47)).alloc (.cells cb 47)).alloc (.cells z17.toArray 47)) := (((Below.refl _ _).alloc (Nat.le_refl _) _).alloc (by simp) _).alloc (by simp; omega) _
  rw [z17_arr] at h1 h2 h3 h4
  clear HB0 HB1 hca hcb
  generalize (((w.alloc (.cells ca 47)).alloc (.cells cb 47)).alloc (.cells #[.int .u32 0, .int .u32 0, .int .u32 0, .int .u32 0, .int .u32 0, .int .u32 0, .int .u32 0, .int .u32 0, .int .u32 0, .int .u32 0, .int .u32 0, .int .u32 0, .int .u32 0, .int .u32 0, .int .u32 0, .int .u32 0, .int .u32 0] 47)) = w1 at h1 h2 h3 h4 ⊢
  rw [show w.heap.size + 1 + 1 = w.heap.size + 2 from rfl]
  have H1 := Lib.hid (And.intro h1 (And.intro h2 (And.intro h3 h4)))
  clear h1 h2 h3 h4
  go_wp2_with fail
  go_loopw [5, 7, 6] (fun u i _ wr => ∃ n : Nat, n ≤ 17 ∧ i = .int .i64 (n : Int) ∧ u = .int .u32 ((plusP a b n).2 : Int) ∧ Blk wr w.heap.size 47 ((plusP a b n).1.map nv) ∧ Blk wr (w.heap.size + 1) 47 (b.map nv) ∧ Blk wr (w.heap.size + 2) 47 z17 ∧ Below w.heap.size w wr) (fun _ i _ _ => 17 - (intOf i).toNat)
  case atStart => exact ⟨0, by omega, rfl, rfl, H1.out.1, H1.out.2.1, H1.out.2.2.1, H1.out.2.2.2⟩
  case round =>
    clear H1
    obtain ⟨n, hn, rfl, rfl, hblk, hbb, hz, hbel⟩ := hrel
    by_cases hln : n < 17
    · have d17 : decide ((n : Int) < 17) = true := by simp; omega
      have hlen : (plusP a b n).1.length = 17 := by rw [plusP_length]; exact HA.out.1
      have fx := hblk.dig n (by omega)
      have fy := hbb.dig n (by rw [HBB.out.1]; omega)
      have zx := hblk.frozen n
      have hu := plusP_carry a b HA.out.2 HBB.out.2 n (by rw [HA.out.1]; omega)
      have hd : dg (plusP a b n).1 n ≤ 255 := by rw [plusP_above a b n n (Nat.le_refl _) (by rw [HA.out.1]; omega)]; exact HA.out.2 n
      have hg := HBB.out.2 n
      have hnx : plusP a b (n + 1) = ((plusP a b n).1.set n (((plusP a b n).2 + (dg (plusP a b n).1 n + dg b n)) % 256), ((plusP a b n).2 + (dg (plusP a b n).1 n + dg b n)) / 256) := rfl
      generalize (plusP a b n).2 = u at hu hnx ⊢
      generalize hdd : dg (plusP a b n).1 n = d at fx hd hnx
      generalize dg b n = g at fy hg hnx
      have HNX := Lib.hid hnx
      have HB := Lib.hid (And.intro hblk (And.intro hbb (And.intro hz hbel)))
      clear hnx hblk hbb hz hbel hdd hlen
      obtain ⟨x, hx⟩ : ∃ x, d + g = x := ⟨_, rfl⟩
      obtain ⟨s, hs⟩ : ∃ s, u + x = s := ⟨_, rfl⟩
      have hx1 : ((d : Int) + (g : Int)) % 4294967296 = (x : Int) := by omega
      have hs1 : ((u : Int) + (x : Int)) % 4294967296 = (s : Int) := by omega
      obtain ⟨m, hmm⟩ : ∃ m, s % 256 = m := ⟨_, rfl⟩
      obtain ⟨q, hqq⟩ : ∃ q, s / 256 = q := ⟨_, rfl⟩
      have HS := Lib.hid (And.intro hx (And.intro hs (And.intro hmm hqq)))
      have hm : bits BinOp.and IntKind.u32 (s : Int) 255 = (m : Int) := by rw [← hmm]; exact and_mask s 8 (by omega) (by omega)
      have hq : (s : Int) / 256 = (q : Int) := by omega
      clear hs hmm hqq hu hd hg hx
      go_upto_region 5 with fail
      go_region
      (try simp only [hx1, hs1])
      go_wp2_with fail
      go_roundw
      case rel =>
        refine ⟨n + 1, by omega, by go_num, ?_, ?_, ?_, ?_, ?_⟩
        · rw [HNX.out, HS.out.1, HS.out.2.1, HS.out.2.2.2]
        · rw [HNX.out, HS.out.1, HS.out.2.1, HS.out.2.2.1]
          exact HB.out.1.drew.setDig n m
        · exact HB.out.2.1.drew.far (by simp) _
        · exact HB.out.2.2.1.drew.far (by simp) _
        · exact HB.out.2.2.2.drew.setCell (by dsimp only; omega) _
      case measure => simp [intOf]; omega
    · obtain rfl : n = 17 := by omega
      obtain ⟨lz, hlz⟩ : ∃ lz, plusN a b = lz := ⟨_, rfl⟩
      have HLz := Lib.hid (show lz.length = 17 by rw [← hlz, plusN_length]; exact HA.out.1)
      rw [show (plusP a b 17).1 = lz from hlz] at hblk
      have HZ := Lib.hid hlz
      have HB := Lib.hid (And.intro hblk (And.intro hz hbel))
      obtain ⟨cz, hcz⟩ : ∃ cz, (lz.map nv).toArray = cz := ⟨_, rfl⟩
      have HCZ := Lib.hid hcz
      clear hblk hz hbel hcz hlz hbb
      rw [show ((17 : Nat) : Int) = 17 from rfl]
      go_wp2_with (first | (refine wpList_load_blk rfl 47 (.tmp 2) rfl w.heap.size rfl 47 (lz.map nv) HB.out.1 17 45 Try.underlying47 (cells17 lz HLz.out) ?_; rw [HCZ.out]) | (refine wpList_store_blk rfl 47 (.tmp 4) (.tmp 26) rfl (w.heap.size + 2) (lz.map nv) rfl (by show Value.agg cz = _; rw [HCZ.out]) 47 z17 HB.out.2.1 (cells17 lz HLz.out) (by rw [List.length_map, HLz.out]; rfl) (nv_one _) ?_; intro w9 hb9 hg9))
      exact bodyPost_ret (results_blk rfl _ _ (w.heap.size + 2) 47 (lz.map nv) 17 45 rfl hb9 Try.underlying47 (cells17 lz HLz.out)) rfl ⟨by rw [HZ.out], below_blk HB.out.2.2 hg9 (by omega)⟩
end Go.Proofs.Ythjhohmmdnjpkaa
