/-
  The contracts of the reference's numbers of seventeen digits: reduced, plus, times, least.
-/
import Derived.Test.YtkbefhmgcodpaaaBlkMore
import Derived.Test.YtkbefhmgcodpaaaKeyMem
import Derived.Test.YtkbefhmgcodpaaaPoMath
import Derived.Laws.BitsAllLaws
import Derived.Laws.Bits64
import Derived.Laws.ShiftsVarLaws
import Derived.RegionTactic
import Derived.BigRegion
import Derived.Deep.DeepCutAuto
namespace Go.Proofs.Ytkbefhmgcodpaaa
open Go.RowKit

/-- a digit as a cell -/
def nv (n : Nat) : Value := .int .u32 (n : Int)
theorem nv_one (l : List Nat) : ∀ v ∈ l.map nv, v.oneCell' = true := by
  intro v hv
  obtain ⟨b, _, rfl⟩ := List.mem_map.1 hv
  rfl
theorem Blk.dig {w : World} {g : Nat} {t : TypeId} {l : List Nat} (h : Blk w g t (l.map nv)) (i : Nat) (hi : i < l.length) : w.cell? ⟨g, i, none⟩ = some (.int .u32 (dg l i : Int)) := by
  rw [h.cell i]
  simp [nv, hi, dg, List.getD]
theorem Blk.setDig {w : World} {g : Nat} {t : TypeId} {l : List Nat} (h : Blk w g t (l.map nv)) (i x : Nat) : Blk (w.setCell ⟨g, i, none⟩ (.int .u32 (x : Int))) g t ((l.set i x).map nv) := by
  have h' := h.set_ i (.int .u32 (x : Int))
  rw [List.map_set]
  exact h'
def z17 : List Value := [.int .u32 0, .int .u32 0, .int .u32 0, .int .u32 0, .int .u32 0, .int .u32 0, .int .u32 0, .int .u32 0, .int .u32 0, .int .u32 0, .int .u32 0, .int .u32 0, .int .u32 0, .int .u32 0, .int .u32 0, .int .u32 0, .int .u32 0]
theorem z17_arr : z17.toArray = #[.int .u32 0, .int .u32 0, .int .u32 0, .int .u32 0, .int .u32 0, .int .u32 0, .int .u32 0, .int .u32 0, .int .u32 0, .int .u32 0, .int .u32 0, .int .u32 0, .int .u32 0, .int .u32 0, .int .u32 0, .int .u32 0, .int .u32 0] := rfl
theorem z17_map : z17 = (List.replicate 17 0).map nv := rfl
theorem cells17 (l : List Nat) (h : l.length = 17) : (Try.prog.info? 71).map (·.size) = some (l.map nv).length := by
  rw [List.length_map, h]; kernel_rfl
theorem and_mask (s : Nat) (k : Nat) (hs : s < 4294967296) (hk : k < 32) : bits BinOp.and IntKind.u32 (s : Int) ((2 ^ k - 1 : Nat) : Int) = ((s % 2 ^ k : Nat) : Int) := by
  have hk2 : 2 ^ k ≤ 2 ^ 32 := Nat.pow_le_pow_right (by omega) (by omega)
  rw [u32_and_nat _ _ hs (by omega), Nat.and_two_pow_sub_one_eq_mod]

set_option maxRecDepth 100000 in
set_option maxHeartbeats 2000000 in
theorem reduced_any (l : List Nat) (hf : fits l) (w : World) :
    Calls Try.prog 57 #[.agg (l.map nv).toArray] w fun e w' => e = .returned (.agg ((redN l).map nv).toArray) ∧ Below w.heap.size w w' := by
  obtain ⟨cl, hcl⟩ : ∃ cl, (l.map nv).toArray = cl := ⟨_, rfl⟩
  rw [hcl]
  have HB0 := Lib.hid (show Blk (w.alloc (.cells cl 71)) w.heap.size 71 (l.map nv) by rw [← hcl]; exact Blk.new w _ _)
  have HF := Lib.hid hf
  clear hf
  go_enter Try.func57, Try.ntmps57
  go_upto_region 1 with fail
  have hk1 := HB0.out.alloc (.cells z17.toArray 71)
  have hz1 : Blk ((w.alloc (.cells cl 71)).alloc (.cells z17.toArray 71)) (w.heap.size + 1) 71 z17 := Blk.new' _ (by simp) _ _
  have hbel1 : Below w.heap.size w ((w.alloc (.cells cl 71)).alloc (.cells z17.toArray 71)) := ((Below.refl _ _).alloc (Nat.le_refl _) _).alloc (by simp) _
  rw [z17_arr] at hk1 hz1 hbel1
  clear HB0 hcl
  generalize ((w.alloc (.cells cl 71)).alloc (.cells #[.int .u32 0, .int .u32 0, .int .u32 0, .int .u32 0, .int .u32 0, .int .u32 0, .int .u32 0, .int .u32 0, .int .u32 0, .int .u32 0, .int .u32 0, .int .u32 0, .int .u32 0, .int .u32 0, .int .u32 0, .int .u32 0, .int .u32 0] 71)) = w1 at hk1 hz1 hbel1 ⊢
  go_wp2_with fail
  go_loopw [3, 4, 5, 6] (fun i _ _ _ wr => ∃ (j : Nat) (c : List Nat), j ≤ 2 ∧ i = .int .i64 j ∧ Hid ((j = 2 → c = redN l) ∧ (j < 2 → fits c ∧ redN l = (if j = 0 then redR (redR c) else redR c))) ∧ Blk wr w.heap.size 71 (c.map nv) ∧ Blk wr (w.heap.size + 1) 71 z17 ∧ Below w.heap.size w wr) (fun i _ _ _ _ => 2 - (intOf i).toNat)
  case atStart => exact ⟨0, l, by omega, rfl, Lib.hid ⟨fun h => by omega, fun _ => ⟨HF.out, rfl⟩⟩, hk1, hz1, hbel1⟩
  case round =>
    clear hk1 hz1 hbel1
    obtain ⟨j, c, hj, rfl, HC, hblk, hz, hbel⟩ := hrel
    by_cases hlt : j < 2
    · have d2 : decide ((j : Int) < 2) = true := by simp; omega
      have HFC := Lib.hid (HC.out.2 hlt).1
      have HB := Lib.hid (And.intro hblk (And.intro hz hbel))
      clear hblk hz hbel
      go_upto_region 6 with fail
      clear d2
      go_loopw [4, 5] (fun u i wr => ∃ n : Nat, n ≤ 16 ∧ i = .int .i64 (n : Int) ∧ u = .int .u32 ((pass c 0 n).2 : Int) ∧ Blk wr w.heap.size 71 ((pass c 0 n).1.map nv) ∧ Blk wr (w.heap.size + 1) 71 z17 ∧ Below w.heap.size w wr) (fun _ i _ => 16 - (intOf i).toNat)
      case atStart => exact ⟨0, by omega, rfl, rfl, HB.out.1, HB.out.2.1, HB.out.2.2⟩
      case round =>
        clear HB
        obtain ⟨n, hn, rfl, rfl, hblk, hz, hbel⟩ := hrel
        by_cases hln : n < 16
        · have d16 : decide ((n : Int) < 16) = true := by simp; omega
          have hlen : (pass c 0 n).1.length = 17 := by rw [pass_length]; exact HFC.out.1
          have fx := hblk.dig n (by omega)
          have zx := hblk.frozen n
          have hu := fits_carry HFC.out n (by omega)
          have hd : dg (pass c 0 n).1 n ≤ 400000000 := by rw [pass_above c 0 n n (Nat.le_refl _) (by rw [HFC.out.1]; omega)]; exact HFC.out.2 n
          have hnx : pass c 0 (n + 1) = ((pass c 0 n).1.set n (((pass c 0 n).2 + dg (pass c 0 n).1 n) % 256), ((pass c 0 n).2 + dg (pass c 0 n).1 n) / 256) := rfl
          generalize (pass c 0 n).2 = u at hu hnx ⊢
          generalize hdd : dg (pass c 0 n).1 n = d at fx hd hnx
          have HNX := Lib.hid hnx
          have HB := Lib.hid (And.intro hblk (And.intro hz hbel))
          clear hnx hblk hz hbel hdd hlen
          obtain ⟨s, hs⟩ : ∃ s, u + d = s := ⟨_, rfl⟩
          have hs1 : ((u : Int) + (d : Int)) % 4294967296 = (s : Int) := by omega
          obtain ⟨m, hmm⟩ : ∃ m, s % 256 = m := ⟨_, rfl⟩
          obtain ⟨q, hqq⟩ : ∃ q, s / 256 = q := ⟨_, rfl⟩
          have HS := Lib.hid (And.intro hs (And.intro hmm hqq))
          have hm : bits BinOp.and IntKind.u32 (s : Int) 255 = (m : Int) := by rw [← hmm]; exact and_mask s 8 (by omega) (by omega)
          have hq : (s : Int) / 256 = (q : Int) := by omega
          clear hs hmm hqq hu hd
          go_wp2_with fail
          go_roundw
          case rel =>
            refine ⟨n + 1, by omega, by go_num, ?_, ?_, HB.out.2.1.far (by simp) _, HB.out.2.2.setCell (by dsimp only; omega) _⟩
            · rw [HNX.out, HS.out.1, HS.out.2.2]
            · rw [HNX.out, HS.out.1, HS.out.2.1]
              exact HB.out.1.setDig n m
          case measure => simp [intOf]; omega
        · obtain rfl : n = 16 := by omega
          have hlen : (pass c 0 16).1.length = 17 := by rw [pass_length]; exact HFC.out.1
          have fx := hblk.dig 16 (by omega)
          have zx := hblk.frozen 16
          have hu := fits_carry HFC.out 16 (by omega)
          have hd : dg (pass c 0 16).1 16 ≤ 400000000 := by rw [pass_above c 0 16 16 (Nat.le_refl _) (by rw [HFC.out.1]; omega)]; exact HFC.out.2 16
          obtain ⟨t, ht⟩ : ∃ t, (pass c 0 16).2 + dg (pass c 0 16).1 16 = t := ⟨_, rfl⟩
          have hmid : mid c = (pass c 0 16).1.set 16 (t % 4) := by rw [← ht]; rfl
          have hmu : midU c = 5 * (t / 4) := by rw [← ht]; rfl
          obtain ⟨m, hmm⟩ : ∃ m, t % 4 = m := ⟨_, rfl⟩
          obtain ⟨q, hqq⟩ : ∃ q, t / 4 = q := ⟨_, rfl⟩
          obtain ⟨v, hvv⟩ : ∃ v, midU c = v := ⟨_, rfl⟩
          have ht1 : ((((pass c 0 16).2 : Nat) : Int) + ((dg (pass c 0 16).1 16 : Nat) : Int)) % 4294967296 = (t : Int) := by omega
          have hm : bits BinOp.and IntKind.u32 (t : Int) 3 = (m : Int) := by rw [← hmm]; exact and_mask t 2 (by omega) (by omega)
          have hq : (t : Int) / 4 = (q : Int) := by omega
          have hv : (5 * (q : Int)) % 4294967296 = (v : Int) := by omega
          rw [hmm] at hmid
          generalize (pass c 0 16).2 = u at hu ht ht1 ⊢
          generalize dg (pass c 0 16).1 16 = d at fx hd ht ht1
          have HB := Lib.hid (show Blk (wr.setCell ⟨w.heap.size, 16, none⟩ (.int .u32 (m : Int))) w.heap.size 71 ((mid c).map nv) ∧ Blk (wr.setCell ⟨w.heap.size, 16, none⟩ (.int .u32 (m : Int))) (w.heap.size + 1) 71 z17 ∧ Below w.heap.size w (wr.setCell ⟨w.heap.size, 16, none⟩ (.int .u32 (m : Int))) from ⟨by rw [hmid]; exact hblk.setDig 16 m, hz.far (by simp) _, hbel.setCell (by dsimp only; omega) _⟩)
          have HVV := Lib.hid hvv
          have HV := Lib.hid hv
          clear hblk hz hbel hlen hmid hmu hmm hqq hvv ht hu hd
          rw [show ((16 : Nat) : Int) = 16 from rfl]
          go_upto_region 15 with fail
          clear fx zx hm hq hv ht1
          generalize wr.setCell ⟨w.heap.size, 16, none⟩ (.int .u32 (m : Int)) = w2 at HB ⊢
          go_loopw [4, 6] (fun u i wr => ∃ n : Nat, n ≤ 16 ∧ i = .int .i64 (n : Int) ∧ u = .int .u32 ((pass (mid c) (midU c) n).2 : Int) ∧ Blk wr w.heap.size 71 ((pass (mid c) (midU c) n).1.map nv) ∧ Blk wr (w.heap.size + 1) 71 z17 ∧ Below w.heap.size w wr) (fun _ i _ => 16 - (intOf i).toNat)
          case atStart => exact ⟨0, by omega, rfl, congrArg (Value.int .u32) (HV.out.trans (by rw [← HVV.out]; rfl)), HB.out.1, HB.out.2.1, HB.out.2.2⟩
          case round =>
            clear HB
            obtain ⟨n, hn, rfl, rfl, hblk, hz, hbel⟩ := hrel
            by_cases hln : n < 16
            · have d16 : decide ((n : Int) < 16) = true := by simp; omega
              have hlen : (pass (mid c) (midU c) n).1.length = 17 := by rw [pass_length, mid_length]; exact HFC.out.1
              have fx := hblk.dig n (by omega)
              have zx := hblk.frozen n
              have hu := mid_carry HFC.out n (by omega)
              have hd : dg (pass (mid c) (midU c) n).1 n ≤ 255 := by rw [pass_above _ _ n n (Nat.le_refl _) (by rw [mid_length, HFC.out.1]; omega)]; exact mid_le HFC.out n
              have hnx : pass (mid c) (midU c) (n + 1) = ((pass (mid c) (midU c) n).1.set n (((pass (mid c) (midU c) n).2 + dg (pass (mid c) (midU c) n).1 n) % 256), ((pass (mid c) (midU c) n).2 + dg (pass (mid c) (midU c) n).1 n) / 256) := rfl
              generalize (pass (mid c) (midU c) n).2 = u at hu hnx ⊢
              generalize hdd : dg (pass (mid c) (midU c) n).1 n = d at fx hd hnx
              have HNX := Lib.hid hnx
              have HB := Lib.hid (And.intro hblk (And.intro hz hbel))
              clear hnx hblk hz hbel hdd hlen
              obtain ⟨s, hs⟩ : ∃ s, u + d = s := ⟨_, rfl⟩
              have hs1 : ((u : Int) + (d : Int)) % 4294967296 = (s : Int) := by omega
              obtain ⟨m, hmm⟩ : ∃ m, s % 256 = m := ⟨_, rfl⟩
              obtain ⟨q, hqq⟩ : ∃ q, s / 256 = q := ⟨_, rfl⟩
              have HS := Lib.hid (And.intro hs (And.intro hmm hqq))
              have hm : bits BinOp.and IntKind.u32 (s : Int) 255 = (m : Int) := by rw [← hmm]; exact and_mask s 8 (by omega) (by omega)
              have hq : (s : Int) / 256 = (q : Int) := by omega
              clear hs hmm hqq hu hd
              go_wp2_with fail
              go_roundw
              case rel =>
                refine ⟨n + 1, by omega, by go_num, ?_, ?_, HB.out.2.1.far (by simp) _, HB.out.2.2.setCell (by dsimp only; omega) _⟩
                · rw [HNX.out, HS.out.1, HS.out.2.2]
                · rw [HNX.out, HS.out.1, HS.out.2.1]
                  exact HB.out.1.setDig n m
              case measure => simp [intOf]; omega
            · obtain rfl : n = 16 := by omega
              have hlen : (pass (mid c) (midU c) 16).1.length = 17 := by rw [pass_length, mid_length]; exact HFC.out.1
              have fx := hblk.dig 16 (by omega)
              have zx := hblk.frozen 16
              have hu := mid_carry HFC.out 16 (by omega)
              have hd : dg (pass (mid c) (midU c) 16).1 16 ≤ 255 := by rw [pass_above _ _ 16 16 (Nat.le_refl _) (by rw [mid_length, HFC.out.1]; omega)]; exact mid_le HFC.out 16
              obtain ⟨t, ht⟩ : ∃ t, dg (pass (mid c) (midU c) 16).1 16 + (pass (mid c) (midU c) 16).2 = t := ⟨_, rfl⟩
              have hred : redR c = (pass (mid c) (midU c) 16).1.set 16 t := by rw [← ht]; rfl
              have ht1 : (((dg (pass (mid c) (midU c) 16).1 16 : Nat) : Int) + (((pass (mid c) (midU c) 16).2 : Nat) : Int)) % 4294967296 = (t : Int) := by omega
              generalize (pass (mid c) (midU c) 16).2 = u at hu ht ht1 ⊢
              generalize dg (pass (mid c) (midU c) 16).1 16 = d at fx hd ht ht1
              have HB := Lib.hid (show Blk (wr.setCell ⟨w.heap.size, 16, none⟩ (.int .u32 (t : Int))) w.heap.size 71 ((redR c).map nv) ∧ Blk (wr.setCell ⟨w.heap.size, 16, none⟩ (.int .u32 (t : Int))) (w.heap.size + 1) 71 z17 ∧ Below w.heap.size w (wr.setCell ⟨w.heap.size, 16, none⟩ (.int .u32 (t : Int))) from ⟨by rw [hred]; exact hblk.setDig 16 t, hz.far (by simp) _, hbel.setCell (by dsimp only; omega) _⟩)
              clear hblk hz hbel hlen hred ht hu hd
              rw [show ((16 : Nat) : Int) = 16 from rfl]
              go_wp2_with fail
              go_roundw
              case rel =>
                refine ⟨j + 1, redR c, by omega, by go_num, Lib.hid ⟨fun h => ?_, fun h => ?_⟩, HB.out.1, HB.out.2.1, HB.out.2.2⟩
                · have := (HC.out.2 hlt).2
                  rw [if_neg (by omega)] at this
                  exact this.symm
                · have := (HC.out.2 hlt).2
                  rw [if_pos (by omega)] at this
                  exact ⟨(redR_tidy HFC.out).fits (by omega), by rw [this, if_neg (by omega)]⟩
              case measure => simp [intOf]; omega
    · obtain rfl : j = 2 := by omega
      have hce := HC.out.1 rfl
      obtain ⟨lz, hlz⟩ : ∃ lz, redN l = lz := ⟨_, rfl⟩
      have hcl : c.length = 17 := by rw [hce, redN_length]; exact HF.out.1
      have HZ := Lib.hid (hce.symm)
      have HLz := Lib.hid hcl
      have HB := Lib.hid (And.intro hblk (And.intro hz hbel))
      obtain ⟨cz, hcz⟩ : ∃ cz, (c.map nv).toArray = cz := ⟨_, rfl⟩
      have HCZ := Lib.hid hcz
      clear hblk hz hbel hcz hce hlz hcl HC
      rw [show ((2 : Nat) : Int) = 2 from rfl]
      go_wp2_with (first | (refine wpList_load_blk rfl 71 (.tmp 1) rfl w.heap.size rfl 71 (c.map nv) HB.out.1 17 43 Try.underlying71 (cells17 c HLz.out) ?_; rw [HCZ.out]) | (refine wpList_store_blk rfl 71 (.tmp 2) (.tmp 56) rfl (w.heap.size + 1) (c.map nv) rfl (by show Value.agg cz = _; rw [HCZ.out]) 71 z17 HB.out.2.1 (cells17 c HLz.out) (by rw [List.length_map, HLz.out]; rfl) (nv_one _) ?_; intro w9 hb9 hg9))
      exact bodyPost_ret (results_blk rfl _ _ (w.heap.size + 1) 71 (c.map nv) 17 43 rfl hb9 Try.underlying71 (cells17 c HLz.out)) rfl ⟨by rw [HZ.out], below_blk HB.out.2.2 hg9 (by omega)⟩
end Go.Proofs.Ytkbefhmgcodpaaa
