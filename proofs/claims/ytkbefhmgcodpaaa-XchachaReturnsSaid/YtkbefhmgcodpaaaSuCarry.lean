/-
  The contract of the program's carry over its five limbs.
-/
import Derived.Test.YtkbefhmgcodpaaaKeyMem
import Derived.Test.YtkbefhmgcodpaaaSuMath
import Derived.Test.YtkbefhmgcodpaaaPoRef
namespace Go.Proofs.Ytkbefhmgcodpaaa
open Go.RowKit

/-- a limb as a cell -/
def lv (n : Nat) : Value := .int .u64 (n : Int)
theorem lv_one (l : List Nat) : ∀ v ∈ l.map lv, v.oneCell' = true := by
  intro v hv
  obtain ⟨b, _, rfl⟩ := List.mem_map.1 hv
  rfl
theorem Blk.lim {w : World} {g : Nat} {t : TypeId} {l : List Nat} (h : Blk w g t (l.map lv)) (i : Nat) (hi : i < l.length) : w.cell? ⟨g, i, none⟩ = some (.int .u64 (dg l i : Int)) := by
  rw [h.cell i]
  simp [lv, hi, dg, List.getD]
theorem Blk.setLim {w : World} {g : Nat} {t : TypeId} {l : List Nat} (h : Blk w g t (l.map lv)) (i x : Nat) : Blk (w.setCell ⟨g, i, none⟩ (.int .u64 (x : Int))) g t ((l.set i x).map lv) := by
  have h' := h.set_ i (.int .u64 (x : Int))
  rw [List.map_set]
  exact h'
def z5 : List Value := [.int .u64 0, .int .u64 0, .int .u64 0, .int .u64 0, .int .u64 0]
theorem z5_arr : z5.toArray = #[.int .u64 0, .int .u64 0, .int .u64 0, .int .u64 0, .int .u64 0] := rfl
theorem z5_map : z5 = (List.replicate 5 0).map lv := rfl
theorem cells5 (l : List Nat) (h : l.length = 5) : (Try.prog.info? 76).map (·.size) = some (l.map lv).length := by
  rw [List.length_map, h]; kernel_rfl
theorem and_mask64 (s : Nat) (k : Nat) (hs : s < 18446744073709551616) (hk : k < 64) : bits BinOp.and IntKind.u64 (s : Int) ((2 ^ k - 1 : Nat) : Int) = ((s % 2 ^ k : Nat) : Int) := by
  have hk2 : 2 ^ k ≤ 2 ^ 64 := Nat.pow_le_pow_right (by omega) (by omega)
  rw [u64_and_nat _ _ hs (by omega), Nat.and_two_pow_sub_one_eq_mod]

set_option maxRecDepth 100000 in
set_option maxHeartbeats 2000000 in
theorem carry_any (l : List Nat) (hl : l.length = 5) (hd : ∀ i, dg l i ≤ 4611686018427387904) (w : World) :
    Calls Try.prog 60 #[.agg (l.map lv).toArray] w fun e w' => e = .returned (.agg ((carryN l).map lv).toArray) ∧ Below w.heap.size w w' := by
  obtain ⟨cl, hcl⟩ : ∃ cl, (l.map lv).toArray = cl := ⟨_, rfl⟩
  rw [hcl]
  have HB0 := Lib.hid (show Blk (w.alloc (.cells cl 76)) w.heap.size 76 (l.map lv) by rw [← hcl]; exact Blk.new w _ _)
  have HL := Lib.hid hl
  have HD := Lib.hid hd
  clear hd hl
  go_enter Try.func60, Try.ntmps60
  go_upto_region 1 with fail
  have h0 := HB0.out.alloc (.cells z5.toArray 76)
  have h1 : Blk ((w.alloc (.cells cl 76)).alloc (.cells z5.toArray 76)) (w.heap.size + 1) 76 z5 := Blk.new' _ (by simp) _ _
  have h3 : Below w.heap.size w ((w.alloc (.cells cl 76)).alloc (.cells z5.toArray 76)) := ((Below.refl _ _).alloc (Nat.le_refl _) _).alloc (by simp) _
  rw [z5_arr] at h0 h1 h3
  have hsz : ((w.alloc (.cells cl 76)).alloc (.cells #[.int .u64 0, .int .u64 0, .int .u64 0, .int .u64 0, .int .u64 0] 76)).heap.size = w.heap.size + 2 := by simp
  clear HB0
  have HC := Lib.hid hcl
  clear hcl
  generalize ((w.alloc (.cells cl 76)).alloc (.cells #[.int .u64 0, .int .u64 0, .int .u64 0, .int .u64 0, .int .u64 0] 76)) = w1 at h0 h1 h3 hsz ⊢
  have H1 := Lib.hid (And.intro h0 (And.intro h1 (And.intro h3 hsz)))
  clear h0 h1 h3 hsz
  go_upto_region 2 with (first | (refine wpList_load_blk rfl 76 (.tmp 1) rfl w.heap.size rfl 76 (l.map lv) H1.out.1 5 51 Try.underlying76 (cells5 l HL.out) ?_; rw [HC.out]) | (refine wpList_store_blk rfl 76 (.tmp 3) (.tmp 6) rfl w1.heap.size (l.map lv) rfl (by show Value.agg cl = _; rw [HC.out]) 76 z5 (Blk.new w1 76 z5) (cells5 l HL.out) (by rw [List.length_map, HL.out]; rfl) (lv_one _) ?_; intro w2 hb2 hg2))
  simp only [Act.put]
  have e2 := H1.out.2.2.2
  have hk1 := (H1.out.2.1.alloc (.cells z5.toArray 76)).grown hg2 (fun e => by injection e; omega)
  have hk3 : Below w.heap.size w w2 := below_blk (H1.out.2.2.1.alloc (by omega) (.cells z5.toArray 76)) hg2 (by omega)
  rw [e2] at hb2 ⊢
  have H2 := Lib.hid (And.intro hb2 (And.intro hk1 hk3))
  clear hb2 hk1 hk3 hg2 e2 H1
  go_wp2_with fail
  go_loopw [4, 7, 5] (fun u i _ wr => ∃ n : Nat, n ≤ 5 ∧ i = .int .i64 (n : Int) ∧ u = .int .u64 ((cst l n).2 : Int) ∧ Blk wr (w.heap.size + 2) 76 ((cst l n).1.map lv) ∧ Blk wr (w.heap.size + 1) 76 z5 ∧ Below w.heap.size w wr) (fun _ i _ _ => 5 - (intOf i).toNat)
  case atStart => exact ⟨0, by omega, rfl, rfl, H2.out.1, H2.out.2.1, H2.out.2.2⟩
  case round =>
    clear H2
    obtain ⟨n, hn, rfl, rfl, hblk, hz, hbel⟩ := hrel
    by_cases hln : n < 5
    · have d5 : decide ((n : Int) < 5) = true := by simp; omega
      have hlen : (cst l n).1.length = 5 := by rw [cst_length]; exact HL.out
      have fx := hblk.lim n (by omega)
      have zx := hblk.frozen n
      have hu := cst_carry l 68719477761 (fun i => by have := HD.out i; omega) n (by rw [HL.out]; omega)
      have hdn : dg (cst l n).1 n ≤ 4611686018427387904 := by rw [cst_above l n n (Nat.le_refl _) (by rw [HL.out]; omega)]; exact HD.out n
      have hnx : cst l (n + 1) = ((cst l n).1.set n ((dg (cst l n).1 n + (cst l n).2) % 67108864), (dg (cst l n).1 n + (cst l n).2) / 67108864) := rfl
      generalize (cst l n).2 = u at hu hnx ⊢
      generalize hdd : dg (cst l n).1 n = d at fx hdn hnx
      obtain ⟨s, hs⟩ : ∃ s, d + u = s := ⟨_, rfl⟩
      have hs1 : IntKind.u64.wrap ((d : Int) + (u : Int)) = (s : Int) := by rw [IntKind.wrap_u64]; omega
      obtain ⟨m, hmm⟩ : ∃ m, s % 67108864 = m := ⟨_, rfl⟩
      obtain ⟨q, hqq⟩ : ∃ q, s / 67108864 = q := ⟨_, rfl⟩
      have hm : bits BinOp.and IntKind.u64 (s : Int) 67108863 = (m : Int) := by rw [← hmm]; exact and_mask64 s 26 (by omega) (by omega)
      have hq : (s : Int) / 67108864 = (q : Int) := by omega
      have HNX := Lib.hid (show cst l (n + 1) = ((cst l n).1.set n m, q) by rw [hnx, hs, hmm, hqq])
      have g1 : (wr.setCell ⟨w.heap.size + 2, n, none⟩ (.int .u64 (s : Int))).cell? ⟨w.heap.size + 2, n, none⟩ = some (.int .u64 (s : Int)) := by
        have := (hblk.setLim n s).lim n (by rw [List.length_set]; omega)
        rwa [dg_set _ _ _ _ (by omega), if_pos rfl] at this
      have g2 := (hblk.setLim n s).frozen n
      have HB := Lib.hid (show Blk (wr.setCell ⟨w.heap.size + 2, n, none⟩ (.int .u64 (s : Int))) (w.heap.size + 2) 76 (((cst l n).1.set n s).map lv) ∧ Blk (wr.setCell ⟨w.heap.size + 2, n, none⟩ (.int .u64 (s : Int))) (w.heap.size + 1) 76 z5 ∧ Below w.heap.size w (wr.setCell ⟨w.heap.size + 2, n, none⟩ (.int .u64 (s : Int))) from ⟨hblk.setLim n s, hz.far (by simp) _, hbel.setCell (by dsimp only; omega) _⟩)
      clear hnx hblk hz hbel hdd hlen hs hmm hqq hu hdn
      go_upto_region 7 with fail
      (try simp only [hs1])
      generalize wr.setCell ⟨w.heap.size + 2, n, none⟩ (.int .u64 (s : Int)) = w3 at g1 g2 HB ⊢
      clear fx zx hs1
      go_wp2_with fail
      go_roundw
      case rel =>
        refine ⟨n + 1, by omega, by go_num, ?_, ?_, HB.out.2.1.far (by simp) _, HB.out.2.2.setCell (by dsimp only; omega) _⟩
        · rw [HNX.out]
        · rw [HNX.out]
          have := HB.out.1.setLim n m
          rwa [List.set_set] at this
      case measure => simp [intOf]; omega
    · obtain rfl : n = 5 := by omega
      have hlen : (cst l 5).1.length = 5 := by rw [cst_length]; exact HL.out
      have fx := hblk.lim 0 (by omega)
      have zx := hblk.frozen 0
      have hu := cst_carry l 68719477761 (fun i => by have := HD.out i; omega) 5 (by rw [HL.out]; omega)
      have hb := cst_below l 5 0 (by omega) (by rw [HL.out]; omega)
      obtain ⟨lz, hlz⟩ : ∃ lz, carryN l = lz := ⟨_, rfl⟩
      have hcn : carryN l = (cst l 5).1.set 0 (dg (cst l 5).1 0 + 5 * (cst l 5).2) := rfl
      have HLz := Lib.hid (show lz.length = 5 by rw [← hlz, carryN_length]; exact HL.out)
      generalize (cst l 5).2 = u at hu hcn ⊢
      generalize hdd : dg (cst l 5).1 0 = d at fx hb hcn
      obtain ⟨v, hv⟩ : ∃ v, 5 * u = v := ⟨_, rfl⟩
      obtain ⟨s, hs⟩ : ∃ s, d + v = s := ⟨_, rfl⟩
      have hv1 : IntKind.u64.wrap (5 * (u : Int)) = (v : Int) := by rw [IntKind.wrap_u64]; omega
      have hs1 : IntKind.u64.wrap ((d : Int) + (v : Int)) = (s : Int) := by rw [IntKind.wrap_u64]; omega
      rw [hv, hs, hlz] at hcn
      have g1 := hblk.setLim 0 s
      rw [← hcn] at g1
      have HB := Lib.hid (show Blk (wr.setCell ⟨w.heap.size + 2, 0, none⟩ (.int .u64 (s : Int))) (w.heap.size + 2) 76 (lz.map lv) ∧ Blk (wr.setCell ⟨w.heap.size + 2, 0, none⟩ (.int .u64 (s : Int))) (w.heap.size + 1) 76 z5 ∧ Below w.heap.size w (wr.setCell ⟨w.heap.size + 2, 0, none⟩ (.int .u64 (s : Int))) from ⟨g1, hz.far (by simp) _, hbel.setCell (by dsimp only; omega) _⟩)
      have HZ := Lib.hid hlz
      obtain ⟨cz, hcz⟩ : ∃ cz, (lz.map lv).toArray = cz := ⟨_, rfl⟩
      have HCZ := Lib.hid hcz
      clear hblk hz hbel hcz hlz hlen hu hb hv hs g1 hcn hdd
      rw [show ((5 : Nat) : Int) = 5 from rfl]
      go_upto_region 11 with fail
      (try simp only [hv1, hs1])
      generalize wr.setCell ⟨w.heap.size + 2, 0, none⟩ (.int .u64 (s : Int)) = w3 at HB ⊢
      clear fx zx hs1 hv1
      go_wp2_with (first | (refine wpList_load_blk rfl 76 (.tmp 3) rfl (w.heap.size + 2) rfl 76 (lz.map lv) HB.out.1 5 51 Try.underlying76 (cells5 lz HLz.out) ?_; rw [HCZ.out]) | (refine wpList_store_blk rfl 76 (.tmp 2) (.tmp 32) rfl (w.heap.size + 1) (lz.map lv) rfl (by show Value.agg cz = _; rw [HCZ.out]) 76 z5 HB.out.2.1 (cells5 lz HLz.out) (by rw [List.length_map, HLz.out]; rfl) (lv_one _) ?_; intro w9 hb9 hg9))
      exact bodyPost_ret (results_blk rfl _ _ (w.heap.size + 1) 76 (lz.map lv) 5 51 rfl hb9 Try.underlying76 (cells5 lz HLz.out)) rfl ⟨by rw [HZ.out], below_blk HB.out.2.2 hg9 (by omega)⟩
end Go.Proofs.Ytkbefhmgcodpaaa
