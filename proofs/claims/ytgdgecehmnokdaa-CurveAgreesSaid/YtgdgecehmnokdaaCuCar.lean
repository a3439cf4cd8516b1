/-
  The contract of the reference's carried.
-/
import Derived.Test.YtgdgecehmnokdaaCuMem
namespace Go.Proofs.Ytgdgecehmnokdaa
open Go.RowKit

theorem cu_cells (l : List Int) (h : l.length = 16) : (Try.prog.info? 38).map (·.size) = some (l.map i64v).length := by
  rw [List.length_map, h]; kernel_rfl
/-- the digits when the first ones are carried -/
def carA (a : List Int) (x : Int) (r : List Int) : List Int := (Cu.chain a 0).1 ++ (x + (Cu.chain a 0).2) :: r

set_option maxRecDepth 100000 in
theorem refCarried_any (l : List Int) (hl : l.length = 16) (hb : Within 1125899906842624 l) (w : World) :
    Calls Try.prog 35 #[.agg (l.map i64v).toArray] w fun e w' => e = .returned (.agg ((Cu.carL l).map i64v).toArray) ∧ Below w.heap.size w w' := by
  obtain ⟨ca, hca⟩ : ∃ c, (l.map i64v).toArray = c := ⟨_, rfl⟩
  rw [hca]
  have HL := Lib.hid (And.intro hl hb)
  have HM := Lib.hid ((Mem.nil w).alloc rfl 38 ca (l.map i64v) hca.symm)
  clear hl hb hca
  go_enter Try.func35, Try.ntmps35
  go_upto_region 1 with fail
  have HA := Lib.hid (show Mem w [blkE (w.heap.size + 1) 38 (zd 16), blkE w.heap.size 38 (l.map i64v)] ((w.alloc (.cells ca 38)).alloc (.cells #[.int .i64 0, .int .i64 0, .int .i64 0, .int .i64 0, .int .i64 0, .int .i64 0, .int .i64 0, .int .i64 0, .int .i64 0, .int .i64 0, .int .i64 0, .int .i64 0, .int .i64 0, .int .i64 0, .int .i64 0, .int .i64 0] 38)) from HM.out.alloc (by simp) 38 #[.int .i64 0, .int .i64 0, .int .i64 0, .int .i64 0, .int .i64 0, .int .i64 0, .int .i64 0, .int .i64 0, .int .i64 0, .int .i64 0, .int .i64 0, .int .i64 0, .int .i64 0, .int .i64 0, .int .i64 0, .int .i64 0] (zd 16) rfl)
  clear HM
  generalize ((w.alloc (.cells ca 38)).alloc (.cells #[.int .i64 0, .int .i64 0, .int .i64 0, .int .i64 0, .int .i64 0, .int .i64 0, .int .i64 0, .int .i64 0, .int .i64 0, .int .i64 0, .int .i64 0, .int .i64 0, .int .i64 0, .int .i64 0, .int .i64 0, .int .i64 0] 38)) = w1 at HA ⊢
  go_wp2_with fail
  go_loopw [3, 4] (fun i _ wr => (∃ a x r, l = a ++ x :: r ∧ i = .int .i64 (a.length : Int) ∧ Mem w [blkE (w.heap.size + 1) 38 (zd 16), blkE w.heap.size 38 ((carA a x r).map i64v)] wr) ∨ (i = .int .i64 16 ∧ Mem w [blkE (w.heap.size + 1) 38 (zd 16), blkE w.heap.size 38 ((Cu.carL l).map i64v)] wr)) (fun i _ _ => 16 - (intOf i).toNat)
  case atStart =>
    left
    obtain ⟨hl, _⟩ := HL.out
    cases l with
    | nil => simp at hl
    | cons x r => exact ⟨[], x, r, rfl, rfl, by simpa [carA, Cu.chain] using HA.out⟩
  case round =>
    rcases hrel with ⟨a, x, r, hal, rfl, hM⟩ | ⟨rfl, hM⟩
    · have HM := Lib.hid hM
      clear hM HA
      have hlen : a.length + r.length = 15 := by
        have := HL.out.1
        rw [hal] at this
        simp only [List.length_append, List.length_cons] at this
        omega
      have hcl : (carA a x r).length = 16 := by
        simp only [carA, List.length_append, Cu.chain_length, List.length_cons]
        omega
      have hx := HL.out.2 x (by rw [hal]; simp)
      have hc := Cu.chain_bound 1125899906842624 (by omega) a 0 (fun y hy => HL.out.2 y (by rw [hal]; simp [hy])) (by omega) (by omega)
      have hy0 : (carA a x r).getD a.length 0 = x + (Cu.chain a 0).2 := by
        rw [carA, List.getD_eq_getElem?_getD, List.getElem?_append_right (by rw [Cu.chain_length]; omega), Cu.chain_length]
        simp
      obtain ⟨y, hy⟩ : ∃ y, x + (Cu.chain a 0).2 = y := ⟨_, rfl⟩
      rw [hy] at hy0
      have hyb : -2251799813685248 ≤ y ∧ y ≤ 2251799813685248 := by omega
      have fx := (HM.out.blk 1 rfl).dig a.length (by omega)
      rw [hy0] at fx
      have zx := (HM.out.blk 1 rfl).frozen a.length
      have hs := Lib.hid (And.intro hx hc)
      clear hx hc
      have hw1 : IntKind.i64.wrap (y / 65536 * 65536) = y / 65536 * 65536 := IntWalk.i64_in _ (by omega)
      have hw2 : IntKind.i64.wrap (y - y / 65536 * 65536) = y % 65536 := by rw [IntWalk.i64_in _ (by omega)]; omega
      go_upto_region 6 with fail
      have hset : (carA a x r).set a.length (y % 65536) = (Cu.chain a 0).1 ++ (y % 65536) :: r := by
        rw [carA, List.set_append_right _ _ (by rw [Cu.chain_length]; exact Nat.le_refl _), Cu.chain_length, Nat.sub_self, List.set_cons_zero]
      have hset2 : ((carA a x r).map i64v).set a.length (.int .i64 (y % 65536)) = ((Cu.chain a 0).1 ++ (y % 65536) :: r).map i64v := by rw [← hset, List.map_set]; rfl
      replace HM := Lib.hid (show Mem w [blkE (w.heap.size + 1) 38 (zd 16), blkE w.heap.size 38 (((Cu.chain a 0).1 ++ (y % 65536) :: r).map i64v)] (wr.setCell ⟨w.heap.size, a.length, none⟩ (.int .i64 (y % 65536))) from by have h := HM.out.setCell 1 rfl a.length (.int .i64 (y % 65536)); rw [hset2] at h; exact h)
      clear hset hset2 fx zx hw1 hw2 hy0 hcl
      generalize wr.setCell ⟨w.heap.size, a.length, none⟩ (.int .i64 (y % 65536)) = w2 at HM ⊢
      have hsnoc := Cu.chain_snoc a 0 x
      rw [hy] at hsnoc
      obtain ⟨k, hk⟩ : ∃ k, y / 65536 = k := ⟨_, rfl⟩
      rw [hk] at hsnoc ⊢
      have hkb : -34359738368 ≤ k ∧ k ≤ 34359738368 := by omega
      cases r with
      | cons x' r' =>
        have hlt : a.length < 15 := by simp only [List.length_cons] at hlen; omega
        have hx' := HL.out.2 x' (by rw [hal]; simp)
        have g0 : ((Cu.chain a 0).1 ++ (y % 65536) :: x' :: r').getD (a.length + 1) 0 = x' := by
          rw [List.getD_eq_getElem?_getD, List.getElem?_append_right (by rw [Cu.chain_length]; omega), Cu.chain_length, Nat.add_sub_cancel_left]
          simp
        have fx := (HM.out.blk 1 rfl).dig (a.length + 1) (by simp only [List.length_append, Cu.chain_length, List.length_cons]; omega)
        rw [g0] at fx
        have zx := (HM.out.blk 1 rfl).frozen (a.length + 1)
        have hset : ((Cu.chain a 0).1 ++ (y % 65536) :: x' :: r').set (a.length + 1) (x' + k) = carA (a ++ [x]) x' r' := by
          rw [carA, hsnoc, List.set_append_right _ _ (by rw [Cu.chain_length]; omega), Cu.chain_length, Nat.add_sub_cancel_left]
          simp
        have hset2 : (((Cu.chain a 0).1 ++ (y % 65536) :: x' :: r').map i64v).set (a.length + 1) (.int .i64 (x' + k)) = (carA (a ++ [x]) x' r').map i64v := by rw [← hset, List.map_set]; rfl
        have HN := Lib.hid (show Mem w [blkE (w.heap.size + 1) 38 (zd 16), blkE w.heap.size 38 ((carA (a ++ [x]) x' r').map i64v)] (w2.setCell ⟨w.heap.size, a.length + 1, none⟩ (.int .i64 (x' + k))) from by have h := HM.out.setCell 1 rfl (a.length + 1) (.int .i64 (x' + k)); rw [hset2] at h; exact h)
        have hal' : l = (a ++ [x]) ++ x' :: r' := by rw [hal]; simp
        clear hset hset2 hs hyb hk hsnoc HM hy g0
        go_wp2_with fail
        go_roundw
        case rel => exact .inl ⟨a ++ [x], x', r', hal', by rw [List.length_append]; go_num, HN.out⟩
        case measure => simp [intOf]; omega
      | nil =>
        have hlt : a.length = 15 := by simpa using hlen
        have hd0 : ((Cu.chain a 0).1 ++ [y % 65536]).length = 16 := by rw [List.length_append, Cu.chain_length, hlt]; rfl
        obtain ⟨d, q, hdq⟩ : ∃ d q, (Cu.chain a 0).1 ++ [y % 65536] = d :: q := by
          cases h : (Cu.chain a 0).1 ++ [y % 65536] with
          | nil => rw [h] at hd0; simp at hd0
          | cons d q => exact ⟨d, q, rfl⟩
        have hcar : Cu.carL l = (d + 38 * k) :: q := by
          unfold Cu.carL
          rw [hal, hsnoc, hdq]
        have hdd : 0 ≤ d ∧ d ≤ 65535 := by
          have := Cu.chain_digit l 0 d (by rw [hal, hsnoc, hdq]; simp)
          exact this
        rw [hdq] at HM
        have fx := (HM.out.blk 1 rfl).dig 0 (by simp)
        rw [List.getD_cons_zero] at fx
        have zx := (HM.out.blk 1 rfl).frozen 0
        have hw1 : IntKind.i64.wrap (38 * k) = 38 * k := IntWalk.i64_in _ (by omega)
        have hw2 : IntKind.i64.wrap (d + 38 * k) = d + 38 * k := IntWalk.i64_in _ (by omega)
        have HN := Lib.hid (show Mem w [blkE (w.heap.size + 1) 38 (zd 16), blkE w.heap.size 38 ((Cu.carL l).map i64v)] (w2.setCell ⟨w.heap.size, 0, none⟩ (.int .i64 (d + 38 * k))) from by rw [hcar]; exact HM.out.setCell 1 rfl 0 (.int .i64 (d + 38 * k)))
        clear hsnoc hdq hcar hs hyb HM hy hk
        go_wp2_with fail
        go_roundw
        case rel => exact .inr ⟨by first | rfl | (rw [hlt]; rfl), HN.out⟩
        case measure => simp [intOf]; omega
    · have HM := Lib.hid hM
      clear hM HA
      have HLz := Lib.hid (show (Cu.carL l).length = 16 by rw [Cu.carL_length]; exact HL.out.1)
      obtain ⟨lz, hlz⟩ : ∃ z, Cu.carL l = z := ⟨_, rfl⟩
      rw [hlz] at HM HLz
      have HSZ := Lib.hid hlz
      clear hlz
      obtain ⟨cz, hcz⟩ : ∃ c, (lz.map i64v).toArray = c := ⟨_, rfl⟩
      have HCZ := Lib.hid hcz
      clear hcz
      go_wp2_with (first | (refine wpList_load_blk rfl 38 (.tmp 1) rfl w.heap.size rfl 38 (lz.map i64v) (HM.out.blk 1 rfl) 16 2 Try.underlying38 (cu_cells lz HLz.out) ?_; rw [HCZ.out]) | (refine wpList_store_blk rfl 38 (.tmp 2) (.tmp 35) rfl (w.heap.size + 1) (lz.map i64v) rfl (by show Value.agg cz = _; rw [HCZ.out]) 38 (zd 16) (HM.out.blk 0 rfl) (cu_cells lz HLz.out) (by rw [List.length_map, HLz.out]; rfl) (i64v_one _) ?_; intro w9 hb9 hg9))
      exact bodyPost_ret (results_blk rfl _ _ (w.heap.size + 1) 38 (lz.map i64v) 16 2 rfl hb9 Try.underlying38 (cu_cells lz HLz.out)) rfl ⟨by rw [HSZ.out], (HM.out.put 0 rfl _ hg9 hb9).bel⟩
end Go.Proofs.Ytgdgecehmnokdaa
