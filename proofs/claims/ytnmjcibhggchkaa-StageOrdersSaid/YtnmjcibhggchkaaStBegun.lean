/-
  The laws' sanity check. No statement is proved here.
-/
import Derived.Test.YtnmjcibhggchkaaStC
import Derived.RegionTactic
import Derived.Deep.DeepCutAuto
namespace Go.Proofs.Ytnmjcibhggchkaa
open Go.RowKit

set_option maxRecDepth 100000 in
set_option maxHeartbeats 8000000 in
theorem st_begun_any (HP : StPushC 8) (w : World) :
    Calls Try.prog 15 #[] w fun e w' => e = .returned (.bool true) ∧ Below w.heap.size w w' := by
  have HPH := Lib.hid HP
  clear HP
  go_enter Try.func15, Try.ntmps15
  go_upto_region 1 with fail
  have h1 := (Lows.nil w).alloc 5 #[.int .u8 1] ([1].map u8v) rfl
  obtain ⟨w1, hw1⟩ : ∃ z, w.alloc (.cells #[.int .u8 1] 5) = z := ⟨_, rfl⟩
  rw [hw1] at h1
  have h2 := h1.alloc 5 #[.int .u8 2] ([2].map u8v) rfl
  obtain ⟨w2, hw2⟩ : ∃ z, w1.alloc (.cells #[.int .u8 2] 5) = z := ⟨_, rfl⟩
  rw [hw2] at h2
  obtain ⟨g1, hg1⟩ : ∃ z, w.heap.size = z := ⟨_, rfl⟩
  have hs1 : w1.heap.size = g1 + 1 := by rw [← hw1, ← hg1]; simp
  have hs2 : w2.heap.size = g1 + 1 + 1 := by rw [← hw2, ← hs1]; simp
  rw [hg1, hs1] at h2
  have h3 := h2.alloc 23 #[.slice (some ⟨g1, 0, none⟩) 1 1, .slice (some ⟨g1 + 1, 0, none⟩) 1 1] ([Part.mk (some ⟨g1, 0, none⟩) 1 1 [1], Part.mk (some ⟨g1 + 1, 0, none⟩) 1 1 [2]].map pkV) rfl
  obtain ⟨w3, hw3⟩ : ∃ z, w2.alloc (.cells #[.slice (some ⟨g1, 0, none⟩) 1 1, .slice (some ⟨g1 + 1, 0, none⟩) 1 1] 23) = z := ⟨_, rfl⟩
  rw [hw3] at h3
  have hs3 : w3.heap.size = g1 + 1 + 1 + 1 := by rw [← hw3, ← hs2]; simp
  rw [hs2] at h3
  have h4 := h3.alloc 5 #[.int .u8 3] ([3].map u8v) rfl
  obtain ⟨w4, hw4⟩ : ∃ z, w3.alloc (.cells #[.int .u8 3] 5) = z := ⟨_, rfl⟩
  rw [hw4] at h4
  rw [hs3] at h4
  have HM := Lib.hid h4
  have rd1 : ∀ (g : Nat) (x : UInt8) (W : World), Blk W g 5 ([x].map u8v) → PkOk W W.heap.size (Part.mk (some ⟨g, 0, none⟩) 1 1 [x]) := fun g x W h => ⟨(h.rd 0 1 (by simp)).mono h.lt, Nat.le_refl _, by show 1 ≤ maxLen; unfold maxLen; omega⟩
  have HARG := Lib.hid (show PkArg w4 (some ⟨g1 + 1 + 1, 0, none⟩) 2 2 [Part.mk (some ⟨g1, 0, none⟩) 1 1 [1], Part.mk (some ⟨g1 + 1, 0, none⟩) 1 1 [2]] from
    ⟨Nat.le_refl _, by unfold maxLen; omega, by omega, PkRd.of_blk (h4.blk 1 rfl) rfl (fun q hq => by
      simp only [List.mem_cons, List.not_mem_nil, or_false] at hq
      rcases hq with rfl | rfl
      · exact rd1 _ _ _ (h4.blk 3 rfl)
      · exact rd1 _ _ _ (h4.blk 2 rfl)), fun q hq => by
      simp only [List.mem_cons, List.not_mem_nil, or_false] at hq
      rcases hq with rfl | rfl <;> exact (show 1 ≤ 100000 by omega)⟩)
  have HPK := Lib.hid (rd1 (g1 + 1 + 1 + 1) 3 w4 (h4.blk 0 rfl))
  have HW := Lib.hid (And.intro hw1 (And.intro hw2 (And.intro hw3 (And.intro hw4 hg1))))
  clear hw1 hw2 hw3 hw4 hg1 hs1 hs2 hs3 h1 h2 h3 h4 rd1
  go_wp2_with fail
  rw [HW.out.2.2.2.2, HW.out.1, HW.out.2.1, HW.out.2.2.1, HW.out.2.2.2.1]
  refine (HPH.out _ 2 2 _ 2 _ w4 HARG.out HPK.out (show 1 ≤ 100000 by omega) (by omega) (by omega)).mono ?_
  rintro e w5 ⟨A5, n5, c5, qs, he, hres, hq, hb⟩
  have hpm : pushM (psB [Part.mk (some ⟨g1, 0, none⟩) 1 1 [1], Part.mk (some ⟨g1 + 1, 0, none⟩) 1 1 [2]]) 2 (Part.mk (some ⟨g1 + 1 + 1 + 1, 0, none⟩) 1 1 [3]).l = ([[2], [3]], 1) := rfl
  rw [hpm] at he hq
  subst he
  have hl := hres.len
  rw [hq] at hl
  have hl2 : n5 = 2 := by simpa using hl.symm
  subst hl2
  obtain ⟨q1, q2, rfl⟩ : ∃ q1 q2, qs = [q1, q2] := by
    have h := hres.2.2.len
    match qs, h with
    | [a, b], _ => exact ⟨a, b, rfl⟩
  simp only [psB, List.map_cons, List.map_nil, List.cons.injEq, and_true] at hq
  obtain ⟨b, off, rfl⟩ := hres.2.2.addr (by omega)
  have f1 := (hres.2.2.at 0 q1 rfl).2
  rw [Nat.add_zero] at f1
  have f2 := (hres.2.2.at 1 q2 rfl).2
  have r1 := (hres.2.2.ok (i := 0) (p := q1) rfl).1
  have r2 := (hres.2.2.ok (i := 1) (p := q2) rfl).1
  rw [hq.1] at r1
  rw [hq.2] at r2
  have cv1 := show (convert 23 9 (.slice q1.A q1.n q1.c)).run Try.prog w5 = .ok (.string ⟨([2]).toArray⟩) w5 from run_string_of_rd (P := Try.prog) 23 9 5 q1.c Try.underlying23 Try.underlying5 Try.underlying9 (r1)
  have cv2 := show (convert 23 9 (.slice q2.A q2.n q2.c)).run Try.prog w5 = .ok (.string ⟨([3]).toArray⟩) w5 from run_string_of_rd (P := Try.prog) 23 9 5 q2.c Try.underlying23 Try.underlying5 Try.underlying9 (r2)
  have HB := Lib.hid (HM.out.bel.trans (hb.mono HM.out.size))
  clear hl hq hres r1 r2 hb HM hpm HARG HPK HW HPH
  go_wp2
  go_ret
  exact ⟨rfl, HB.out⟩
end Go.Proofs.Ytnmjcibhggchkaa
