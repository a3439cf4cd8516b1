/-
  The law's cut: at most twelve packets of at most twenty bytes. No statement is proved here.
-/
import Derived.Test.YtnmjcibhggchkaaStC
import Derived.Test.YtnmjcibhggchkaaCaseCut
import Derived.Test.YtnmjcibhggchkaaRtApp
import Derived.Test.YtnmjcibhggchkaaMinK
import Derived.Test.YtnmjcibhggchkaaBClone
import Derived.Test.YtnmjcibhggchkaaStU
import Derived.RegionTactic
import Derived.Deep.DeepCutAuto
namespace Go.Proofs.Ytnmjcibhggchkaa
open Go.RowKit

set_option maxRecDepth 100000 in
set_option maxHeartbeats 8000000 in
theorem st_cut_any (A : Option Addr) (n c : Nat) (ps : List Part) (w : World) (hnc : n ≤ c) (hr : PkRd w w.heap.size A n ps) :
    Calls Try.prog 5 #[.slice A n c] w fun e w' => ∃ A' n' c' qs, e = .returned (.slice A' n' c') ∧ PkRes w' A' n' c' qs ∧ n' ≤ 12 ∧ (∀ q ∈ qs, q.n ≤ 20) ∧ Below w.heap.size w w' := by
  obtain ⟨i0, hi, hz0, hz1, hz2⟩ := info_parts pksInfo
  have HI := Lib.hid (And.intro hi (And.intro hz0 (And.intro hz1 hz2)))
  obtain ⟨m, hm⟩ : ∃ z, min n 12 = z := ⟨_, rfl⟩
  have hmin : min (n : Int) 12 = (m : Int) := by omega
  have hmn : m ≤ n ∧ m ≤ 12 := by omega
  have hsl := fun W => pks_h (n := n) A c m hmn.1 hnc W
  have HR := Lib.hid (hr.ahead m c hmn.1)
  have HMIN := Lib.hid hmin
  have hm12 := hmn.2
  obtain ⟨A1, hA1⟩ : ∃ z, addrK A 0 c 1 = z := ⟨_, rfl⟩
  rw [hA1] at hsl HR
  obtain ⟨qs0, hq0⟩ : ∃ z, ps.take m = z := ⟨_, rfl⟩
  rw [hq0] at HR
  clear hi hz0 hz1 hz2 hm hmin hmn hr hA1 hq0
  go_enter Try.func5, Try.ntmps5
  go_upto_region 3 with (refine wpList_min_k rfl (.tmp 8) (.const (.int .i64 12)) _ rfl .i64 (n : Int) 12 (m : Int) rfl rfl HMIN.out ?_)
  clear hsl
  go_wp2_with fail
  go_loopw [12, 3] (fun i vo wr => ∃ (j : Nat) (qs : List Part), j ≤ m ∧ i = .int .i64 (j : Int) ∧ qs.length = j ∧ wr.ownsRow w.heap.size 23 1 vo j (pksV qs).flatten ∧ (∀ q ∈ qs, PkOk w w.heap.size q ∧ q.n ≤ 20) ∧ Below w.heap.size w wr) (fun i _ _ => m - (intOf i).toNat)
  case atStart => exact ⟨0, [], Nat.zero_le _, rfl, rfl, World.ownsRow_nil _ _ _ _, by simp, Below.refl _ _⟩
  case round =>
    obtain ⟨j, qs, hj, rfl, hq1, hown, hqs, hbel⟩ := hrel
    have HO := Lib.hid hown
    have HQS := Lib.hid hqs
    have HBEL := Lib.hid hbel
    have HQ1 := Lib.hid hq1
    by_cases hjm : j < m
    · have d1 : decide ((j : Int) < (m : Int)) = true := by simp; omega
      obtain ⟨b, off, rfl⟩ := HR.out.addr (by omega)
      obtain ⟨p, hp⟩ : ∃ p, qs0[j]? = some p := ⟨qs0[j]'(by rw [HR.out.len]; exact hjm), List.getElem?_eq_getElem _⟩
      have hft := ((HR.out.below hbel).at j p hp).2
      have HOK := Lib.hid (HR.out.ok hp)
      clear hp hq1 hown hqs hbel
      obtain ⟨k, hk⟩ : ∃ z, min p.n 20 = z := ⟨_, rfl⟩
      have HKN := Lib.hid (show k ≤ p.n ∧ k ≤ 20 from by omega)
      go_upto_region 5 with fail
      clear hft
      go_wp2_with fail
      refine (caseCut_any p.A p.n p.c 20 k (by omega) HOK.out.2.1 HOK.out.2.2 hk wr).mono ?_
      rintro e w3 ⟨rfl, hb3⟩
      have HBF := Lib.hid hb3
      have HBS := Lib.hid HBEL.out.size
      clear hb3 hk
      go_wp2_with (refine wpList_append_rows _ rfl (.tmp 16) (.tmp 19) 22 rfl w.heap.size 23 i0 _ 1 24 Try.underlying22 HI.out.1 HI.out.2.1 HI.out.2.2.1 HI.out.2.2.2 rfl (by omega) u3 j (pksV qs).flatten rfl (World.ownsRow.alloc (own_below HO.out HBF.out) (.cells #[.slice p.A k p.c] 23)) _ (some ⟨w3.heap.size, 0, none⟩) 1 1 (pksV [Part.mk p.A k p.c (p.l.take k)]) rfl (row_one w3 p.A k p.c (p.l.take k)) (pks_one _) (by unfold maxLen; omega) (by omega) (by have := HBF.out.size; have := HBS.out; simp only [World.alloc, Array.size_push]; omega) ?_; intro v6 w6 ho6 hg6 _)
      go_roundw
      case rel =>
        have hr3 := own_below HO.out HBF.out
        have hb4 : Below w3.heap.size w3 (w3.alloc (.cells #[.slice p.A k p.c] 23)) := (Below.refl _ _).alloc (Nat.le_refl _) _
        refine ⟨j + 1, qs ++ [Part.mk p.A k p.c (p.l.take k)], by omega, by go_num, by rw [List.length_append, HQ1.out]; rfl, by rw [← pksV_snoc]; exact ho6, fun q hq => ?_, (HBEL.out.trans ((HBF.out.mono HBS.out).trans (hb4.mono (Nat.le_trans HBS.out HBF.out.size)))).grown hg6 (Nat.le_trans HBS.out (Nat.le_trans HBF.out.size hb4.size)) (own_from hr3)⟩
        rcases List.mem_append.1 hq with h | h
        · exact HQS.out q h
        · rw [List.mem_singleton.1 h]
          exact ⟨⟨HOK.out.1.take HKN.out.1, Nat.le_trans HKN.out.1 HOK.out.2.1, HOK.out.2.2⟩, HKN.out.2⟩
      case measure => simp [intOf]; omega
    · obtain rfl : j = m := by omega
      have d1 : decide ((j : Int) < (j : Int)) = false := by simp
      obtain ⟨A9, c9, rfl, h9n, h9c, _⟩ := own_sliceK hown
      have HF := Lib.hid (show PkRes wr A9 j c9 qs from ⟨h9n, h9c, PkRd.of_own hq1 (fun q hq => ((hqs q hq).1.below hbel).mono hbel.size) hown⟩)
      clear hq1 hown hqs hbel
      go_wp2
      go_ret
      exact ⟨A9, j, c9, qs, rfl, HF.out, hm12, fun q hq => (HQS.out q hq).2, HBEL.out⟩
end Go.Proofs.Ytnmjcibhggchkaa
