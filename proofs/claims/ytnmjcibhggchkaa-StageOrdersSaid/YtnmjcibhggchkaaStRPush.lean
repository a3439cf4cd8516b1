/-
  The contract of the reference's Push. No statement is proved here.
-/
import Derived.Test.YtnmjcibhggchkaaStU
import Derived.Test.YtnmjcibhggchkaaRtApp
import Derived.Test.YtnmjcibhggchkaaMinK
import Derived.Test.YtnmjcibhggchkaaMaxInt
import Derived.Test.YtnmjcibhggchkaaBClone
import Derived.RegionTactic
import Derived.Deep.DeepCutAuto
namespace Go.Proofs.Ytnmjcibhggchkaa
open Go.RowKit

theorem World.heap_size_alloc' (w : World) (o : Obj) : (w.alloc o).heap.size = w.heap.size + 1 := by simp
set_option maxRecDepth 100000 in
set_option maxHeartbeats 8000000 in
theorem refStPushC : StPushC 9 := by
  intro A n c ps cap p w ha hp hps hc1 hc2
  obtain ⟨i0, hi, hz0, hz1, hz2⟩ := info_parts pksInfo
  obtain ⟨i1, ui, uz0, uz1, uz2⟩ := info_parts Try.info5
  have HI := Lib.hid (And.intro hi (And.intro hz0 (And.intro hz1 hz2)))
  have HU := Lib.hid (And.intro ui (And.intro uz0 (And.intro uz1 uz2)))
  have HA := Lib.hid ha
  have HP := Lib.hid hp
  have hfew := ha.few
  obtain ⟨k, hk⟩ : ∃ z, (max cap 0).toNat = z := ⟨_, rfl⟩
  have hmax : max cap 0 = (k : Int) := by omega
  obtain ⟨m, hm⟩ : ∃ z, n + 1 = z := ⟨_, rfl⟩
  obtain ⟨out, hout⟩ : ∃ z, m - k = z := ⟨_, rfl⟩
  obtain ⟨d, hd⟩ : ∃ z, (m : Int) - (k : Int) = z := ⟨_, rfl⟩
  have hmax2 : max d 0 = (out : Int) := by omega
  have w1' : IntKind.i64.wrap d = d := by rw [IntKind.wrap_i64]; omega
  have HMM := Lib.hid (show out ≤ m ∧ m ≤ 1001 from by omega)
  have HPM := Lib.hid (show pushM (psB ps) cap p.l = ((psB (ps ++ [p])).drop out, out) from by
    have h1 : (psB ps ++ [p.l]) = psB (ps ++ [p]) := by simp [psB]
    have h2 : (psB (ps ++ [p])).length = n + 1 := by rw [psB_len, List.length_append, ha.rd.len]; rfl
    rw [pushM, hk, h1, h2, hm, hout])
  have HM1 := Lib.hid hm
  have HMAX := Lib.hid hmax
  have HMAX2 := Lib.hid hmax2
  have HD := Lib.hid hd
  have HW1 := Lib.hid w1'
  rw [HPM.out]
  obtain ⟨pn, hpn⟩ : ∃ z, p.n = z := ⟨_, rfl⟩
  obtain ⟨pc, hpc⟩ : ∃ z, p.c = z := ⟨_, rfl⟩
  obtain ⟨pA, hpA⟩ : ∃ z, p.A = z := ⟨_, rfl⟩
  have HPR := Lib.hid (show Rd w w.heap.size pA pn p.l ∧ pn ≤ 100000 from by rw [← hpA, ← hpn]; exact ⟨hp.1, hps⟩)
  rw [hpn, hpc, hpA]
  clear hpn hpc hpA hi hz0 hz1 hz2 ui uz0 uz1 uz2 ha hp hps hc1 hc2 hk hout hm hmax hmax2 hd w1' HP
  go_enter Try.func9, Try.ntmps9
  go_upto_region 3 with fail
  go_wp2_with fail
  go_loopw [14, 8] (fun i vo wr => ∃ (j : Nat) (qs : List Part), j ≤ n ∧ i = .int .i64 (j : Int) ∧ qs.length = j ∧ psB qs = psB (ps.take j) ∧ wr.ownsRow w.heap.size 23 1 vo j (pksV qs).flatten ∧ (∀ q ∈ qs, PkU wr q) ∧ Below w.heap.size w wr) (fun i _ _ => n - (intOf i).toNat)
  case atStart => exact ⟨0, [], Nat.zero_le _, rfl, rfl, by rw [List.take_zero], World.ownsRow_nil _ _ _ _, by simp, Below.refl _ _⟩
  case round =>
    obtain ⟨j, qs, hj, rfl, hq1, hq2, hown, hqs, hbel⟩ := hrel
    have HO := Lib.hid hown
    have HQS := Lib.hid hqs
    have HBEL := Lib.hid hbel
    have HBS := Lib.hid hbel.size
    have HQ1 := Lib.hid hq1
    by_cases hjn : j < n
    · have d1 : decide ((j : Int) < (n : Int)) = true := by simp; omega
      obtain ⟨b, off, rfl⟩ := HA.out.rd.addr (by omega)
      obtain ⟨p, hp⟩ : ∃ p, ps[j]? = some p := ⟨ps[j]'(by rw [HA.out.rd.len]; exact hjn), List.getElem?_eq_getElem _⟩
      have hft := ((HA.out.rd.below hbel).at j p hp).2
      have HOK := Lib.hid (show PkOk wr wr.heap.size p from ((HA.out.rd.below hbel).ok hp).mono hbel.size)
      have hps : p.n ≤ 100000 := HA.out.small p (List.mem_of_getElem? hp)
      have HQ := Lib.hid (show psB (ps.take (j + 1)) = psB qs ++ [p.l] from by rw [take_snoc hp, hq2]; simp [psB])
      have hRD := HOK.out.1
      obtain ⟨xn, hxn⟩ : ∃ z, p.n = z := ⟨_, rfl⟩
      rw [hxn] at hps hft hRD
      have HRD := Lib.hid (hRD.alloc (Nat.le_refl _) (.cells #[] 5))
      clear hp hq1 hq2 hown hqs hbel hxn hRD
      go_upto_region 5 with fail
      clear hft
      go_wp2_with (first | (refine wpList_append_rd _ rfl (.tmp 19) (.tmp 20) 23 rfl wr.heap.size 5 i1 (.int .u8 0) Try.underlying23 HU.out.1 HU.out.2.1 HU.out.2.2.1 HU.out.2.2.2 rfl (.slice (some ⟨wr.heap.size, 0, none⟩) 0 0) 0 [] rfl (World.ownsRow_lit (base := wr.heap.size) (e := 5) (size := 1) wr #[] 0 (Nat.le_refl _) (by simp) rfl) _ p.A xn p.c p.l rfl (HRD.out) (by omega) (by simp) ?_; intro v1 w3 hown1 hg1; rw [Nat.zero_add, List.nil_append] at hown1; obtain ⟨A5, c5, rfl, _⟩ := own_slice hown1; have HBF := Lib.hid (below_fresh (o := .cells #[] 5) hg1); have HPU := Lib.hid (PkU.of_own hown1); clear hown1 hg1) | (refine wpList_append_rows _ rfl (.tmp 18) (.tmp 22) 22 rfl w.heap.size 23 i0 _ 1 24 Try.underlying22 HI.out.1 HI.out.2.1 HI.out.2.2.1 HI.out.2.2.2 rfl (by omega) u8 j (pksV qs).flatten rfl (World.ownsRow.alloc (own_below HO.out HBF.out) (.cells #[.slice A5 xn c5] 23)) _ (some ⟨w3.heap.size, 0, none⟩) 1 1 (pksV [Part.mk A5 xn c5 p.l]) rfl (row_one w3 A5 xn c5 p.l) (pks_one _) (by unfold maxLen; omega) (by omega) (by rw [World.heap_size_alloc']; have := HBF.out.size; have := HBS.out; omega) ?_; intro v6 w6 ho6 hg6 _))
      go_roundw
      case rel =>
        have hr3 := own_below HO.out HBF.out
        have hb4 : Below w3.heap.size w3 (w3.alloc (.cells #[.slice A5 xn c5] 23)) := (Below.refl _ _).alloc (Nat.le_refl _) _
        refine ⟨j + 1, qs ++ [Part.mk A5 xn c5 p.l], by omega, by go_num, by rw [List.length_append, HQ1.out]; rfl, by rw [HQ.out]; simp [psB], by rw [← pksV_snoc]; exact ho6, fun q hq => ?_, (HBEL.out.trans ((HBF.out.mono HBS.out).trans (hb4.mono (Nat.le_trans HBS.out HBF.out.size)))).grown hg6 (Nat.le_trans HBS.out (Nat.le_trans HBF.out.size hb4.size)) (own_from hr3)⟩
        refine PkU.grown ?_ (World.ownsRow.alloc hr3 _) hg6
        rcases List.mem_append.1 hq with h | h
        · exact ((HQS.out q h).below HBF.out).below hb4
        · rw [List.mem_singleton.1 h]
          exact HPU.out.below hb4
      case measure => simp [intOf]; omega
    · obtain rfl : j = n := by omega
      have d1 : decide ((j : Int) < (j : Int)) = false := by simp
      have HQ2 := Lib.hid (show psB qs = psB ps from by rw [hq2, List.take_of_length_le (by rw [HA.out.rd.len]; exact Nat.le_refl _)])
      have HRD := Lib.hid ((((HPR.out.1.below hbel).mono hbel.size)).alloc (Nat.le_refl _) (.cells #[] 5))
      have hps := HPR.out.2
      clear hq1 hq2 hown hqs hbel
      go_upto_region 7 with fail
      go_upto_region 8 with (first | (refine wpList_append_rd _ rfl (.tmp 26) (.tmp 27) 23 rfl wr.heap.size 5 i1 (.int .u8 0) Try.underlying23 HU.out.1 HU.out.2.1 HU.out.2.2.1 HU.out.2.2.2 rfl (.slice (some ⟨wr.heap.size, 0, none⟩) 0 0) 0 [] rfl (World.ownsRow_lit (base := wr.heap.size) (e := 5) (size := 1) wr #[] 0 (Nat.le_refl _) (by simp) rfl) _ pA pn pc p.l rfl (HRD.out) (by omega) (by simp) ?_; intro v1 w3 hown1 hg1; rw [Nat.zero_add, List.nil_append] at hown1; obtain ⟨A5, c5, rfl, _⟩ := own_slice hown1; have HBF := Lib.hid (below_fresh (o := .cells #[] 5) hg1); have HPU := Lib.hid (PkU.of_own hown1); clear hown1 hg1) | (refine wpList_append_rows _ rfl (.tmp 25) (.tmp 29) 22 rfl w.heap.size 23 i0 _ 1 24 Try.underlying22 HI.out.1 HI.out.2.1 HI.out.2.2.1 HI.out.2.2.2 rfl (by omega) u8 j (pksV qs).flatten rfl (World.ownsRow.alloc (own_below HO.out HBF.out) (.cells #[.slice A5 pn c5] 23)) _ (some ⟨w3.heap.size, 0, none⟩) 1 1 (pksV [Part.mk A5 pn c5 p.l]) rfl (row_one w3 A5 pn c5 p.l) (pks_one _) (by unfold maxLen; omega) (by omega) (by rw [World.heap_size_alloc']; have := HBF.out.size; have := HBS.out; omega) ?_; intro v6 w6 ho6 hg6 _))
      have hr3 := own_below HO.out HBF.out
      have hb4 : Below w3.heap.size w3 (w3.alloc (.cells #[.slice A5 pn c5] 23)) := (Below.refl _ _).alloc (Nat.le_refl _) _
      have HALL := Lib.hid (show ∀ q ∈ qs ++ [Part.mk A5 pn c5 p.l], PkU w6 q from fun q hq => by
        refine PkU.grown ?_ (World.ownsRow.alloc hr3 _) hg6
        rcases List.mem_append.1 hq with h | h
        · exact ((HQS.out q h).below HBF.out).below hb4
        · rw [List.mem_singleton.1 h]
          exact HPU.out.below hb4)
      have HBL := Lib.hid (show Below w.heap.size w w6 from (HBEL.out.trans ((HBF.out.mono HBS.out).trans (hb4.mono (Nat.le_trans HBS.out HBF.out.size)))).grown hg6 (Nat.le_trans HBS.out (Nat.le_trans HBF.out.size hb4.size)) (own_from hr3))
      rw [pksV_snoc, HM1.out] at ho6
      obtain ⟨A9, c9, rfl, h9n, h9c, _⟩ := own_sliceK ho6
      have HR := Lib.hid (PkRd.of_own (by rw [List.length_append, HQ1.out]; exact HM1.out) (fun q hq => (HALL.out q hq).1) ho6)
      have H9 := Lib.hid (And.intro h9n h9c)
      have HQ3 := Lib.hid (show psB (qs ++ [Part.mk A5 pn c5 p.l]) = psB (ps ++ [p]) from by
        have h := HQ2.out
        simp only [psB, List.map_append] at h ⊢
        rw [h]
        rfl)
      clear ho6 hg6 hr3 hb4 HO HQS HBF HPU HRD hps h9n h9c
      have hd := HD.out
      have w1' := HW1.out
      go_upto_region 9 with (first | refine wpList_max_k rfl (.tmp 33) (.const (.int .i64 0)) _ rfl .i64 cap 0 (k : Int) rfl rfl HMAX.out ?_ | refine wpList_max_k rfl (.tmp 35) (.const (.int .i64 0)) _ rfl .i64 d 0 (out : Int) rfl rfl HMAX2.out ?_)
      clear hd w1'
      have hsl := fun W => pks_l A9 m c9 out HMM.out.1 W
      have HF := Lib.hid (show PkRes w6 (addrK A9 out c9 1) (m - out) (c9 - out) ((qs ++ [Part.mk A5 pn c5 p.l]).drop out) from ⟨by have := HMM.out; have := H9.out; omega, Nat.le_trans (Nat.sub_le _ _) H9.out.2, HR.out.behind out c9 HMM.out.1 H9.out.1⟩)
      have HQ4 := Lib.hid (show psB ((qs ++ [Part.mk A5 pn c5 p.l]).drop out) = (psB (ps ++ [p])).drop out from by rw [← HQ3.out, psB, psB, List.map_drop])
      go_wp2
      go_ret2
      exact ⟨_, _, _, _, rfl, HF.out, HQ4.out, HBL.out⟩
end Go.Proofs.Ytnmjcibhggchkaa
