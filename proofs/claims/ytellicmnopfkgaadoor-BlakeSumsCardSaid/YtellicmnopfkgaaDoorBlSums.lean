/-
  BlakeSums returns true for every input, and changes nothing that was there: the walk, over what is asked of blake.Sum and Hash.
-/
import Derived.Test.YtellicmnopfkgaaDoorBlHash
import Derived.Test.YtellicmnopfkgaaDoorBlBegun
import Derived.Test.YtellicmnopfkgaaDoorBlUse
import Derived.Test.YtellicmnopfkgaaDoorCut
import Derived.Test.YtellicmnopfkgaaDoorModOf
import Derived.Test.YtellicmnopfkgaaDoorBlBegun6
namespace Go.Proofs.YtellicmnopfkgaaDoor
open Go.RowKit

theorem bl_sconv {w : World} {B n : Nat} {A : Option Addr} {l : List UInt8} (h : Rd w B A n l) (c : Nat) : (convert 22 9 (.slice A n c)).run Tryd.prog w = .ok (.string ⟨l.toArray⟩) w :=
  run_string_of_rd (P := Tryd.prog) 22 9 5 c Tryd.underlying22 Tryd.underlying5 Tryd.underlying9 h

set_option maxRecDepth 100000 in
set_option maxHeartbeats 16000000 in
theorem bl_sums_walk (HS : BlSumC) (HH : BlHashC) (w : World) (hlv : LvBlake w) (size : Int) (Ak : Option Addr) (nk ck : Nat) (lk : List UInt8) (Ad : Option Addr) (nd cd : Nat) (ld : List UInt8) (ia : Nat) (hsz : -9223372036854775808 ≤ size ∧ size ≤ 9223372036854775807) (hkc : nk ≤ ck) (hkm : ck ≤ maxLen) (hrk : Rd w w.heap.size Ak nk lk) (hdc : nd ≤ cd) (hdm : cd ≤ maxLen) (hrd : Rd w w.heap.size Ad nd ld) (hia : ia ≤ 255) :
    Calls Tryd.prog 3 #[.int .i64 size, .slice Ak nk ck, .slice Ad nd cd, .int .u8 (ia : Int)] w fun e w' => e = .returned (.bool true) ∧ Below w.heap.size w w' := by
  obtain ⟨i0, hi, hz0, hz1, hz2⟩ := info_parts Tryd.info5
  have HM := Lib.hid (Mem.nil w)
  have HK := Lib.hid hrk
  have HD := Lib.hid hrd
  have HSC := Lib.hid HS
  have HLV := Lib.hid hlv
  clear hlv
  have HBG := Lib.hid (bl_begun_any HH)
  clear hrk hrd HS HH
  go_enter Tryd.func3, Tryd.ntmps3
  go_wp2_with fail
  refine (cut_any _ Ak nk ck 40 lk hkc hkm _ (HK.out.below HM.out.bel)).mono ?_
  rintro e wc ⟨rfl, hcut, rfl⟩
  clear hcut
  go_wp2_with fail
  refine (cut_any _ Ad nd cd 300 ld hdc hdm _ (HD.out.below HM.out.bel)).mono ?_
  rintro e wc ⟨rfl, hcut, rfl⟩
  clear hcut
  obtain ⟨kn, hkn⟩ : ∃ n, min nk 40 = n := ⟨_, rfl⟩
  obtain ⟨dn, hdn⟩ : ∃ n, min nd 300 = n := ⟨_, rfl⟩
  have k1 : kn ≤ ck := by omega
  have k2 : kn ≤ 40 := by omega
  have d1 : dn ≤ cd := by omega
  have d2 : dn ≤ 300 := by omega
  replace HK := Lib.hid (HK.out.take (m := kn) (by omega))
  replace HD := Lib.hid (HD.out.take (m := dn) (by omega))
  rw [hkn, hdn]
  clear hkn hdn
  generalize lk.take kn = kl at HK
  generalize ld.take dn = dl at HD
  obtain ⟨en, hen⟩ : ∃ n, ia / 64 * 64 = n := ⟨_, rfl⟩
  have en2 : en ≤ 255 := by omega
  go_upto_region 3 with (refine wpList_make_full _ rfl (.tmp 27) (.tmp 27) 22 rfl w.heap.size 5 i0 (.int .u8 0) 1 Tryd.underlying22 hi hz0 hz1 .i64 .i64 _ _ en rfl rfl (by first | omega | (rw [IntKind.wrap_i64]; omega)) (by first | omega | (rw [IntKind.wrap_i64]; omega)) (by rw [hz2]; omega) (by unfold maxLen; omega) (Nat.le_refl _) ?_; intro w1 hown1 hg1)
  rw [show (Value.int IntKind.u8 0).cells = #[.int .u8 0] from rfl, toList_madeCells_one, Nat.mul_one, show List.replicate en (Value.int IntKind.u8 0) = (List.replicate en (0 : UInt8)).map u8v by rw [List.map_replicate]; rfl] at hown1
  replace HM := Lib.hid (show Mem w [rdE w.heap.size w1.heap.size (some ⟨w.heap.size, 0, none⟩) en (List.replicate en 0)] w1 from HM.out.callRd ((Below.refl _ _).grown hg1 (Nat.le_refl _) (by simp)) hown1)
  clear hown1 hg1
  go_wp2_with fail
  rw [show (34 : Int) = ((34 : Nat) : Int) from rfl]
  refine (mod_any size 34 (by omega) (by omega) _).mono ?_
  rintro e w2 ⟨rfl, rfl⟩
  obtain ⟨s2, hs2⟩ : ∃ s, size % ((34 : Nat) : Int) = s := ⟨_, rfl⟩
  have hb2 : 0 ≤ s2 ∧ s2 < 34 := by omega
  rw [hs2]
  clear hs2
  go_wp2_with fail
  replace HM := Lib.hid (show Mem w [blkE w1.heap.size 3 [Value.int .i64 size, .int .i64 s2], rdE w.heap.size w1.heap.size (some ⟨w.heap.size, 0, none⟩) en (List.replicate en 0)] (w1.alloc (.cells #[Value.int .i64 size, .int .i64 s2] 3)) from HM.out.alloc rfl 3 #[Value.int .i64 size, .int .i64 s2] [Value.int .i64 size, .int .i64 s2] rfl)
  have HI := Lib.hid (show ∀ a, a < 2 → ∃ s : Int, (-9223372036854775808 ≤ s ∧ s ≤ 9223372036854775807) ∧ ∀ W : World, Blk W w1.heap.size 3 [Value.int .i64 size, .int .i64 s2] → W.cell? ⟨w1.heap.size, a, none⟩ = some (.int .i64 s) by
    intro a ha
    match a, ha with
    | 0, _ => exact ⟨size, hsz, fun W hb => by rw [hb.cell]; rfl⟩
    | 1, _ => exact ⟨s2, by omega, fun W hb => by rw [hb.cell]; rfl⟩
    | a + 2, ha => exact absurd ha (by omega))
  obtain ⟨em, hem⟩ : ∃ n, en - 1 = n := ⟨_, rfl⟩
  have m1 : (if (0 : Int) < (en : Int) - 1 then (en : Int) - 1 else 0) = (em : Int) := by split <;> omega
  have m2 : IntKind.i64.wrap ((en : Int) - 1) = (en : Int) - 1 := IntWalk.i64_in _ (by omega)
  have m3 : (if (en : Int) - 1 < 0 then (0 : Int) else (en : Int) - 1) = (em : Int) := by split <;> omega
  have m4 : (if (1 : Int) < (en : Int) then (en : Int) - 1 else 0) = (em : Int) := by split <;> omega
  have m5 : (if (en : Int) ≤ 1 then (0 : Int) else (en : Int) - 1) = (em : Int) := by split <;> omega
  have m6 : (if 1 < en then (en : Int) - 1 else 0) = (em : Int) := by split <;> omega
  have m7 : (if en ≤ 1 then (0 : Int) else (en : Int) - 1) = (em : Int) := by split <;> omega
  have hem2 : em ≤ en := by omega
  generalize w1.alloc (.cells #[Value.int .i64 size, .int .i64 s2] 3) = w3 at HM ⊢
  generalize hQ : w1.heap.size = Q at HM HI ⊢
  clear hQ
  go_loopw [34] (fun c wr => ∃ a : Nat, a ≤ 2 ∧ c = .int .i64 (a : Int) ∧ Mem w [blkE Q 3 [Value.int .i64 size, .int .i64 s2], rdE w.heap.size Q (some ⟨w.heap.size, 0, none⟩) en (List.replicate en 0)] wr) (fun c _ => 2 - (intOf c).toNat)
  case atStart => exact ⟨0, by omega, rfl, HM.out⟩
  case round =>
    clear HM
    obtain ⟨a, ha, rfl, hM⟩ := hrel
    have HM := Lib.hid hM
    clear hM
    by_cases ha2 : a < 2
    · have da : decide ((a : Int) < 2) = true := by simp; omega
      obtain ⟨s, hs, hc⟩ := HI.out a ha2
      have fx := hc _ (HM.out.blk 0 rfl)
      clear hc
      go_upto_region 7 with fail
      clear fx
      replace HM := Lib.hid (show Mem w [blkE wr.heap.size 22 [Value.slice Ad dn cd, .slice (some ⟨w.heap.size, 0, none⟩) en en, .slice (some ⟨w.heap.size, 0, none⟩) em en], blkE Q 3 [Value.int .i64 size, .int .i64 s2], rdE w.heap.size Q (some ⟨w.heap.size, 0, none⟩) en (List.replicate en 0)] (wr.alloc (.cells #[Value.slice Ad dn cd, .slice (some ⟨w.heap.size, 0, none⟩) en en, .slice (some ⟨w.heap.size, 0, none⟩) em en] 22)) from HM.out.alloc rfl 22 #[Value.slice Ad dn cd, .slice (some ⟨w.heap.size, 0, none⟩) en en, .slice (some ⟨w.heap.size, 0, none⟩) em en] [Value.slice Ad dn cd, .slice (some ⟨w.heap.size, 0, none⟩) en en, .slice (some ⟨w.heap.size, 0, none⟩) em en] rfl)
      generalize wr.alloc (.cells #[Value.slice Ad dn cd, .slice (some ⟨w.heap.size, 0, none⟩) en en, .slice (some ⟨w.heap.size, 0, none⟩) em en] 22) = w4 at HM ⊢
      generalize hQ2 : wr.heap.size = Q2 at HM ⊢
      clear hQ2
      have HIT := Lib.hid (show ∀ b, b < 3 → ∃ (A' : Option Addr) (n' c' : Nat) (l' : List UInt8), n' ≤ c' ∧ c' ≤ maxLen ∧ n' ≤ 400 ∧ ∀ W : World, Mem w [blkE Q2 22 [Value.slice Ad dn cd, .slice (some ⟨w.heap.size, 0, none⟩) en en, .slice (some ⟨w.heap.size, 0, none⟩) em en], blkE Q 3 [Value.int .i64 size, .int .i64 s2], rdE w.heap.size Q (some ⟨w.heap.size, 0, none⟩) en (List.replicate en 0)] W → W.cell? ⟨Q2, b, none⟩ = some (.slice A' n' c') ∧ Rd W W.heap.size A' n' l' by
        intro b hb
        match b, hb with
        | 0, _ => exact ⟨Ad, dn, cd, dl, d1, hdm, by omega, fun W h => ⟨by rw [(h.blk 0 rfl).cell]; rfl, h.arg HD.out⟩⟩
        | 1, _ => exact ⟨_, en, en, _, Nat.le_refl _, by unfold maxLen; omega, by omega, fun W h => ⟨by rw [(h.blk 0 rfl).cell]; rfl, h.rd 2 rfl⟩⟩
        | 2, _ => exact ⟨_, em, en, _, hem2, by unfold maxLen; omega, by omega, fun W h => ⟨by rw [(h.blk 0 rfl).cell]; rfl, (h.rd 2 rfl).take hem2⟩⟩
        | b + 3, hb => exact absurd hb (by omega))
      go_loopw [48] (fun c wr => ∃ b : Nat, b ≤ 3 ∧ c = .int .i64 (b : Int) ∧ Mem w [blkE Q2 22 [Value.slice Ad dn cd, .slice (some ⟨w.heap.size, 0, none⟩) en en, .slice (some ⟨w.heap.size, 0, none⟩) em en], blkE Q 3 [Value.int .i64 size, .int .i64 s2], rdE w.heap.size Q (some ⟨w.heap.size, 0, none⟩) en (List.replicate en 0)] wr) (fun c _ => 3 - (intOf c).toNat)
      case atStart => exact ⟨0, by omega, rfl, HM.out⟩
      case round =>
        clear HM
        obtain ⟨b, hb3, rfl, hM⟩ := hrel
        have HM := Lib.hid hM
        clear hM
        by_cases hb2 : b < 3
        · have db : decide ((b : Int) < 3) = true := by simp; omega
          obtain ⟨A', n', c', l', hn1, hn2, hn3, hx⟩ := HIT.out b hb2
          have fx := (hx _ HM.out).1
          have HX := Lib.hid (fun W h => (hx W h).2)
          clear hx
          obtain ⟨o, ho⟩ : ∃ o, sumB s kl l' = o := ⟨_, rfl⟩
          have OA := HSC.out s hs.1 hs.2 Ak A' kn ck n' c' kl l' k1 hkm hn1 hn2 (by omega) (by omega)
          have OB := fun w' h1 h2 => refSum_any s Ak A' kn ck n' c' kl l' (by omega) w' h1 h2
          rw [ho] at OA OB
          obtain ⟨r, f⟩ := o
          dsimp only at OA OB
          have HOA := Lib.hid OA
          have HOB := Lib.hid OB
          clear OA OB ho
          go_wp2_with fail
          clear fx db
          refine (HOA.out _ (HLV.out.below HM.out.bel) (HM.out.arg HK.out) (HX.out _ HM.out)).mono ?_
          rintro e wa ⟨Aa, caa, rfl, hra, _, _, hba⟩
          have HRA := Lib.hid ((RdIn.rd hra).mono (Nat.le_refl _))
          replace HM := Lib.hid (HM.out.below hba)
          clear hra hba
          go_wp2_with fail
          refine (HOB.out _ (HM.out.arg HK.out) (HX.out _ HM.out)).mono ?_
          rintro e wb ⟨Ab, cbb, rfl, hrb, _, _, hbb⟩
          have cva : (convert 22 9 (.slice Aa r.length caa)).run Tryd.prog wb = .ok (.string ⟨r.toArray⟩) wb := bl_sconv (HRA.out.below hbb) caa
          have cvb : (convert 22 9 (.slice Ab r.length cbb)).run Tryd.prog wb = .ok (.string ⟨r.toArray⟩) wb := bl_sconv hrb cbb
          replace HM := Lib.hid (HM.out.below hbb)
          clear hrb hbb HRA HOA HOB HX
          go_wp2_with fail
          refine ⟨⟨b + 1, by omega, by go_num, HM.out⟩, ?_⟩
          simp [intOf]
          omega
        · obtain rfl : b = 3 := by omega
          replace HM := Lib.hid (show Mem w [blkE Q 3 [Value.int .i64 size, .int .i64 s2], rdE w.heap.size Q (some ⟨w.heap.size, 0, none⟩) en (List.replicate en 0)] _ from HM.out.erase 0)
          rw [show ((3 : Nat) : Int) = 3 from rfl]
          clear m1 m2 m3 m4 m5 m6 m7
          go_wp2_with fail
          refine ⟨⟨a + 1, by omega, by go_num, HM.out⟩, ?_⟩
          simp [intOf]
          omega
    · obtain rfl : a = 2 := by omega
      rw [show ((2 : Nat) : Int) = 2 from rfl]
      go_wp2_with fail
      refine (HBG.out _ (HLV.out.below HM.out.bel)).mono ?_
      rintro e wz ⟨rfl, hbz⟩
      have HE := Lib.hid (HM.out.below hbz).bel
      clear hbz HM
      go_wp2_with fail
      go_ret
      exact ⟨rfl, HE.out⟩
end Go.Proofs.YtellicmnopfkgaaDoor
