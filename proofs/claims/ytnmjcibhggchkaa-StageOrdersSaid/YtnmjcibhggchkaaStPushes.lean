/-
  The walk of StagePushes over what is asked of the program. No statement is proved here.
-/
import Derived.Test.YtnmjcibhggchkaaStBegun
import Derived.Test.YtnmjcibhggchkaaStRPush
import Derived.Test.YtnmjcibhggchkaaStRPop
import Derived.Test.YtnmjcibhggchkaaStRSize
import Derived.Test.YtnmjcibhggchkaaStSame
import Derived.Test.YtnmjcibhggchkaaStCut
import Derived.Test.YtnmjcibhggchkaaModOf
import Derived.Test.YtnmjcibhggchkaaRdKept
import Derived.RegionTactic
import Derived.Deep.DeepCutAuto
namespace Go.Proofs.Ytnmjcibhggchkaa
open Go.RowKit

theorem PkRes.same {W : World} {A A' : Option Addr} {n c n' c' : Nat} {qs rs : List Part} (h : PkRes W A n c qs) (h' : PkRes W A' n' c' rs) (e : psB qs = psB rs) : n' = n := by
  rw [← h.len, ← h'.len, e]
theorem pushM_len (ls : List (List UInt8)) (cap : Int) (x : List UInt8) : (pushM ls cap x).1.length ≤ ls.length + 1 := by
  simp only [pushM, List.length_drop, List.length_append, List.length_cons, List.length_nil]
  omega
/-- what is kept: the list and the packet, in memory -/
def argL (A : Option Addr) (n c : Nat) (ps : List Part) : Low := ⟨fun W => PkArg W A n c ps, fun _ _ hb h => h.below hb⟩
def resL (A : Option Addr) (n c : Nat) (ps : List Part) : Low := ⟨fun W => PkRes W A n c ps, fun _ _ hb h => h.below hb⟩
set_option maxRecDepth 100000 in
set_option maxHeartbeats 8000000 in
theorem st_pushes_walk (HPU : StPushC 8) (HPO : StPopC 11) (HSI : StSizeC 13) (w : World) (A : Option Addr) (n c : Nat) (ps : List Part) (cap : Int) (pA : Option Addr) (pn pc : Nat) (pl : List UInt8) (hnc : n ≤ c ∧ c ≤ maxLen) (hr : PkRd w w.heap.size A n ps) (hcap : -9223372036854775808 ≤ cap ∧ cap ≤ 9223372036854775807) (hpn : pn ≤ pc) (hpc : pc ≤ maxLen) (hp : Rd w w.heap.size pA pn pl) :
    Calls Try.prog 3 #[.slice A n c, .int .i64 cap, .slice pA pn pc] w fun e w' => e = .returned (.bool true) ∧ Below w.heap.size w w' := by
  have HBG := Lib.hid (fun W : World => st_begun_any HPU W)
  have HPUH := Lib.hid HPU
  have HPOH := Lib.hid HPO
  have HSIH := Lib.hid HSI
  have HCAP := Lib.hid hcap
  have HP := Lib.hid (And.intro hp (And.intro hpn hpc))
  have HA := Lib.hid (And.intro hnc hr)
  obtain ⟨md, hmd⟩ : ∃ z, cap % ((14 : Nat) : Int) = z := ⟨_, rfl⟩
  have HMOD := Lib.hid (fun W => mod_any cap 14 (by omega) (by omega) W)
  rw [hmd] at HMOD
  obtain ⟨m1, hm1⟩ : ∃ z, md - 1 = z := ⟨_, rfl⟩
  have w1' : IntKind.i64.wrap m1 = m1 := by rw [IntKind.wrap_i64]; omega
  have HCAPS := Lib.hid (show ∀ x, x = cap ∨ x = m1 → -9223372036854775808 ≤ x ∧ x ≤ 9223372036854775807 from fun x hx => by rcases hx with rfl | rfl <;> omega)
  clear hnc hr hcap hpn hpc hp HPU HPO HSI hmd
  go_enter Try.func3, Try.ntmps3
  go_wp2_with fail
  refine (st_cut_any A n c ps w HA.out.1.1 HA.out.2).mono ?_
  rintro e w1 ⟨A1, n1, c1, qs, rfl, hres, hn1, hqs, hb⟩
  have HM := Lib.hid (show Lows w [argL A1 n1 c1 qs] w1 from ((Lows.nil w).below hb).cons (argL A1 n1 c1 qs) ⟨hres.1, hres.2.1, by omega, hres.2.2, fun q hq => by have := hqs q hq; omega⟩)
  have HPR := Lib.hid (show PkOk w1 w1.heap.size (Part.mk pA pn pc pl) from ⟨(HP.out.1.below hb).mono hb.size, HP.out.2⟩)
  have HN1 := Lib.hid hn1
  clear hres hn1 hqs hb
  obtain ⟨k, hk⟩ : ∃ z, min pn 20 = z := ⟨_, rfl⟩
  have HK := Lib.hid (show k ≤ pn ∧ k ≤ 20 from by omega)
  go_wp2_with fail
  refine (caseCut_any pA pn pc 20 k (by omega) HP.out.2.1 HP.out.2.2 hk w1).mono ?_
  rintro e w2 ⟨rfl, hb⟩
  replace HM := Lib.hid (show Lows w [pkL (Part.mk pA k pc (pl.take k)), argL A1 n1 c1 qs] w2 from (HM.out.below hb).cons (pkL (Part.mk pA k pc (pl.take k))) ⟨((HPR.out.1.take HK.out.1).below hb).mono hb.size, Nat.le_trans HK.out.1 HP.out.2.1, HP.out.2.2⟩)
  obtain ⟨xl, hxl⟩ : ∃ z, pl.take k = z := ⟨_, rfl⟩
  rw [hxl] at HM
  have hk20 := HK.out.2
  have HK20 := Lib.hid hk20
  clear hb HPR HP HA hk hxl HK hk20
  go_wp2_with fail
  refine (HMOD.out w2).mono ?_
  rintro e w3 ⟨rfl, rfl⟩
  clear HMOD
  go_upto_region 3 with fail
  have hm := HM.out.alloc 3 #[.int .i64 cap, .int .i64 m1] [.int .i64 cap, .int .i64 m1] rfl
  generalize w2.alloc (.cells #[.int .i64 cap, .int .i64 m1] 3) = w4 at hm ⊢
  generalize w2.heap.size = g4 at hm ⊢
  clear HM
  have HM := Lib.hid hm
  clear hm w1' hm1
  go_wp2_with fail
  go_loopw [31] (fun i wr => ∃ j : Nat, j ≤ 2 ∧ i = .int .i64 (j : Int) ∧ Lows w [blkL g4 3 [.int .i64 cap, .int .i64 m1], pkL (Part.mk pA k pc xl), argL A1 n1 c1 qs] wr) (fun i _ => 2 - (intOf i).toNat)
  case atStart => exact ⟨0, by omega, rfl, HM.out⟩
  case round =>
    clear HM
    obtain ⟨j, hj, rfl, hM⟩ := hrel
    have HM := Lib.hid hM
    clear hM
    by_cases hj2 : j < 2
    · have d1 : decide ((j : Int) < 2) = true := by simp; omega
      obtain ⟨x, hx, hxv⟩ : ∃ x : Int, (x = cap ∨ x = m1) ∧ ([.int .i64 cap, .int .i64 m1] : List Value)[j]? = some (.int .i64 x) := by
        rcases (show j = 0 ∨ j = 1 by omega) with rfl | rfl
        · exact ⟨cap, .inl rfl, rfl⟩
        · exact ⟨m1, .inr rfl, rfl⟩
      have hft : wr.cell? ⟨g4, j, none⟩ = some (.int .i64 x) := by rw [(HM.out.blk 0 rfl).cell]; exact hxv
      have HX := Lib.hid (HCAPS.out x hx)
      clear hx hxv
      go_upto_region 5 with fail
      clear hft
      go_wp2_with fail
      refine (HPUH.out A1 n1 c1 qs x (Part.mk pA k pc xl) wr (HM.out.get (f := argL A1 n1 c1 qs) 2 rfl) (HM.out.get (f := pkL (Part.mk pA k pc xl)) 1 rfl) (by show k ≤ 100000; have := HK20.out; omega) HX.out.1 HX.out.2).mono ?_
      rintro e w5 ⟨A5, n5, c5, r5, rfl, hr5, hq5, hb⟩
      replace HM := Lib.hid (show Lows w [resL A5 n5 c5 r5, blkL g4 3 [.int .i64 cap, .int .i64 m1], pkL (Part.mk pA k pc xl), argL A1 n1 c1 qs] w5 from (HM.out.below hb).cons (resL A5 n5 c5 r5) hr5)
      have HQ5 := Lib.hid hq5
      clear hb hr5 hq5
      go_wp2_with fail
      refine (refStPushC A1 n1 c1 qs x (Part.mk pA k pc xl) w5 (HM.out.get (f := argL A1 n1 c1 qs) 3 rfl) (HM.out.get (f := pkL (Part.mk pA k pc xl)) 2 rfl) (by show k ≤ 100000; have := HK20.out; omega) HX.out.1 HX.out.2).mono ?_
      rintro e w6 ⟨A6, n6, c6, r6, rfl, hr6, hq6, hb⟩
      replace HM := Lib.hid (show Lows w [resL A6 n6 c6 r6, resL A5 n5 c5 r5, blkL g4 3 [.int .i64 cap, .int .i64 m1], pkL (Part.mk pA k pc xl), argL A1 n1 c1 qs] w6 from (HM.out.below hb).cons (resL A6 n6 c6 r6) hr6)
      have HQ6 := Lib.hid (show psB r5 = psB r6 from by rw [HQ5.out, hq6])
      have hn56 : n6 = n5 := PkRes.same (HM.out.get (f := resL A5 n5 c5 r5) 1 rfl) (HM.out.get (f := resL A6 n6 c6 r6) 0 rfl) HQ6.out
      subst hn56
      have HN6 := Lib.hid (show n6 ≤ 100000 from by
        have h := (HM.out.get (f := resL A5 n6 c5 r5) 1 rfl).len
        have h2 := (HM.out.get (f := argL A1 n1 c1 qs) 4 rfl).rd.len
        have h3 := pushM_len (psB qs) x (Part.mk pA k pc xl).l
        rw [← HQ5.out, h, psB_len, h2] at h3
        have := HN1.out
        omega)
      obtain ⟨o, ho⟩ : ∃ z, (((pushM (psB qs) x (Part.mk pA k pc xl).l).2 : Nat) : Int) = z := ⟨_, rfl⟩
      rw [ho]
      clear hb hr6 hq6 ho d1
      go_wp2_with fail
      refine (st_same_any A5 A6 n6 c5 c6 r5 r6 HN6.out w6 (HM.out.get (f := resL A5 n6 c5 r5) 1 rfl).2.2 (HM.out.get (f := resL A6 n6 c6 r6) 0 rfl).2.2 HQ6.out).mono ?_
      rintro e w7 ⟨rfl, hb⟩
      replace HM := Lib.hid (show Lows w [blkL g4 3 [.int .i64 cap, .int .i64 m1], pkL (Part.mk pA k pc xl), argL A1 n1 c1 qs] w7 from ((HM.out.below hb).tail 0).tail 0)
      clear hb HQ6 HQ5
      go_wp2_with fail
      go_roundw
      case rel => exact ⟨j + 1, by omega, by go_num, HM.out⟩
      case measure => simp [intOf]; omega
    · obtain rfl : j = 2 := by omega
      have d1 : decide (((2 : Nat) : Int) < 2) = false := by decide
      replace HM := Lib.hid (show Lows w [argL A1 n1 c1 qs] wr from (HM.out.tail 0).tail 0)
      go_wp2_with fail
      refine (HPOH.out A1 n1 c1 qs wr (HM.out.get (f := argL A1 n1 c1 qs) 0 rfl)).mono ?_
      rintro e w5 ⟨p5, A5, n5, c5, r5, rfl, hp5, hr5, hl5, hq5, hb⟩
      replace HM := Lib.hid (show Lows w [pkL p5, resL A5 n5 c5 r5, argL A1 n1 c1 qs] w5 from ((HM.out.below hb).cons (resL A5 n5 c5 r5) hr5).cons (pkL p5) hp5)
      have HQ5 := Lib.hid hq5
      have HL5 := Lib.hid hl5
      clear hb hr5 hq5 hp5 hl5
      obtain ⟨t, ht⟩ : ∃ z, decide (0 < n1) = z := ⟨_, rfl⟩
      rw [ht]
      have HT := Lib.hid ht
      clear ht
      go_wp2_with fail
      refine (refStPopC A1 n1 c1 qs w5 (HM.out.get (f := argL A1 n1 c1 qs) 2 rfl)).mono ?_
      rintro e w6 ⟨p6, A6, n6, c6, r6, rfl, hp6, hr6, hl6, hq6, hb⟩
      replace HM := Lib.hid (show Lows w [pkL p6, resL A6 n6 c6 r6, pkL p5, resL A5 n5 c5 r5, argL A1 n1 c1 qs] w6 from ((HM.out.below hb).cons (resL A6 n6 c6 r6) hr6).cons (pkL p6) hp6)
      have HQ6 := Lib.hid (show psB r5 = psB r6 from by rw [HQ5.out, hq6])
      have hl56 : p5.l = p6.l := by rw [HL5.out, hl6]
      have hn56 : n6 = n5 := PkRes.same (HM.out.get (f := resL A5 n5 c5 r5) 3 rfl) (HM.out.get (f := resL A6 n6 c6 r6) 1 rfl) HQ6.out
      subst hn56
      have HN6 := Lib.hid (show n6 ≤ 100000 from by
        have h := (HM.out.get (f := resL A5 n6 c5 r5) 3 rfl).len
        have h2 := (HM.out.get (f := argL A1 n1 c1 qs) 4 rfl).rd.len
        rw [HQ5.out, List.length_tail, psB_len, h2] at h
        have := HN1.out
        omega)
      rw [HT.out]
      clear hb hr6 hq6 hp6 hl6 HQ5 HL5 HT d1
      have k5 := (HM.out.get (f := pkL p5) 2 rfl).1
      have k6 := (HM.out.get (f := pkL p6) 0 rfl).1
      rw [← hl56] at k6
      obtain ⟨l, hl⟩ : ∃ z, p5.l = z := ⟨_, rfl⟩
      rw [hl] at k5 k6
      have cv1 := show (convert 23 9 (.slice p5.A p5.n p5.c)).run Try.prog w6 = .ok (.string ⟨(l).toArray⟩) w6 from run_string_of_rd (P := Try.prog) 23 9 5 p5.c Try.underlying23 Try.underlying5 Try.underlying9 (k5)
      have cv2 := show (convert 23 9 (.slice p6.A p6.n p6.c)).run Try.prog w6 = .ok (.string ⟨(l).toArray⟩) w6 from run_string_of_rd (P := Try.prog) 23 9 5 p6.c Try.underlying23 Try.underlying5 Try.underlying9 (k6)
      clear hl hl56 k5 k6
      go_wp2_with fail
      refine (st_same_any A5 A6 n6 c5 c6 r5 r6 HN6.out w6 (HM.out.get (f := resL A5 n6 c5 r5) 3 rfl).2.2 (HM.out.get (f := resL A6 n6 c6 r6) 1 rfl).2.2 HQ6.out).mono ?_
      rintro e w7 ⟨rfl, hb⟩
      replace HM := Lib.hid (show Lows w [argL A1 n1 c1 qs] w7 from ((((HM.out.below hb).tail 0).tail 0).tail 0).tail 0)
      clear hb HQ6 cv1 cv2
      obtain ⟨sm, hsm⟩ : ∃ z, sumB (psB qs) = z := ⟨_, rfl⟩
      have HS1 := Lib.hid (fun W => HSIH.out A1 n1 c1 qs W)
      have HS2 := Lib.hid (fun W => refStSizeC A1 n1 c1 qs W)
      rw [hsm] at HS1 HS2
      go_wp2_with fail
      refine (HS1.out w7 (HM.out.get (f := argL A1 n1 c1 qs) 0 rfl)).mono ?_
      rintro e w8 ⟨rfl, hb⟩
      replace HM := Lib.hid (HM.out.below hb)
      clear hb
      go_wp2_with fail
      refine (HS2.out w8 (HM.out.get (f := argL A1 n1 c1 qs) 0 rfl)).mono ?_
      rintro e w9 ⟨rfl, hb⟩
      replace HM := Lib.hid (HM.out.below hb)
      clear hb HS1 HS2 hsm
      go_wp2_with fail
      refine (HBG.out w9).mono ?_
      rintro e w10 ⟨rfl, hb⟩
      have HF := Lib.hid (HM.out.below hb)
      clear hb HM
      go_wp2
      go_ret
      exact ⟨rfl, HF.out.bel⟩
end Go.Proofs.Ytnmjcibhggchkaa
