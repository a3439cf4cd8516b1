/-
  The walk of StageOrders over what is asked of the program. No statement is proved here.
-/
import Derived.Test.YtnmjcibhggchkaaStPushes
import Derived.Test.YtnmjcibhggchkaaMaxInt
import Derived.RegionTactic
import Derived.Deep.DeepCutAuto
namespace Go.Proofs.Ytnmjcibhggchkaa
open Go.RowKit

theorem order_step (L : List (List UInt8)) (j q : Nat) (x : List UInt8) (hj : L[j]? = some x) : pushM ((L.take j).drop (j - q)) (q : Int) x = ((L.take (j + 1)).drop (j + 1 - q), (j + 1 - q) - (j - q)) := by
  have hjl : j < L.length := (List.getElem?_eq_some_iff.1 hj).1
  have h1 : (L.take j).drop (j - q) ++ [x] = (L.take (j + 1)).drop (j - q) := by
    rw [take_snoc hj, List.drop_append_of_le_length (by rw [List.length_take]; omega)]
  have h2 : ((L.take (j + 1)).drop (j - q)).length = j + 1 - (j - q) := by rw [List.length_drop, List.length_take]; omega
  have h3 : (max (q : Int) 0).toNat = q := by omega
  rw [pushM, h1, h2, h3, List.drop_drop]
  congr 1
  · congr 1
    omega
  · omega
set_option maxRecDepth 100000 in
set_option maxHeartbeats 8000000 in
theorem st_orders_walk (HPU : StPushC 8) (HPO : StPopC 11) (w : World) (A : Option Addr) (n c : Nat) (ps : List Part) (cap : Nat) (hnc : n ≤ c ∧ c ≤ maxLen) (hr : PkRd w w.heap.size A n ps) (hcap : cap ≤ 255) :
    Calls Try.prog 4 #[.slice A n c, .int .u8 (cap : Int)] w fun e w' => e = .returned (.bool true) ∧ Below w.heap.size w w' := by
  have HBG := Lib.hid (fun W : World => st_begun_any HPU W)
  have HPUH := Lib.hid HPU
  have HPOH := Lib.hid HPO
  have HA := Lib.hid (And.intro hnc hr)
  have w1' : IntKind.i64.wrap (cap : Int) = (cap : Int) := by rw [IntKind.wrap_i64]; omega
  obtain ⟨r, hr6⟩ : ∃ z, cap % 6 = z := ⟨_, rfl⟩
  have e1 : (cap : Int) % 6 = (r : Int) := by omega
  have e2 : (cap : Int).tmod 6 = (r : Int) := by rw [Int.tmod_eq_emod_of_nonneg (by omega)]; exact e1
  have w2' : IntKind.i64.wrap (r : Int) = (r : Int) := by rw [IntKind.wrap_i64]; omega
  obtain ⟨q, hq⟩ : ∃ z, 1 + r = z := ⟨_, rfl⟩
  have e3 : 1 + (r : Int) = (q : Int) := by omega
  have w3' : IntKind.i64.wrap (q : Int) = (q : Int) := by rw [IntKind.wrap_i64]; omega
  have HQ := Lib.hid (show q ≤ 6 from by omega)
  clear hnc hr hcap HPU HPO hr6 hq
  go_enter Try.func4, Try.ntmps4
  go_wp2_with fail
  refine (st_cut_any A n c ps w HA.out.1.1 HA.out.2).mono ?_
  rintro e w1 ⟨A1, n1, c1, qs, rfl, hres, hn1, hqs, hb⟩
  have HM := Lib.hid (show Lows w [argL A1 n1 c1 qs] w1 from ((Lows.nil w).below hb).cons (argL A1 n1 c1 qs) ⟨hres.1, hres.2.1, by omega, hres.2.2, fun q hq => by have := hqs q hq; omega⟩)
  have HN1 := Lib.hid hn1
  have HSB := Lib.hid (show ∀ l ∈ psB qs, l.length ≤ 100000 from fun l hl => by
    obtain ⟨p, hp, rfl⟩ := List.mem_map.1 hl
    rw [(hres.2.2.2 p hp).len]
    have := hqs p hp
    omega)
  have HLN := Lib.hid (show (psB qs).length = n1 from hres.len)
  clear hres hn1 hqs hb HA
  go_upto_region 5 with fail
  clear w1' w2' w3' e1 e2 e3
  go_wp2_with fail
  go_loopw [29, 7, 8] (fun i l lo wr => ∃ (j n2 c2 k : Nat) (A2 : Option Addr) (rs : List Part), j ≤ n1 ∧ i = .int .i64 (j : Int) ∧ l = .slice A2 n2 c2 ∧ lo = .int .i64 (k : Int) ∧ k = j - q ∧ psB rs = ((psB qs).take j).drop (j - q) ∧ Lows w [resL A2 n2 c2 rs, argL A1 n1 c1 qs] wr) (fun i _ _ _ => n1 - (intOf i).toNat)
  case atStart => exact ⟨0, 0, 0, 0, none, [], Nat.zero_le _, rfl, rfl, rfl, by omega, by simp [psB], HM.out.cons (resL none 0 0 []) ⟨Nat.le_refl _, Nat.zero_le _, PkRd.nil⟩⟩
  case round =>
    clear HM
    obtain ⟨j, n2, c2, k, A2, rs, hj, rfl, rfl, rfl, hk, hps, hM⟩ := hrel
    have HM := Lib.hid hM
    have HPS := Lib.hid hps
    have HKJ := Lib.hid hk
    clear hM hps
    by_cases hjn : j < n1
    · have d1 : decide ((j : Int) < (n1 : Int)) = true := by simp; omega
      obtain ⟨b, off, rfl⟩ := (HM.out.get (f := argL A1 n1 c1 qs) 1 rfl).rd.addr (by omega)
      obtain ⟨p, hp⟩ : ∃ p, qs[j]? = some p := ⟨qs[j]'(by have := HLN.out; rw [psB_len] at this; omega), List.getElem?_eq_getElem _⟩
      have harg := HM.out.get (f := argL (some ⟨b, off, none⟩) n1 c1 qs) 1 rfl
      have hft := (harg.rd.at j p hp).2
      have hst := order_step (psB qs) j q p.l (by rw [psB, List.getElem?_map, hp]; rfl)
      rw [← HPS.out] at hst
      have HST := Lib.hid hst
      have HOK := Lib.hid (harg.rd.ok hp)
      have HSM := Lib.hid (harg.small p (List.mem_of_getElem? hp))
      obtain ⟨x, hx⟩ : ∃ z, (j + 1 - q) - (j - q) = z := ⟨_, rfl⟩
      obtain ⟨y, hy⟩ : ∃ z, j + 1 - q = z := ⟨_, rfl⟩
      have HY := Lib.hid hy
      have e1 : (k : Int) + (x : Int) = (y : Int) := by omega
      have hn12 := HN1.out
      have w1' : IntKind.i64.wrap (y : Int) = (y : Int) := by rw [IntKind.wrap_i64]; omega
      rw [hx, hy] at HST
      have HAR := Lib.hid (show PkArg wr A2 n2 c2 rs from by
        have hres := HM.out.get (f := resL A2 n2 c2 rs) 0 rfl
        refine hres.arg ?_ (fun l hl => HSB.out l ?_)
        · have h := hres.len
          rw [HPS.out, List.length_drop, List.length_take, HLN.out] at h
          omega
        · rw [HPS.out] at hl
          exact List.mem_of_mem_take (List.mem_of_mem_drop hl))
      have HQ63 := Lib.hid (show -9223372036854775808 ≤ (q : Int) ∧ (q : Int) ≤ 9223372036854775807 from by have := HQ.out; omega)
      clear hp harg hst hx hy hk
      go_upto_region 8 with fail
      clear hft
      go_wp2_with fail
      refine (HPUH.out A2 n2 c2 rs (q : Int) p wr HAR.out HOK.out HSM.out HQ63.out.1 HQ63.out.2).mono ?_
      rintro e w5 ⟨A5, n5, c5, r5, rfl, hr5, hq5, hb⟩
      replace HM := Lib.hid (show Lows w [resL A5 n5 c5 r5, argL (some ⟨b, off, none⟩) n1 c1 qs] w5 from ((HM.out.below hb).tail 0).cons (resL A5 n5 c5 r5) hr5)
      rw [HST.out] at hq5 ⊢
      have HQ5 := Lib.hid hq5
      clear hb hr5 hq5
      go_wp2_with fail
      go_roundw
      case rel => exact ⟨j + 1, n5, c5, y, A5, r5, by omega, by go_num, rfl, rfl, HY.out.symm, by rw [HQ5.out, HY.out], HM.out⟩
      case measure => simp [intOf]; omega
    · obtain rfl : j = n1 := by omega
      have d1 : decide ((j : Int) < (j : Int)) = false := by simp
      have hn12 := HN1.out
      have hq6 := HQ.out
      obtain ⟨d, hd⟩ : ∃ z, (j : Int) - (q : Int) = z := ⟨_, rfl⟩
      have HD := Lib.hid hd
      have hmax : max 0 d = (k : Int) := by omega
      have w1' : IntKind.i64.wrap d = d := by rw [IntKind.wrap_i64]; omega
      have HKL := Lib.hid (show k ≤ j from by omega)
      have HMX := Lib.hid hmax
      rw [← hk] at HPS
      have htk : (psB qs).take j = psB qs := List.take_of_length_le (by rw [HLN.out]; exact Nat.le_refl _)
      rw [htk] at HPS
      have hsl := fun W => pks_l A1 j c1 k HKL.out W
      have HPB := Lib.hid ((HM.out.get (f := argL A1 j c1 qs) 1 rfl).rd.behind k c1 HKL.out (HM.out.get (f := argL A1 j c1 qs) 1 rfl).le)
      obtain ⟨A3, hA3⟩ : ∃ z, addrK A1 k c1 1 = z := ⟨_, rfl⟩
      rw [hA3] at hsl HPB
      obtain ⟨m, hm⟩ : ∃ z, j - k = z := ⟨_, rfl⟩
      rw [hm] at hsl HPB
      obtain ⟨ws, hws⟩ : ∃ z, qs.drop k = z := ⟨_, rfl⟩
      rw [hws] at HPB
      have HWS := Lib.hid (show psB ws = (psB qs).drop k from by rw [← hws, psB, psB, List.map_drop])
      have hmj : m ≤ 12 := by omega
      have HMJ := Lib.hid hmj
      rw [← HWS.out] at HPS
      have HSW := Lib.hid (show ∀ l ∈ psB ws, l.length ≤ 100000 from fun l hl => HSB.out l (by rw [HWS.out] at hl; exact List.mem_of_mem_drop hl))
      have kk : ((k : Int) != (k : Int)) = false := by simp
      clear hk htk hA3 hws hm hmax hq6
      go_upto_region 13 with (refine wpList_max_k rfl (.const (.int .i64 0)) (.tmp 49) _ rfl .i64 0 d (k : Int) rfl rfl HMX.out ?_)
      clear hd w1' kk
      have HM2 := Lib.hid (show Lows w [resL A2 n2 c2 rs, pksL A3 m ws] wr from by
        have h := HM.out
        exact ((h.tail 1).cons (pksL A3 m ws) HPB.out).cons (resL A2 n2 c2 rs) (h.get (f := resL A2 n2 c2 rs) 0 rfl) |>.tail 2)
      clear HM HPB
      obtain ⟨w5, hw5⟩ : ∃ z, wr = z := ⟨_, rfl⟩
      rw [hw5] at HM2 ⊢
      clear hw5
      go_wp2_with fail
      clear hsl
      go_loopw [56, 7] (fun i l wr => ∃ (j n2 c2 : Nat) (A2 : Option Addr) (rs : List Part), j ≤ m ∧ i = .int .i64 (j : Int) ∧ l = .slice A2 n2 c2 ∧ psB rs = (psB ws).drop j ∧ Lows w [resL A2 n2 c2 rs, pksL A3 m ws] wr) (fun i _ _ => m - (intOf i).toNat)
      case atStart => exact ⟨0, n2, c2, A2, rs, Nat.zero_le _, rfl, rfl, HPS.out, HM2.out⟩
      case round =>
        clear HM2 HPS d1
        obtain ⟨j, n2, c2, A2, rs, hj, rfl, rfl, hps, hM⟩ := hrel
        have HM := Lib.hid hM
        have HPS := Lib.hid hps
        have hlw : (psB ws).length = m := by rw [psB_len]; exact (HM.out.get (f := pksL A3 m ws) 1 rfl).len
        have hn2 : n2 = m - j := by
          have h := (HM.out.get (f := resL A2 n2 c2 rs) 0 rfl).len
          rw [hps, List.length_drop, hlw] at h
          exact h.symm
        have HAR := Lib.hid (show PkArg wr A2 n2 c2 rs from (HM.out.get (f := resL A2 n2 c2 rs) 0 rfl).arg (by omega) (fun l hl => HSW.out l (by rw [hps] at hl; exact List.mem_of_mem_drop hl)))
        clear hM hps
        by_cases hjm : j < m
        · have d1 : decide ((j : Int) < (m : Int)) = true := by simp; omega
          obtain ⟨b, off, rfl⟩ := (HM.out.get (f := pksL A3 m ws) 1 rfl).addr (by omega)
          obtain ⟨p, hp⟩ : ∃ p, ws[j]? = some p := ⟨ws[j]'(by rw [psB_len] at hlw; omega), List.getElem?_eq_getElem _⟩
          have hrd := HM.out.get (f := pksL (some ⟨b, off, none⟩) m ws) 1 rfl
          have hft := (PkRd.at hrd j p hp).2
          have HOK := Lib.hid (PkRd.ok hrd hp)
          have HHD := Lib.hid (show ((psB rs).head?).getD [] = p.l from by
            have h1 : (psB ws)[j]? = some p.l := by rw [psB, List.getElem?_map, hp]; rfl
            rw [HPS.out, List.head?_drop, h1]
            rfl)
          have HTL := Lib.hid (show (psB rs).tail = (psB ws).drop (j + 1) from by rw [HPS.out, List.tail_drop])
          have HD2 := Lib.hid (show decide (0 < n2) = true from by simp; omega)
          obtain ⟨n3, hn3⟩ : ∃ z, n2 - 1 = z := ⟨_, rfl⟩
          have e1 : (n2 : Int) - 1 = (n3 : Int) := by omega
          have w1' : IntKind.i64.wrap (n3 : Int) = (n3 : Int) := by rw [IntKind.wrap_i64]; omega
          have HN3 := Lib.hid (show n3 = m - (j + 1) from by omega)
          clear hp hrd hlw hn2 hn3
          go_upto_region 16 with fail
          clear hft
          go_wp2_with fail
          refine (HPOH.out A2 n2 c2 rs wr HAR.out).mono ?_
          rintro e w6 ⟨p6, A6, n6, c6, r6, rfl, hp6, hr6, hl6, hq6, hb⟩
          have k5 := (HOK.out.1.below hb).mono hb.size
          have k6 := hp6.1
          rw [hl6, HHD.out] at k6
          rw [HTL.out] at hq6
          obtain rfl : n6 = n3 := by
            have h := hr6.len
            rw [hq6, List.length_drop, psB_len, (HM.out.get (f := pksL (some ⟨b, off, none⟩) m ws) 1 rfl).len] at h
            rw [HN3.out, h]
          replace HM := Lib.hid (show Lows w [resL A6 n6 c6 r6, pksL (some ⟨b, off, none⟩) m ws] w6 from ((HM.out.below hb).tail 0).cons (resL A6 n6 c6 r6) hr6)
          have HQ6 := Lib.hid hq6
          obtain ⟨l, hl⟩ : ∃ z, p.l = z := ⟨_, rfl⟩
          rw [hl] at k5 k6
          have cv1 := show (convert 23 9 (.slice p.A p.n p.c)).run Try.prog w6 = .ok (.string ⟨(l).toArray⟩) w6 from run_string_of_rd (P := Try.prog) 23 9 5 p.c Try.underlying23 Try.underlying5 Try.underlying9 (k5)
          have cv2 := show (convert 23 9 (.slice p6.A p6.n p6.c)).run Try.prog w6 = .ok (.string ⟨(l).toArray⟩) w6 from run_string_of_rd (P := Try.prog) 23 9 5 p6.c Try.underlying23 Try.underlying5 Try.underlying9 (k6)
          rw [HD2.out]
          clear hl hb hr6 hp6 hl6 hq6 k5 k6 HHD HOK
          go_upto_region 19 with fail
          clear cv1 cv2 e1 w1'
          go_wp2_with fail
          go_roundw
          case rel => exact ⟨j + 1, n6, c6, A6, r6, by omega, by go_num, rfl, HQ6.out, HM.out⟩
          case measure => simp [intOf]; omega
        · obtain rfl : j = m := by omega
          have d1 : decide ((j : Int) < (j : Int)) = false := by simp
          have HD2 := Lib.hid (show decide (0 < n2) = false from by simp; omega)
          clear hlw hn2
          go_wp2_with fail
          refine (HPOH.out A2 n2 c2 rs wr HAR.out).mono ?_
          rintro e w6 ⟨p6, A6, n6, c6, r6, rfl, _, _, _, _, hb⟩
          rw [HD2.out]
          have HM6 := Lib.hid (HM.out.below hb)
          clear hb HM
          go_wp2_with fail
          refine (HBG.out w6).mono ?_
          rintro e w7 ⟨rfl, hb⟩
          have HF := Lib.hid (HM6.out.below hb)
          clear hb HM6
          go_wp2
          go_ret
          exact ⟨rfl, HF.out.bel⟩
end Go.Proofs.Ytnmjcibhggchkaa
