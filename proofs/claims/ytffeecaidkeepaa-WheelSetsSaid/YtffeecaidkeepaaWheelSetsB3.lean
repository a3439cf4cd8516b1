/-
  The contract of the laws' made. Calls of the functions of timers, with named results. The example of the chapter on timers: begun of the laws. Lists of timers that are equal: same of the laws. The walk of WheelSets. The contracts of cmp.Compare. The contract of cmp.Or for numbers. The mathematics of time stamps over lists of bytes; no function of the program is named here. The contract of bytes.Compare for two rows of bytes. The sign of a comparison of rows of bytes. What is asked of Less holds of the landed one. A timer's purpose and what is permitted. No statement is proved here.
-/
import Derived.RegionTactic
import Derived.Deep.DeepCutAuto
import Derived.Lib.BytesEntry
import Derived.Lib.Bytealg
import Derived.Laws.Externs
import Derived.Test.YtffeecaidkeepaaWheelSetsB2
namespace Go.Proofs.Ytffeecaidkeepaa
open Go.RowKit

theorem TmRd.kept {W W' : World} {n g : Nat} {A : Option Addr} {l : List TimerM} (h : TmRd W W.heap.size A n l) (hg : W.grownBy W' (some g)) (hne : ∀ ad, A = some ad → g < ad.block) : TmRd W' W'.heap.size A n l := ⟨(h.1.kept (Nat.le_refl _) hg hne).mono hg.size, h.2⟩
/-- a call that changes the choices' block keeps what the law holds -/
theorem tm_keep {w W W' : World} {G n : Nat} {A : Option Addr} {l : List TimerM} (h : TmRd W W.heap.size A n l ∧ (∀ ad, A = some ad → G < ad.block) ∧ Below w.heap.size w W) (hG : w.heap.size ≤ G) (hg : W.grownBy W' (some G)) : TmRd W' W'.heap.size A n l ∧ (∀ ad, A = some ad → G < ad.block) ∧ Below w.heap.size w W' :=
  ⟨h.1.kept hg h.2.1, h.2.1, h.2.2.grown hg h.2.2.size (fun b hb => by injection hb with hb; omega)⟩
theorem timer_made (x : Int) (k : List UInt8) (d : Int) (hk : k.length = 32) : Try.prog.built 27 [(0, .int .i64 x), (1, .agg (k.map u8v).toArray), (2, .int .i64 d)] = some (TimerM.mk x k d).cells.toArray := by
  rw [built_of 27 [1, 32, 1] [[.int .i64 0], aeZ 32, [.int .i64 0]] (by kernel_rfl) #[(0, 1), (1, 32), (33, 1)] (fun parts => by kernel_rfl) (fun i h => by
    match i, h with
    | 0, _ => rfl
    | 1, _ => rfl
    | 2, _ => rfl
    | i + 3, h => exact absurd h (by simp)) _ (fun p hp => by
    simp only [List.mem_cons, List.not_mem_nil, or_false] at hp
    rcases hp with rfl | rfl | rfl
    · rfl
    · simp [Value.cells, hk]
    · rfl)]
  simp [TimerM.cells, Value.cells]
set_option maxRecDepth 100000 in
set_option maxHeartbeats 16000000 in
theorem made_any (A : Option Addr) (n c : Nat) (l : List UInt8) (hnc : n ≤ c) (hcm : c ≤ maxLen) (w : World) (hr : Rd w w.heap.size A n l) :
    Calls Try.prog 6 #[.slice A n c] w fun e w' => ∃ (ls : List TimerM) (A' : Option Addr) (c' : Nat), WhGood ls ∧ ls.length ≤ 15 ∧ e = .returned (.slice A' ls.length c') ∧ TmRd w' w'.heap.size A' ls.length ls ∧ (ls.length ≤ c' ∧ c' ≤ maxLen) ∧ Below w.heap.size w w' := by
  obtain ⟨k0, hk⟩ : ∃ k, min n 80 = k := ⟨_, rfl⟩
  have HR := Lib.hid (hr.take (show k0 ≤ n by omega))
  have HW1 := Lib.hid (caseNew_any A n c 80 k0 (by omega) hnc hcm hk w)
  have hk60 : k0 ≤ 80 := by omega
  generalize l.take k0 = lk at HR
  clear hr hk hnc hcm
  go_enter Try.func6, Try.ntmps6
  go_wp2_with fail
  refine HW1.out.mono ?_
  rintro e w1 ⟨rfl, hm⟩
  have hc : CodesAt w1 w.heap.size A k0 c lk w.heap.size 0 := ⟨hm.blk 0 rfl, HR.out.below hm.bel, Nat.le_refl _, (hm.blk 0 rfl).lt, by omega, Nat.zero_le _⟩
  have HB1 := Lib.hid hm.bel
  obtain ⟨G, hG⟩ : ∃ G, w.heap.size = G := ⟨_, rfl⟩
  have hn20 := hc.callNext 16 (by omega)
  rw [show ((16 : Nat) : Int) = 16 from rfl] at hn20
  have hv20 := nextV_lt lk 0 16 (by omega)
  have HC1 := Lib.hid hc
  rw [hG] at hn20 HC1 ⊢
  have HN20 := Lib.hid hn20
  have HGE := Lib.hid (show w.heap.size ≤ G by omega)
  clear hc hm HW1 hn20 hG HR
  go_wp2_with fail
  refine HN20.out.mono ?_
  rintro e w2 ⟨rfl, hcd, hg⟩
  obtain ⟨t, ht⟩ : ∃ t, nextV lk 0 16 = t := ⟨_, rfl⟩
  rw [ht] at hv20 ⊢
  have HC2 := Lib.hid (And.intro hcd (show Below w.heap.size w w2 from HB1.out.grown hg HB1.out.size (fun b hb => by injection hb with hb; have := HGE.out; omega)))
  generalize nextP lk 0 16 = q0 at HC2
  clear hcd hg HN20 HC1 HB1 ht
  go_wp2_with fail
  go_loopw [5, 4] (fun i vo wr => ∃ (j : Nat) (ls : List TimerM) (q : Nat) (A9 : Option Addr) (c9 : Nat), ls.length + j ≤ 15 ∧ i = .int .i64 (j : Int) ∧ vo = .slice A9 ls.length c9 ∧ WhGood ls ∧ (ls.length ≤ c9 ∧ c9 ≤ maxLen) ∧ CodesAt wr G A k0 c lk G q ∧ TmRd wr wr.heap.size A9 ls.length ls ∧ (∀ ad, A9 = some ad → G < ad.block) ∧ Below w.heap.size w wr) (fun i _ _ => (intOf i).toNat)
  case atStart => exact ⟨t, [], q0, none, 0, by simp only [List.length_nil]; omega, rfl, rfl, WhGood.nil, ⟨Nat.le_refl _, by unfold maxLen; omega⟩, HC2.out.1, TmRd.nil, (fun _ h => by cases h), HC2.out.2⟩
  case round =>
    clear HC2 hv20
    obtain ⟨j, ls, q, A9, c9, hj, rfl, rfl, hgd, hcp, hcd, hsl⟩ := hrel
    have HCP := Lib.hid hcp
    have HGD := Lib.hid hgd
    obtain ⟨m, hm⟩ : ∃ z, ls.length = z := ⟨_, rfl⟩
    rw [hm] at hsl hj HCP ⊢
    have HLS := Lib.hid hm
    have HC := Lib.hid (And.intro hcd hsl)
    clear hcp hgd hcd hsl hm
    by_cases hj0 : 0 < j
    · have d1 : decide ((j : Int) > 0) = true := by simp; omega
      obtain ⟨p, hp⟩ : ∃ p, j = p + 1 := ⟨j - 1, by omega⟩
      have y5 : IntKind.i64.wrap ((j : Int) - 1) = (p : Int) := by rw [IntWalk.i64_in _ (by omega)]; omega
      have y6 : (j : Int) - 1 = (p : Int) := by omega
      have hj2 : m + 1 + p ≤ 15 := by omega
      have hjp : p < j := by omega
      clear hp
      have hn6 := HC.out.1.callNext 6 (by omega)
      rw [show ((6 : Nat) : Int) = 6 from rfl] at hn6
      have HN6 := Lib.hid hn6
      have hv6 := nextV_lt lk q 6 (by omega)
      obtain ⟨u, hu⟩ : ∃ z, nextV lk q 6 = z := ⟨_, rfl⟩
      rw [hu] at hv6 HN6
      clear hn6 hu
      go_wp2_with fail
      refine HN6.out.mono ?_
      rintro e w6 ⟨rfl, hcd, hg⟩
      have HC6 := Lib.hid (And.intro hcd (tm_keep HC.out.2 HGE.out hg))
      generalize nextP lk q 6 = q1 at HC6
      clear hcd hg HC HN6
      have hn3 := HC6.out.1.callNext 3 (by omega)
      rw [show ((3 : Nat) : Int) = 3 from rfl] at hn3
      have HN3 := Lib.hid hn3
      have hv3 := nextV_lt lk q1 3 (by omega)
      obtain ⟨x3, hx3⟩ : ∃ z, nextV lk q1 3 = z := ⟨_, rfl⟩
      rw [hx3] at hv3 HN3
      clear hn3 hx3
      obtain ⟨Y, hY⟩ : ∃ y, UInt8.ofNat x3 = y := ⟨_, rfl⟩
      have hYn : Y.toNat = x3 := by rw [← hY, UInt8.toNat_ofNat', Nat.mod_eq_of_lt (by omega)]
      have y7 : IntKind.u8.wrap (x3 : Int) = (Y.toNat : Int) := by rw [IntKind.wrap_u8, hYn]; omega
      have y8 : (x3 : Int) % 256 = (Y.toNat : Int) := by rw [hYn]; omega
      obtain ⟨ky, hky⟩ : ∃ z, ((keyB Y).map u8v).toArray = z := ⟨_, rfl⟩
      have hby := key_byte Y
      rw [hky] at hby
      have HBY := Lib.hid hby
      have HKY := Lib.hid hky
      clear hby hky hY hYn
      go_wp2_with fail
      refine HN3.out.mono ?_
      rintro e w7 ⟨rfl, hcd, hg⟩
      have HC7 := Lib.hid (And.intro hcd (tm_keep HC6.out.2 HGE.out hg))
      generalize nextP lk q1 3 = q2 at HC7
      clear hcd hg HC6 HN3
      have hn5 := HC7.out.1.callNext 5 (by omega)
      rw [show ((5 : Nat) : Int) = 5 from rfl] at hn5
      have HN5 := Lib.hid hn5
      have hv5 := nextV_lt lk q2 5 (by omega)
      obtain ⟨x5, hx5⟩ : ∃ z, nextV lk q2 5 = z := ⟨_, rfl⟩
      rw [hx5] at hv5 HN5
      clear hn5 hx5
      go_wp2_with (refine wpList_build_as rfl 25 [(0, .tmp 19)] rfl ky ?_ ?_; exact HBY.out)
      refine HN5.out.mono ?_
      rintro e w8 ⟨rfl, hcd, hg⟩
      have HC8 := Lib.hid (And.intro hcd (tm_keep HC7.out.2 HGE.out hg))
      generalize nextP lk q2 5 = q3 at HC8
      clear hcd hg HC7 HN5
      obtain ⟨kd, hkd⟩ : ∃ z : Int, 1 + (x5 : Int) = z := ⟨_, rfl⟩
      have y9 : IntKind.i64.wrap (1 + (x5 : Int)) = kd := by rw [IntWalk.i64_in _ (by omega)]; omega
      have hok : (TimerM.mk (u : Int) (keyB Y) kd).ok := ⟨⟨by show -9223372036854775808 ≤ (u : Int); omega, by show (u : Int) ≤ 9223372036854775807; omega⟩, keyB_length Y, ⟨by show -9223372036854775808 ≤ kd; omega, by show kd ≤ 9223372036854775807; omega⟩⟩
      have hpm : permT (TimerM.mk (u : Int) (keyB Y) kd) = true := by
        simp only [permT, Bool.and_eq_true, decide_eq_true_eq]
        omega
      have hbt := timer_made (u : Int) (keyB Y) kd (keyB_length Y)
      obtain ⟨tc, htc⟩ : ∃ z, (TimerM.mk (u : Int) (keyB Y) kd).cells.toArray = z := ⟨_, rfl⟩
      rw [HKY.out, htc] at hbt
      have hst := refSetT_any A9 m c9 ls ⟨u, keyB Y, kd⟩ w8 hok ⟨by omega, HCP.out.1, HCP.out.2, HC8.out.2.1⟩
      have hle := setT_le ls ⟨u, keyB Y, kd⟩
      rw [HLS.out] at hle
      rw [htc] at hst
      obtain ⟨l2, hl2⟩ : ∃ z, setT ls ⟨u, keyB Y, kd⟩ = z := ⟨_, rfl⟩
      have HG2 := Lib.hid (show WhGood l2 from hl2 ▸ good_set HGD.out hok hpm)
      rw [hl2] at hst hle
      have HST := Lib.hid hst
      have HBT := Lib.hid hbt
      have HLE := Lib.hid hle
      clear hok hpm hbt htc hst hle hl2 hkd
      go_wp2_with (refine wpList_build_as rfl 27 [(0, .tmp 16), (1, .tmp 20), (2, .tmp 23)] rfl tc ?_ ?_; exact HBT.out)
      refine HST.out.mono ?_
      rintro e w10 ⟨v, rfl, A8, c8, rfl, h1, h2, hr, hnew, hb⟩
      have hG9 := HC8.out.1.lt
      have HF := Lib.hid (show (l2.length ≤ c8 ∧ c8 ≤ maxLen) ∧ CodesAt w10 G A k0 c lk G q3 ∧ TmRd w10 w10.heap.size A8 l2.length l2 ∧ (∀ ad, A8 = some ad → G < ad.block) ∧ Below w.heap.size w w10 from ⟨⟨h1, h2⟩, HC8.out.1.below hb, hr, fun ad h => by have h0 := hnew ad h; omega, HC8.out.2.2.2.trans (hb.mono HC8.out.2.2.2.size)⟩)
      clear h1 h2 hr hb hnew hG9 HC8 HST
      go_wp2_with fail
      go_roundw
      case rel => exact ⟨p, l2, q3, A8, c8, by have := HLE.out; omega, rfl, rfl, HG2.out, HF.out.1, HF.out.2.1, HF.out.2.2.1, HF.out.2.2.2⟩
      case measure => simp [intOf]; omega
    · obtain rfl : j = 0 := by omega
      have d1 : decide (((0 : Nat) : Int) > 0) = false := by simp
      have HF := Lib.hid HC.out.2
      clear HC
      go_wp2_with fail
      go_ret
      exact ⟨ls, A9, c9, HGD.out, by rw [HLS.out]; omega, by rw [HLS.out]; rfl, by rw [HLS.out]; exact HF.out.1, by rw [HLS.out]; exact HCP.out, HF.out.2.2⟩
end Go.Proofs.Ytffeecaidkeepaa
namespace Go.Proofs.Ytffeecaidkeepaa
open Go.RowKit

def CapWh (n c : Nat) : Prop := n ≤ c ∧ c ≤ maxLen
theorem set_use {F : Nat} (H : WhSetC F) {l l' : List TimerM} {n m : Nat} {t : TimerM} (h : setT l t = l') (hm : l'.length = m) (hn : n ≤ 100) (ht : t.ok) (A : Option Addr) (c : Nat) (W : World) (hc : CapWh n c) (hr : TmRd W W.heap.size A n l) :
    Calls Try.prog F #[.slice A n c, .agg t.cells.toArray] W fun e w' => ∃ A c, e = .returned (.slice A m c) ∧ CapWh m c ∧ TmRd w' w'.heap.size A m l' ∧ (∀ ad, A = some ad → W.heap.size ≤ ad.block) ∧ Below W.heap.size W w' := by
  have h2 := H A n c l t W ht ⟨hn, hc.1, hc.2, hr⟩
  rw [h] at h2
  refine h2.mono ?_
  rintro e w' ⟨v, he, A, c, hv, h1, h2, hr, hf, hb⟩
  subst hv hm
  exact ⟨A, c, he, ⟨h1, h2⟩, hr, hf, hb⟩
theorem cancel_use {F : Nat} (H : WhCancelC F) {l l' : List TimerM} {n m : Nat} {k : List UInt8} {d : Int} (h : cancelT l k d = l') (hm : l'.length = m) (hn : n ≤ 100) (hk : k.length = 32) (hd : inI64 d) (A : Option Addr) (c : Nat) (W : World) (hc : CapWh n c) (hr : TmRd W W.heap.size A n l) :
    Calls Try.prog F #[.slice A n c, .agg (k.map u8v).toArray, .int .i64 d] W fun e w' => ∃ A c, e = .returned (.slice A m c) ∧ CapWh m c ∧ TmRd w' w'.heap.size A m l' ∧ (∀ ad, A = some ad → W.heap.size ≤ ad.block) ∧ Below W.heap.size W w' := by
  have h2 := H A n c l k d W hk hd ⟨hn, hc.1, hc.2, hr⟩
  rw [h] at h2
  refine h2.mono ?_
  rintro e w' ⟨v, he, A, c, hv, h1, h2, hr, hf, hb⟩
  subst hv hm
  exact ⟨A, c, he, ⟨h1, h2⟩, hr, hf, hb⟩
end Go.Proofs.Ytffeecaidkeepaa
namespace Go.Proofs.Ytffeecaidkeepaa
open Go.RowKit

def wb9 : TimerM := ⟨9, List.replicate 32 0, 1⟩
def wb5 : TimerM := ⟨5, List.replicate 32 0, 1⟩
theorem wb9_ok : wb9.ok := ⟨by unfold inI64 wb9; simp, rfl, by unfold inI64 wb9; simp⟩
theorem wb5_ok : wb5.ok := ⟨by unfold inI64 wb5; simp, rfl, by unfold inI64 wb5; simp⟩
theorem wb_a : setT [] wb9 = [wb9] := by rfl
theorem wb_b : setT [wb9] wb5 = [wb5] := by decide +kernel
set_option maxRecDepth 100000 in
set_option maxHeartbeats 8000000 in
theorem wh_begun_any (HT : WhSetC 9) (w : World) : Calls Try.prog 23 #[] w fun e w' => e = .returned (.bool true) ∧ Below w.heap.size w w' := by
  have t1 := set_use HT wb_a (m := 1) rfl (n := 0) (by omega) wb9_ok none 0
  have t2 := set_use HT wb_b (m := 1) rfl (n := 1) (by omega) wb5_ok
  have b9 : Try.prog.built 27 [(0, .int .i64 9), (2, .int .i64 1)] = some wb9.cells.toArray := by kernel_rfl
  have b5 : Try.prog.built 27 [(0, .int .i64 5), (2, .int .i64 1)] = some wb5.cells.toArray := by kernel_rfl
  obtain ⟨s9, hs9⟩ : ∃ z, wb9.cells.toArray = z := ⟨_, rfl⟩
  obtain ⟨s5, hs5⟩ : ∃ z, wb5.cells.toArray = z := ⟨_, rfl⟩
  rw [hs9] at b9 t1
  rw [hs5] at b5 t2
  have HT1 := Lib.hid t1
  have HT2 := Lib.hid t2
  have HB9 := Lib.hid b9
  have HB5 := Lib.hid b5
  have HC0 := Lib.hid (show CapWh 0 0 from ⟨Nat.le_refl _, by unfold maxLen; omega⟩)
  clear HT t1 t2 b9 b5 hs9 hs5
  go_enter Try.func23, Try.ntmps23
  go_wp2_with (refine wpList_build_as rfl 27 [(0, .const (.int .i64 9)), (2, .const (.int .i64 1))] rfl s9 ?_ ?_; exact HB9.out)
  refine (HT1.out w HC0.out TmRd.nil).mono ?_
  rintro e w2 ⟨A1, c1, rfl, hc, hr, -, hb⟩
  have HM := Lib.hid (((Lows.nil w).below hb).cons (tmL A1 1 [wb9]) hr)
  have HC1 := Lib.hid hc
  clear hc hr hb HT1
  go_wp2_with (refine wpList_build_as rfl 27 [(0, .const (.int .i64 5)), (2, .const (.int .i64 1))] rfl s5 ?_ ?_; exact HB5.out)
  refine (HT2.out A1 c1 w2 HC1.out (HM.out.get (f := tmL A1 1 [wb9]) 0 rfl)).mono ?_
  rintro e w3 ⟨A2, c2, rfl, hc, hr, -, hb⟩
  obtain ⟨ab, ao, rfl⟩ := hr.1.addr (by omega)
  have fx := tm_at (hr.at 0 wb5 rfl).2
  rw [show wb5.tm = 5 from rfl] at fx
  have fy : w3.cell? ⟨ab, ao, none⟩ = some (.int .i64 5) := by simpa using fx
  have HF := Lib.hid (HM.out.below hb).bel
  clear hc hr hb HT2 HM
  go_wp2
  go_ret
  exact ⟨rfl, HF.out⟩
end Go.Proofs.Ytffeecaidkeepaa
namespace Go.Proofs.Ytffeecaidkeepaa
open Go.RowKit

set_option maxRecDepth 100000 in
set_option maxHeartbeats 8000000 in
theorem same_any (A A' : Option Addr) (n c c' : Nat) (l : List TimerM) (hn : n ≤ 1000) (w : World) (ha : TmRd w w.heap.size A n l) (hb : TmRd w w.heap.size A' n l) :
    Calls Try.prog 8 #[.slice A n c, .slice A' n c'] w fun e w' => e = .returned (.bool true) ∧ Below w.heap.size w w' := by
  have HA := Lib.hid ha
  have HB := Lib.hid hb
  clear ha hb
  have sn : ((n : Int) != (n : Int)) = false := by simp
  go_enter Try.func8, Try.ntmps8
  go_wp2_with fail
  clear sn
  go_loopw [13] (fun i wr => ∃ j : Nat, j ≤ n ∧ i = .int .i64 (j : Int) ∧ Below w.heap.size w wr) (fun i _ => n - (intOf i).toNat)
  case atStart => exact ⟨0, Nat.zero_le _, rfl, Below.refl _ _⟩
  case round =>
    obtain ⟨j, hj, rfl, hW⟩ := hrel
    have HW := Lib.hid hW
    clear hW
    by_cases hjn : j < n
    · have d1 : decide ((j : Int) < (n : Int)) = true := by simp; omega
      obtain ⟨b, off, rfl⟩ := HA.out.1.addr (by omega)
      obtain ⟨b', off', rfl⟩ := HB.out.1.addr (by omega)
      obtain ⟨r, hr⟩ : ∃ r, l[j]? = some r := ⟨l[j]'(by rw [HA.out.len]; exact hjn), List.getElem?_eq_getElem _⟩
      have HOK := Lib.hid (HA.out.ok hr)
      have HLA := Lib.hid (show ∀ W, Below w.heap.size w W → At W b (off + j * 34) r.cells from fun W hW => (HA.out.at j r hr).2.mono hW (HA.out.at j r hr).1)
      have HLB := Lib.hid (show ∀ W, Below w.heap.size w W → At W b' (off' + j * 34) r.cells from fun W hW => (HB.out.at j r hr).2.mono hW (HB.out.at j r hr).1)
      have heq := fun w' : World => (timer_eqd r r HOK.out HOK.out w' true (by simp))
      obtain ⟨ck, hck⟩ : ∃ c, (r.cells).toArray = c := ⟨_, rfl⟩
      rw [hck] at heq
      have HEQ := Lib.hid heq
      have HCK := Lib.hid hck
      clear hck hr heq
      go_upto_region 6 with fail
      clear d1
      refine wp_region_held_drew (S := fun W' => Below w.heap.size w W') (by kernel_rfl) (HW.out.drew) (fun hHeld => ?_)
      refine take_first (v := ?_) 0 rfl (by kernel_rfl) (by kernel_rfl) (by kernel_rfl) (fun _ _ _ h => h) (Or.inl ⟨by rfl, ?_⟩) (by assumption) ?_
      rotate_left
      · (intro w hSw; (try dsimp only at hSw); go_simp; try with_reducible rfl)
      (try simp only [Act.put, List.setIfInBounds_toArray, List.set_cons_zero, List.set_cons_succ])
      refine take_first (v := ?_) 1 rfl (by kernel_rfl) (by kernel_rfl) (by kernel_rfl) (fun _ _ _ h => h) (Or.inl ⟨by rfl, ?_⟩) (by assumption) ?_
      rotate_left
      · (intro w hSw; (try dsimp only at hSw); go_simp; try with_reducible rfl)
      (try simp only [Act.put, List.setIfInBounds_toArray, List.set_cons_zero, List.set_cons_succ])
      refine take_first (v := ?_) 2 rfl (by kernel_rfl) (by kernel_rfl) (by kernel_rfl) (fun _ _ _ h => h) (Or.inl ⟨by rfl, ?_⟩) (by assumption) ?_
      rotate_left
      · (intro w hSw; (try dsimp only at hSw); go_simp; try with_reducible rfl)
      (try simp only [Act.put, List.setIfInBounds_toArray, List.set_cons_zero, List.set_cons_succ])
      refine take_first (v := .agg ck) 3 rfl (by kernel_rfl) (by kernel_rfl) (by kernel_rfl) (fun _ _ _ h => h) (by rw [← HCK.out]; exact yields_load_obj (by rfl) 27 (.tmp 18) rfl b _ rfl _ (fun W hW => HLA.out W hW) _ Try.underlying27 rfl (timer_cellsOf r HOK.out)) (by assumption) ?_
      (try simp only [Act.put, List.setIfInBounds_toArray, List.set_cons_zero, List.set_cons_succ])
      refine take_first (v := ?_) 4 rfl (by kernel_rfl) (by kernel_rfl) (by kernel_rfl) (fun _ _ _ h => h) (Or.inl ⟨by rfl, ?_⟩) (by assumption) ?_
      rotate_left
      · (intro w hSw; (try dsimp only at hSw); go_simp; try with_reducible rfl)
      (try simp only [Act.put, List.setIfInBounds_toArray, List.set_cons_zero, List.set_cons_succ])
      refine take_first (v := ?_) 5 rfl (by kernel_rfl) (by kernel_rfl) (by kernel_rfl) (fun _ _ _ h => h) (Or.inl ⟨by rfl, ?_⟩) (by assumption) ?_
      rotate_left
      · (intro w hSw; (try dsimp only at hSw); go_simp; try with_reducible rfl)
      (try simp only [Act.put, List.setIfInBounds_toArray, List.set_cons_zero, List.set_cons_succ])
      refine take_first (v := ?_) 6 rfl (by kernel_rfl) (by kernel_rfl) (by kernel_rfl) (fun _ _ _ h => h) (Or.inl ⟨by rfl, ?_⟩) (by assumption) ?_
      rotate_left
      · (intro w hSw; (try dsimp only at hSw); go_simp; try with_reducible rfl)
      (try simp only [Act.put, List.setIfInBounds_toArray, List.set_cons_zero, List.set_cons_succ])
      refine take_first (v := .agg ck) 7 rfl (by kernel_rfl) (by kernel_rfl) (by kernel_rfl) (fun _ _ _ h => h) (by rw [← HCK.out]; exact yields_load_obj (by rfl) 27 (.tmp 22) rfl b' _ rfl _ (fun W hW => HLB.out W hW) _ Try.underlying27 rfl (timer_cellsOf r HOK.out)) (by assumption) ?_
      (try simp only [Act.put, List.setIfInBounds_toArray, List.set_cons_zero, List.set_cons_succ])
      refine take_first (v := .bool false) 8 rfl (by kernel_rfl) (by kernel_rfl) (by kernel_rfl) (fun _ _ _ h => h) (yields_cmp_agg true (by rfl) 27 27 19 23 rfl ck ck true rfl rfl timer_noguard (fun w' => HEQ.out w')) (by assumption) ?_
      (try simp only [Act.put, List.setIfInBounds_toArray, List.set_cons_zero, List.set_cons_succ])
      refine wpAnyH_done (by kernel_rfl) ?_ _
      go_wp2
      go_roundw
      case rel => exact ⟨j + 1, by omega, by go_num, by assumption⟩
      case measure => simp [intOf]; omega
    · obtain rfl : j = n := by omega
      have d1 : decide ((j : Int) < (j : Int)) = false := by simp
      have HF := Lib.hid HW.out
      go_wp2
      go_ret
      exact ⟨rfl, HF.out⟩
end Go.Proofs.Ytffeecaidkeepaa
namespace Go.Proofs.Ytffeecaidkeepaa
open Go.RowKit

set_option maxRecDepth 100000 in
set_option maxHeartbeats 16000000 in
theorem wh_sets_walk (HST : WhSetC 9) (HCA : WhCancelC 11) (HHA : WhHasC 15) (HVA : WhValidC 19)
    (w : World) (A : Option Addr) (n c : Nat) (l : List UInt8) (x p q : Nat) (hnc : n ≤ c) (hcm : c ≤ maxLen) (hr : Rd w w.heap.size A n l) (hx : x ≤ 65535) (hp : p ≤ 255) (hq : q ≤ 255) :
    Calls Try.prog 5 #[.slice A n c, .int .u16 (x : Int), .int .u8 (p : Int), .int .u8 (q : Int)] w fun e w' => e = .returned (.bool true) ∧ Below w.heap.size w w' := by
  have HBG := Lib.hid (fun W : World => wh_begun_any HST W)
  have HMD := Lib.hid (made_any A n c l hnc hcm w hr)
  have HSTH := Lib.hid HST
  have HCAH := Lib.hid HCA
  have HHAH := Lib.hid HHA
  have HVAH := Lib.hid HVA
  obtain ⟨tq, htq⟩ : ∃ z, x % 9 = z := ⟨_, rfl⟩
  have ex1 : IntKind.i64.wrap (x : Int) = (x : Int) := IntWalk.i64_in _ (by omega)
  have ex2 : (x : Int) % 9 = (tq : Int) := by omega
  have ex3 : (x : Int).tmod 9 = (tq : Int) := by rw [Int.tmod_eq_emod_of_nonneg (by omega)]; omega
  obtain ⟨Y, hY⟩ : ∃ y, UInt8.ofNat (p % 4) = y := ⟨_, rfl⟩
  have hYn : Y.toNat = p % 4 := by rw [← hY, UInt8.toNat_ofNat', Nat.mod_eq_of_lt (by omega)]
  have ep1 : (p : Int) % 4 = (Y.toNat : Int) := by rw [hYn]; omega
  have ep2 : (p : Int).tmod 4 = (Y.toNat : Int) := by rw [Int.tmod_eq_emod_of_nonneg (by omega), hYn]; omega
  obtain ⟨dq, hdq⟩ : ∃ z, q % 5 = z := ⟨_, rfl⟩
  have eq1 : IntKind.i64.wrap (q : Int) = (q : Int) := IntWalk.i64_in _ (by omega)
  have eq2 : (q : Int) % 5 = (dq : Int) := by omega
  have eq3 : (q : Int).tmod 5 = (dq : Int) := by rw [Int.tmod_eq_emod_of_nonneg (by omega)]; omega
  obtain ⟨kd, hkd⟩ : ∃ z : Int, 1 + (dq : Int) = z := ⟨_, rfl⟩
  have eq4 : IntKind.i64.wrap (1 + (dq : Int)) = kd := by rw [IntWalk.i64_in _ (by omega)]; omega
  have hok : (TimerM.mk (tq : Int) (keyB Y) kd).ok := ⟨⟨by show -9223372036854775808 ≤ (tq : Int); omega, by show (tq : Int) ≤ 9223372036854775807; omega⟩, keyB_length Y, ⟨by show -9223372036854775808 ≤ kd; omega, by show kd ≤ 9223372036854775807; omega⟩⟩
  have hpm : permT (TimerM.mk (tq : Int) (keyB Y) kd) = true := by
    simp only [permT, Bool.and_eq_true, decide_eq_true_eq]
    omega
  have hbt := timer_made (tq : Int) (keyB Y) kd (keyB_length Y)
  have hby := key_byte Y
  obtain ⟨ky, hky⟩ : ∃ z, ((keyB Y).map u8v).toArray = z := ⟨_, rfl⟩
  rw [hky] at hbt hby
  obtain ⟨t, ht⟩ : ∃ z, TimerM.mk (tq : Int) (keyB Y) kd = z := ⟨_, rfl⟩
  have hkd2 : t.kind = kd := by rw [← ht]
  rw [ht] at hok hpm hbt
  obtain ⟨tc, htc⟩ : ∃ z, t.cells.toArray = z := ⟨_, rfl⟩
  obtain ⟨tk, htk⟩ : ∃ z, (t.peer.map u8v).toArray = z := ⟨_, rfl⟩
  rw [htc] at hbt
  have HOT := Lib.hid hok
  have HPM := Lib.hid hpm
  have HBT := Lib.hid hbt
  have HBY := Lib.hid hby
  have HTC := Lib.hid htc
  have HTK := Lib.hid htk
  have HKD := Lib.hid hkd2
  clear HST HCA HHA HVA hr hok hpm hbt hby hky ht htc htk hkd2 hkd hdq htq hY hYn
  go_enter Try.func5, Try.ntmps5
  go_wp2_with fail
  refine HMD.out.mono ?_
  rintro e w1 ⟨ls, A1, c1, hgd, hln, rfl, hrd, hcp, hb⟩
  obtain ⟨m, hm⟩ : ∃ z, ls.length = z := ⟨_, rfl⟩
  rw [hm] at hln hrd hcp ⊢
  have HGD := Lib.hid hgd
  have HC1 := Lib.hid (show CapWh m c1 from hcp)
  have HM := Lib.hid (show Lows w [tmL A1 m ls] w1 from ((Lows.nil w).below hb).cons (tmL A1 m ls) hrd)
  have HZ := Lib.hid (Blk.new w1 27 timerZ)
  obtain ⟨xs, hxs⟩ : ∃ z, setT ls t = z := ⟨_, rfl⟩
  obtain ⟨mx, hmx⟩ : ∃ z, xs.length = z := ⟨_, rfl⟩
  have hmx2 : mx ≤ 16 := by rw [← hmx, ← hxs]; exact Nat.le_trans (setT_le _ _) (by omega)
  have hsu := set_use HSTH.out hxs hmx (n := m) (by omega) HOT.out A1 c1
  rw [HTC.out] at hsu
  have HSU := Lib.hid hsu
  have hgx : WhGood xs := hxs ▸ good_set HGD.out HOT.out HPM.out
  obtain ⟨hc1, hc2, hc3, hc4, hc5⟩ := cnt_set ls t
  rw [hxs] at hc1 hc2 hc3 hc4 hc5
  obtain ⟨rs, hrs⟩ : ∃ z, cancelT ls t.peer t.kind = z := ⟨_, rfl⟩
  rw [hrs] at hc3
  rw [hc3] at hc5
  obtain ⟨mr, hmr⟩ : ∃ z, rs.length = z := ⟨_, rfl⟩
  have HMR := Lib.hid (show mr ≤ 16 from by rw [← hmr, ← hrs]; exact Nat.le_trans (cancelT_le _ _ _) (by omega))
  have HCT1 := Lib.hid hc1
  have HONE := Lib.hid hc2
  have HGX := Lib.hid hgx
  have HXL := Lib.hid hmx
  have hcx := fun Ax cx => cancel_use HCAH.out hc3 hmr (n := mx) (by omega) HOT.out.2.1 HOT.out.2.2 Ax cx
  have hcl := fun A1 c1 => cancel_use HCAH.out hrs hmr (n := m) (by omega) HOT.out.2.1 HOT.out.2.2 A1 c1
  rw [HTK.out, HKD.out] at hcx hcl
  have HCX := Lib.hid hcx
  have HCL := Lib.hid hcl
  have HHS := Lib.hid (show ∀ (Ax : Option Addr) (cx : Nat) (W : World), CapWh mx cx → TmRd W W.heap.size Ax mx xs → Calls Try.prog 15 #[.slice Ax mx cx, .agg tk, .int .i64 kd] W fun e w' => e = .returned (.bool true) ∧ Below W.heap.size W w' from fun Ax cx W hc hr => by
    have h := HHAH.out Ax mx cx xs t.peer t.kind W HOT.out.2.1 HOT.out.2.2 ⟨by omega, hc.1, hc.2, hr⟩
    rw [hc4, HTK.out, HKD.out] at h
    exact h)
  have HHR := Lib.hid (show ∀ (Ax : Option Addr) (cx : Nat) (W : World), CapWh mr cx → TmRd W W.heap.size Ax mr rs → Calls Try.prog 15 #[.slice Ax mr cx, .agg tk, .int .i64 kd] W fun e w' => e = .returned (.bool false) ∧ Below W.heap.size W w' from fun Ax cx W hc hr => by
    have h := HHAH.out Ax mr cx rs t.peer t.kind W HOT.out.2.1 HOT.out.2.2 ⟨by have := HMR.out; omega, hc.1, hc.2, hr⟩
    rw [hc5, HTK.out, HKD.out] at h
    exact h)
  clear hgd hrd hcp hb hsu hgx hc1 hc2 hc3 hc4 hc5 hcx hcl hxs hmx hrs hmr hm HMD
  go_upto_region 3 with (first | (refine wpList_build_as rfl 25 [(0, .tmp 21)] rfl ky ?_ ?_; exact HBY.out) | (refine wpList_build_as rfl 27 [(0, .tmp 19), (1, .tmp 22), (2, .tmp 26)] rfl tc ?_ ?_; exact HBT.out) | (refine wpList_store_obj rfl 27 (.tmp 10) (.tmp 27) rfl w1.heap.size 0 t.cells rfl (by show Value.agg tc = _; rw [HTC.out]) 27 timerZ HZ.out (timer_cellsOf t HOT.out) (by rw [TimerM.cells_length HOT.out, timerZ_length]; omega) (timer_one t) ?_; intro w4 hb4 hg4))
  rw [setL_all timerZ t.cells (by rw [TimerM.cells_length HOT.out, timerZ_length])] at hb4
  replace HM := Lib.hid (show Lows w [blkL w1.heap.size 27 t.cells, tmL A1 m ls] w4 from (HM.out.below (below_fresh hg4)).cons (blkL w1.heap.size 27 t.cells) hb4)
  clear hb4 hg4 HZ ex1 ex2 ex3 ep1 ep2 eq1 eq2 eq3 eq4
  generalize w1.heap.size = PT at HM ⊢
  go_wp2_with (refine wpList_load_obj rfl 27 (.tmp 10) rfl PT 0 rfl t.cells (HM.out.blk 0 rfl).all _ Try.underlying27 rfl (timer_cellsOf t HOT.out) ?_; rw [HTC.out])
  refine (HSU.out w4 HC1.out (HM.out.get (f := tmL A1 m ls) 1 rfl)).mono ?_
  rintro e w5 ⟨Ax, cx, rfl, hcx, hrx, -, hb⟩
  have HCX1 := Lib.hid hcx
  replace HM := Lib.hid (show Lows w [tmL Ax mx xs, blkL PT 27 t.cells, tmL A1 m ls] w5 from (HM.out.below hb).cons (tmL Ax mx xs) hrx)
  clear hcx hrx hb HSU
  go_wp2_with fail
  go_loopw [33, 12] (fun v vn wr => ∃ j : Nat, j ≤ mx ∧ v = .int .i64 (j : Int) ∧ vn = .int .i64 ((cntT (xs.take j) t.peer t.kind : Nat) : Int) ∧ Lows w [tmL Ax mx xs, blkL PT 27 t.cells, tmL A1 m ls] wr) (fun v _ _ => mx - (intOf v).toNat)
  case atStart => exact ⟨0, Nat.zero_le _, rfl, rfl, HM.out⟩
  case round =>
    clear HM
    obtain ⟨j, hj, rfl, rfl, hM⟩ := hrel
    have HM := Lib.hid hM
    clear hM
    by_cases hjn : j < mx
    · have d1 : decide ((j : Int) < (mx : Int)) = true := by simp; omega
      obtain ⟨b, off, rfl⟩ := (HM.out.get (f := tmL Ax mx xs) 0 rfl).1.addr (by omega)
      obtain ⟨s, hs⟩ : ∃ s, xs[j]? = some s := ⟨xs[j]'(by rw [HXL.out]; exact hjn), List.getElem?_eq_getElem _⟩
      have HOK := Lib.hid (HGX.out.ok s (List.mem_of_getElem? hs))
      have HLA := Lib.hid (TmRd.at (b := b) (off := off) (HM.out.get (f := tmL (some ⟨b, off, none⟩) mx xs) 0 rfl) j s hs).2
      have HJS := Lib.hid hs
      obtain ⟨sc, hsc⟩ : ∃ z, s.cells.toArray = z := ⟨_, rfl⟩
      have HSC := Lib.hid hsc
      obtain ⟨sk, hsk⟩ : ∃ z, (s.peer.map u8v).toArray = z := ⟨_, rfl⟩
      have HSK := Lib.hid hsk
      have HCT := Lib.hid (show cntT (xs.take (j + 1)) t.peer t.kind = cntT (xs.take j) t.peer t.kind + (if forT t.peer t.kind s = true then 1 else 0) from by rw [take_snoc hs, cntT_snoc])
      have hcb : cntT (xs.take j) t.peer t.kind ≤ 100 := Nat.le_trans (cntT_le _ _ _) (by rw [List.length_take]; omega)
      clear hs hsc hsk
      obtain ⟨c0, hc0⟩ : ∃ z, cntT (xs.take j) t.peer t.kind = z := ⟨_, rfl⟩
      rw [hc0] at hcb HCT ⊢
      clear hc0
      have HZ := Lib.hid (Blk.new wr 27 timerZ)
      go_upto_region 8 with (first | (refine wpList_load_obj rfl 27 (.tmp 35) rfl b _ rfl s.cells HLA.out _ Try.underlying27 rfl (timer_cellsOf s HOK.out) ?_; rw [HSC.out]) | (refine wpList_store_obj rfl 27 (.tmp 14) (.tmp 36) rfl wr.heap.size 0 s.cells rfl (by show Value.agg sc = _; rw [HSC.out]) 27 timerZ HZ.out (timer_cellsOf s HOK.out) (by rw [TimerM.cells_length HOK.out, timerZ_length]; omega) (timer_one s) ?_; intro w6 hb4 hg4))
      rw [setL_all timerZ s.cells (by rw [TimerM.cells_length HOK.out, timerZ_length])] at hb4
      replace HM := Lib.hid ((HM.out.below (below_fresh hg4)).cons (blkL wr.heap.size 27 s.cells) hb4)
      have heq := key_eq s.peer t.peer HOK.out.2.1 HOT.out.2.1
      rw [HSK.out, HTK.out] at heq
      have HEQ := Lib.hid heq
      clear hb4 hg4 HZ d1 HLA heq
      generalize wr.heap.size = P1 at HM ⊢
      have f1 := kind_at (HM.out.blk 0 rfl).all HOK.out
      have f2 := kind_at (HM.out.blk 2 rfl).all HOT.out
      rw [HKD.out] at f2
      obtain ⟨y1, hy1⟩ : ∃ y, decide (s.peer = t.peer) = y := ⟨_, rfl⟩
      obtain ⟨y2, hy2⟩ : ∃ y, decide (s.kind = t.kind) = y := ⟨_, rfl⟩
      rw [hy1] at HEQ
      have hft : forT t.peer t.kind s = (y1 && y2) := by rw [forT, hy1, hy2]
      rw [hft] at HCT
      have HFT := Lib.hid hft
      have hkn : (s.kind == kd) = y2 := by rw [← hy2, HKD.out]; by_cases h : s.kind = kd <;> simp [h]
      obtain ⟨k1, hk1⟩ : ∃ z, s.kind = z := ⟨_, rfl⟩
      rw [hk1] at f1 hkn
      clear hy1 hy2 hk1 hft
      cases y1 with
      | false =>
        go_wp2_with (first | (refine wpList_load_obj rfl 25 (.tmp 37) rfl P1 1 rfl (s.peer.map u8v) (peer_at (HM.out.blk 0 rfl).all) _ Try.underlying25 rfl (key_cellsOf _ HOK.out.2.1) ?_; rw [HSK.out]) | (refine wpList_load_obj rfl 25 (.tmp 39) rfl PT 1 rfl (t.peer.map u8v) (peer_at (HM.out.blk 2 rfl).all) _ Try.underlying25 rfl (key_cellsOf _ HOT.out.2.1) ?_; rw [HTK.out]) | (refine wpList_eql_agg (by rfl) 25 25 38 40 rfl sk tk false rfl rfl key_noguard (HEQ.out _) ?_))
        go_roundw
        case rel => exact ⟨j + 1, by omega, by go_num, by rw [HCT.out]; rfl, HM.out.tail 0⟩
        case measure => simp [intOf]; omega
      | true =>
        cases y2 with
        | false =>
          go_wp2_with (first | (refine wpList_load_obj rfl 25 (.tmp 37) rfl P1 1 rfl (s.peer.map u8v) (peer_at (HM.out.blk 0 rfl).all) _ Try.underlying25 rfl (key_cellsOf _ HOK.out.2.1) ?_; rw [HSK.out]) | (refine wpList_load_obj rfl 25 (.tmp 39) rfl PT 1 rfl (t.peer.map u8v) (peer_at (HM.out.blk 2 rfl).all) _ Try.underlying25 rfl (key_cellsOf _ HOT.out.2.1) ?_; rw [HTK.out]) | (refine wpList_eql_agg (by rfl) 25 25 38 40 rfl sk tk true rfl rfl key_noguard (HEQ.out _) ?_))
          go_roundw
          case rel => exact ⟨j + 1, by omega, by go_num, by rw [HCT.out]; rfl, HM.out.tail 0⟩
          case measure => simp [intOf]; omega
        | true =>
          have hst : s = t := HONE.out s (List.mem_of_getElem? HJS.out) HFT.out
          have HE := Lib.hid (timer_eqd s t HOK.out HOT.out)
          have HEQT := Lib.hid (show ∀ W, (Op.equalIn 10000 27 (.agg sc) (.agg tc)).run Try.prog W = .ok true W from fun W => by have h := HE.out W true (by simp [hst]); rw [HSC.out, HTC.out] at h; exact h)
          have ec : IntKind.i64.wrap ((c0 : Int) + 1) = ((c0 + 1 : Nat) : Int) := by rw [IntWalk.i64_in _ (by omega)]; omega
          obtain ⟨c9, hc9⟩ : ∃ z, c0 + 1 = z := ⟨_, rfl⟩
          rw [hc9] at ec
          have ec2 : (c0 : Int) + 1 = (c9 : Int) := by omega
          have HC9 := Lib.hid (show cntT (xs.take (j + 1)) t.peer t.kind = c9 from by rw [HCT.out, ← hc9]; rfl)
          clear hst hc9
          go_wp2_with (first | (refine wpList_load_obj rfl 25 (.tmp 37) rfl P1 1 rfl (s.peer.map u8v) (peer_at (HM.out.blk 0 rfl).all) _ Try.underlying25 rfl (key_cellsOf _ HOK.out.2.1) ?_; rw [HSK.out]) | (refine wpList_load_obj rfl 25 (.tmp 39) rfl PT 1 rfl (t.peer.map u8v) (peer_at (HM.out.blk 2 rfl).all) _ Try.underlying25 rfl (key_cellsOf _ HOT.out.2.1) ?_; rw [HTK.out]) | (refine wpList_eql_agg (by rfl) 25 25 38 40 rfl sk tk true rfl rfl key_noguard (HEQ.out _) ?_) | (refine wpList_load_obj rfl 27 (.tmp 14) rfl P1 0 rfl s.cells (HM.out.blk 0 rfl).all _ Try.underlying27 rfl (timer_cellsOf s HOK.out) ?_; rw [HSC.out]) | (refine wpList_load_obj rfl 27 (.tmp 10) rfl PT 0 rfl t.cells (HM.out.blk 2 rfl).all _ Try.underlying27 rfl (timer_cellsOf t HOT.out) ?_; rw [HTC.out]) | (refine wpList_neq_agg (by rfl) 27 27 49 50 rfl sc tc true rfl rfl timer_noguard (HEQT.out _) ?_))
          go_roundw
          case rel => exact ⟨j + 1, by omega, by go_num, by rw [HC9.out], HM.out.tail 0⟩
          case measure => simp [intOf]; omega
    · obtain rfl : mx = j := by omega
      have d1 : decide ((mx : Int) < (mx : Int)) = false := by simp
      have hct : cntT (xs.take mx) t.peer t.kind = 1 := by rw [List.take_of_length_le (by rw [HXL.out]; exact Nat.le_refl _)]; exact HCT1.out
      rw [hct]
      have HVX := Lib.hid (show ∀ (W : World), TmRd W W.heap.size Ax mx xs → Calls Try.prog 19 #[.slice Ax mx cx] W fun e w' => e = .returned (.bool true) ∧ Below W.heap.size W w' from fun W hr => by
        have h := HVAH.out Ax mx cx xs W ⟨by omega, HCX1.out.1, HCX1.out.2, hr⟩
        rw [good_valid HGX.out] at h
        exact h)
      have HHX := Lib.hid (fun W hr => HHS.out Ax cx W HCX1.out hr)
      clear hct hmx2 hln
      go_upto_region 13 with fail
      clear d1
      refine wp_region_held_drew (S := fun W' => Lows w [tmL Ax mx xs, blkL PT 27 t.cells, tmL A1 m ls] W') (by kernel_rfl) (HM.out.drew) (fun hHeld => ?_)
      replace HM := Lib.hid HM.out.drew
      generalize wr.drew = wd1 at HM hHeld ⊢
      refine take_first (v := ?_) 0 rfl (by kernel_rfl) (by kernel_rfl) (by kernel_rfl) (fun _ _ _ h => h) (Or.inl ⟨by rfl, ?_⟩) (by assumption) ?_
      rotate_left
      · (intro w hSw; (try dsimp only at hSw); go_simp; try with_reducible rfl)
      (try simp only [Act.put, List.setIfInBounds_toArray, List.set_cons_zero, List.set_cons_succ])
      refine take_first (v := ?_) 1 rfl (by kernel_rfl) (by kernel_rfl) (by kernel_rfl) (fun _ _ _ h => h) (Or.inl ⟨by rfl, ?_⟩) (by assumption) ?_
      rotate_left
      · (intro w hSw; (try dsimp only at hSw); go_simp; try with_reducible rfl)
      (try simp only [Act.put, List.setIfInBounds_toArray, List.set_cons_zero, List.set_cons_succ])
      refine take_first (v := ?_) 2 rfl (by kernel_rfl) (by kernel_rfl) (by kernel_rfl) (fun _ _ _ h => h) (Or.inl ⟨by rfl, ?_⟩) (by assumption) ?_
      rotate_left
      · (intro w hSw; (try dsimp only at hSw); go_simp; try with_reducible rfl)
      (try simp only [Act.put, List.setIfInBounds_toArray, List.set_cons_zero, List.set_cons_succ])
      refine take_first (v := ?_) 3 rfl (by kernel_rfl) (by kernel_rfl) (by kernel_rfl) (fun _ _ _ h => h) (Or.inl ⟨by rfl, ?_⟩) (by assumption) ?_
      rotate_left
      · (intro w hSw; (try dsimp only at hSw); go_simp; try with_reducible rfl)
      (try simp only [Act.put, List.setIfInBounds_toArray, List.set_cons_zero, List.set_cons_succ])
      refine step_one 4 rfl (by kernel_rfl) (fun K hK => ?_)
      clear hHeld
      go_simp
      refine (HVX.out _ (HM.out.get (f := tmL Ax mx xs) 0 rfl)).mono ?_
      rintro e wy2 ⟨rfl, hb⟩
      replace HM := Lib.hid (show Lows w [tmL Ax mx xs, blkL PT 27 t.cells, tmL A1 m ls] wy2 from HM.out.below hb)
      clear hb
      go_wp2_with fail
      refine hK.out _ _ (HM.out) (fun hHeld => ?_)
      clear hK K
      (try simp only [Act.put, List.setIfInBounds_toArray, List.set_cons_zero, List.set_cons_succ])
      refine take_first (v := ?_) 5 rfl (by kernel_rfl) (by kernel_rfl) (by kernel_rfl) (fun _ _ _ h => h) (Or.inl ⟨by rfl, ?_⟩) (by assumption) ?_
      rotate_left
      · (intro w hSw; (try dsimp only at hSw); go_simp; try with_reducible rfl)
      (try simp only [Act.put, List.setIfInBounds_toArray, List.set_cons_zero, List.set_cons_succ])
      refine take_first (v := ?_) 6 rfl (by kernel_rfl) (by kernel_rfl) (by kernel_rfl) (fun _ _ _ h => h) (Or.inl ⟨by rfl, ?_⟩) (by assumption) ?_
      rotate_left
      · (intro w hSw; (try dsimp only at hSw); go_simp; try with_reducible rfl)
      (try simp only [Act.put, List.setIfInBounds_toArray, List.set_cons_zero, List.set_cons_succ])
      refine take_first (v := ?_) 7 rfl (by kernel_rfl) (by kernel_rfl) (by kernel_rfl) (fun _ _ _ h => h) (Or.inl ⟨by rfl, ?_⟩) (by assumption) ?_
      rotate_left
      · (intro w hSw; (try dsimp only at hSw); go_simp; try with_reducible rfl)
      (try simp only [Act.put, List.setIfInBounds_toArray, List.set_cons_zero, List.set_cons_succ])
      refine take_first (v := ?_) 8 rfl (by kernel_rfl) (by kernel_rfl) (by kernel_rfl) (fun _ _ _ h => h) (Or.inl ⟨by rfl, ?_⟩) (by assumption) ?_
      rotate_left
      · (intro w hSw; (try dsimp only at hSw); go_simp; try with_reducible rfl)
      (try simp only [Act.put, List.setIfInBounds_toArray, List.set_cons_zero, List.set_cons_succ])
      refine take_first (v := .agg tk) 9 rfl (by kernel_rfl) (by kernel_rfl) (by kernel_rfl) (fun _ _ _ h => h) (by rw [← HTK.out]; exact yields_load_obj (by rfl) 25 (.tmp 63) rfl PT 1 rfl (t.peer.map u8v) (fun w' hb => peer_at (Lows.blk hb 1 rfl).all) _ Try.underlying25 rfl (key_cellsOf t.peer HOT.out.2.1)) (by assumption) ?_
      (try simp only [Act.put, List.setIfInBounds_toArray, List.set_cons_zero, List.set_cons_succ])
      refine take_first (v := ?_) 10 rfl (by kernel_rfl) (by kernel_rfl) (by kernel_rfl) (fun _ _ _ h => h) (Or.inl ⟨by rfl, ?_⟩) (by assumption) ?_
      rotate_left
      · (intro w hSw; (try dsimp only at hSw); go_simp; try with_reducible rfl)
      (try simp only [Act.put, List.setIfInBounds_toArray, List.set_cons_zero, List.set_cons_succ])
      refine take_first (v := ?_) 11 rfl (by kernel_rfl) (by kernel_rfl) (by kernel_rfl) (fun _ _ _ h => h) (Or.inl ⟨by rfl, ?_⟩) (by assumption) ?_
      rotate_left
      · (intro w hSw; (try dsimp only at hSw); have fb := kind_at (Lows.blk hSw 1 rfl).all HOT.out; rw [HKD.out] at fb; go_simp; try with_reducible rfl)
      (try simp only [Act.put, List.setIfInBounds_toArray, List.set_cons_zero, List.set_cons_succ])
      refine step_one 12 rfl (by kernel_rfl) (fun K hK => ?_)
      clear hHeld
      go_simp
      refine (HHX.out _ (HM.out.get (f := tmL Ax mx xs) 0 rfl)).mono ?_
      rintro e wy3 ⟨rfl, hb⟩
      replace HM := Lib.hid (show Lows w [tmL Ax mx xs, blkL PT 27 t.cells, tmL A1 m ls] wy3 from HM.out.below hb)
      clear hb
      go_wp2_with fail
      refine hK.out _ _ (HM.out) (fun hHeld => ?_)
      clear hK K
      (try simp only [Act.put, List.setIfInBounds_toArray, List.set_cons_zero, List.set_cons_succ])
      refine take_first (v := ?_) 13 rfl (by kernel_rfl) (by kernel_rfl) (by kernel_rfl) (fun _ _ _ h => h) (Or.inl ⟨by rfl, ?_⟩) (by assumption) ?_
      rotate_left
      · (intro w hSw; (try dsimp only at hSw); go_simp; try with_reducible rfl)
      (try simp only [Act.put, List.setIfInBounds_toArray, List.set_cons_zero, List.set_cons_succ])
      refine take_first (v := ?_) 14 rfl (by kernel_rfl) (by kernel_rfl) (by kernel_rfl) (fun _ _ _ h => h) (Or.inl ⟨by rfl, ?_⟩) (by assumption) ?_
      rotate_left
      · (intro w hSw; (try dsimp only at hSw); go_simp; try with_reducible rfl)
      (try simp only [Act.put, List.setIfInBounds_toArray, List.set_cons_zero, List.set_cons_succ])
      refine take_first (v := ?_) 15 rfl (by kernel_rfl) (by kernel_rfl) (by kernel_rfl) (fun _ _ _ h => h) (Or.inl ⟨by rfl, ?_⟩) (by assumption) ?_
      rotate_left
      · (intro w hSw; (try dsimp only at hSw); go_simp; try with_reducible rfl)
      (try simp only [Act.put, List.setIfInBounds_toArray, List.set_cons_zero, List.set_cons_succ])
      refine take_first (v := ?_) 16 rfl (by kernel_rfl) (by kernel_rfl) (by kernel_rfl) (fun _ _ _ h => h) (Or.inl ⟨by rfl, ?_⟩) (by assumption) ?_
      rotate_left
      · (intro w hSw; (try dsimp only at hSw); go_simp; try with_reducible rfl)
      (try simp only [Act.put, List.setIfInBounds_toArray, List.set_cons_zero, List.set_cons_succ])
      refine take_first (v := .agg tk) 17 rfl (by kernel_rfl) (by kernel_rfl) (by kernel_rfl) (fun _ _ _ h => h) (by rw [← HTK.out]; exact yields_load_obj (by rfl) 25 (.tmp 71) rfl PT 1 rfl (t.peer.map u8v) (fun w' hb => peer_at (Lows.blk hb 1 rfl).all) _ Try.underlying25 rfl (key_cellsOf t.peer HOT.out.2.1)) (by assumption) ?_
      (try simp only [Act.put, List.setIfInBounds_toArray, List.set_cons_zero, List.set_cons_succ])
      refine take_first (v := ?_) 18 rfl (by kernel_rfl) (by kernel_rfl) (by kernel_rfl) (fun _ _ _ h => h) (Or.inl ⟨by rfl, ?_⟩) (by assumption) ?_
      rotate_left
      · (intro w hSw; (try dsimp only at hSw); go_simp; try with_reducible rfl)
      (try simp only [Act.put, List.setIfInBounds_toArray, List.set_cons_zero, List.set_cons_succ])
      refine take_first (v := ?_) 19 rfl (by kernel_rfl) (by kernel_rfl) (by kernel_rfl) (fun _ _ _ h => h) (Or.inl ⟨by rfl, ?_⟩) (by assumption) ?_
      rotate_left
      · (intro w hSw; (try dsimp only at hSw); have fb := kind_at (Lows.blk hSw 1 rfl).all HOT.out; rw [HKD.out] at fb; go_simp; try with_reducible rfl)
      (try simp only [Act.put, List.setIfInBounds_toArray, List.set_cons_zero, List.set_cons_succ])
      refine take_first (v := ?_) 21 rfl (by kernel_rfl) (by kernel_rfl) (by kernel_rfl) (fun _ _ _ h => h) (Or.inl ⟨by rfl, ?_⟩) (by assumption) ?_
      rotate_left
      · (intro w hSw; (try dsimp only at hSw); go_simp; try with_reducible rfl)
      (try simp only [Act.put, List.setIfInBounds_toArray, List.set_cons_zero, List.set_cons_succ])
      refine take_first (v := ?_) 22 rfl (by kernel_rfl) (by kernel_rfl) (by kernel_rfl) (fun _ _ _ h => h) (Or.inl ⟨by rfl, ?_⟩) (by assumption) ?_
      rotate_left
      · (intro w hSw; (try dsimp only at hSw); go_simp; try with_reducible rfl)
      (try simp only [Act.put, List.setIfInBounds_toArray, List.set_cons_zero, List.set_cons_succ])
      refine take_first (v := .agg tk) 23 rfl (by kernel_rfl) (by kernel_rfl) (by kernel_rfl) (fun _ _ _ h => h) (by rw [← HTK.out]; exact yields_load_obj (by rfl) 25 (.tmp 77) rfl PT 1 rfl (t.peer.map u8v) (fun w' hb => peer_at (Lows.blk hb 1 rfl).all) _ Try.underlying25 rfl (key_cellsOf t.peer HOT.out.2.1)) (by assumption) ?_
      (try simp only [Act.put, List.setIfInBounds_toArray, List.set_cons_zero, List.set_cons_succ])
      refine take_first (v := ?_) 24 rfl (by kernel_rfl) (by kernel_rfl) (by kernel_rfl) (fun _ _ _ h => h) (Or.inl ⟨by rfl, ?_⟩) (by assumption) ?_
      rotate_left
      · (intro w hSw; (try dsimp only at hSw); go_simp; try with_reducible rfl)
      (try simp only [Act.put, List.setIfInBounds_toArray, List.set_cons_zero, List.set_cons_succ])
      refine take_first (v := ?_) 25 rfl (by kernel_rfl) (by kernel_rfl) (by kernel_rfl) (fun _ _ _ h => h) (Or.inl ⟨by rfl, ?_⟩) (by assumption) ?_
      rotate_left
      · (intro w hSw; (try dsimp only at hSw); have fb := kind_at (Lows.blk hSw 1 rfl).all HOT.out; rw [HKD.out] at fb; go_simp; try with_reducible rfl)
      (try simp only [Act.put, List.setIfInBounds_toArray, List.set_cons_zero, List.set_cons_succ])
      refine step_one 20 rfl (by kernel_rfl) (fun K hK => ?_)
      clear hHeld
      go_simp
      refine (HCX.out Ax cx _ HCX1.out (HM.out.get (f := tmL Ax mx xs) 0 rfl)).mono ?_
      rintro e wy4 ⟨A5, c5, rfl, hc9, hr9, -, hb⟩
      replace HM := Lib.hid (show Lows w [tmL A5 mr rs, tmL Ax mx xs, blkL PT 27 t.cells, tmL A1 m ls] wy4 from (HM.out.below hb).cons (tmL A5 mr rs) (hr9))
      clear hb
      have Hc5 := Lib.hid hc9
      clear hc9 hr9
      go_wp2_with fail
      refine hK.out _ _ (HM.out.tail 0) (fun hHeld => ?_)
      clear hK K
      (try simp only [Act.put, List.setIfInBounds_toArray, List.set_cons_zero, List.set_cons_succ])
      refine wpAnyH_stronger (T := fun W' => Lows w [tmL A5 mr rs, tmL Ax mx xs, blkL PT 27 t.cells, tmL A1 m ls] W') (fun _ h' => (h'.tail 0)) _ _ _ _ ?_
      replace hHeld := HM.out
      refine step_one 26 rfl (by kernel_rfl) (fun K hK => ?_)
      clear hHeld
      go_simp
      refine (HCL.out A1 c1 _ HC1.out (HM.out.get (f := tmL A1 m ls) 3 rfl)).mono ?_
      rintro e wy5 ⟨A6, c6, rfl, hc9, hr9, -, hb⟩
      replace HM := Lib.hid (show Lows w [tmL A6 mr rs, tmL A5 mr rs, tmL Ax mx xs, blkL PT 27 t.cells, tmL A1 m ls] wy5 from (HM.out.below hb).cons (tmL A6 mr rs) (hr9))
      clear hb
      have Hc6 := Lib.hid hc9
      clear hc9 hr9
      go_wp2_with fail
      refine hK.out _ _ (HM.out.tail 0) (fun hHeld => ?_)
      clear hK K
      (try simp only [Act.put, List.setIfInBounds_toArray, List.set_cons_zero, List.set_cons_succ])
      refine wpAnyH_stronger (T := fun W' => Lows w [tmL A6 mr rs, tmL A5 mr rs, tmL Ax mx xs, blkL PT 27 t.cells, tmL A1 m ls] W') (fun _ h' => (h'.tail 0)) _ _ _ _ ?_
      replace hHeld := HM.out
      refine step_one 27 rfl (by kernel_rfl) (fun K hK => ?_)
      clear hHeld
      go_simp
      refine (same_any A5 A6 mr c5 c6 rs (by have := HMR.out; omega) _ (HM.out.get (f := tmL A5 mr rs) 1 rfl) (HM.out.get (f := tmL A6 mr rs) 0 rfl)).mono ?_
      rintro e wy6 ⟨rfl, hb⟩
      replace HM := Lib.hid (show Lows w [tmL A6 mr rs, tmL A5 mr rs, tmL Ax mx xs, blkL PT 27 t.cells, tmL A1 m ls] wy6 from HM.out.below hb)
      clear hb
      go_wp2_with fail
      refine hK.out _ _ (HM.out) (fun hHeld => ?_)
      clear hK K
      (try simp only [Act.put, List.setIfInBounds_toArray, List.set_cons_zero, List.set_cons_succ])
      refine take_first (v := ?_) 28 rfl (by kernel_rfl) (by kernel_rfl) (by kernel_rfl) (fun _ _ _ h => h) (Or.inl ⟨by rfl, ?_⟩) (by assumption) ?_
      rotate_left
      · (intro w hSw; (try dsimp only at hSw); go_simp; try with_reducible rfl)
      (try simp only [Act.put, List.setIfInBounds_toArray, List.set_cons_zero, List.set_cons_succ])
      refine take_first (v := ?_) 29 rfl (by kernel_rfl) (by kernel_rfl) (by kernel_rfl) (fun _ _ _ h => h) (Or.inl ⟨by rfl, ?_⟩) (by assumption) ?_
      rotate_left
      · (intro w hSw; (try dsimp only at hSw); go_simp; try with_reducible rfl)
      (try simp only [Act.put, List.setIfInBounds_toArray, List.set_cons_zero, List.set_cons_succ])
      refine take_first (v := ?_) 30 rfl (by kernel_rfl) (by kernel_rfl) (by kernel_rfl) (fun _ _ _ h => h) (Or.inl ⟨by rfl, ?_⟩) (by assumption) ?_
      rotate_left
      · (intro w hSw; (try dsimp only at hSw); go_simp; try with_reducible rfl)
      (try simp only [Act.put, List.setIfInBounds_toArray, List.set_cons_zero, List.set_cons_succ])
      refine take_first (v := ?_) 31 rfl (by kernel_rfl) (by kernel_rfl) (by kernel_rfl) (fun _ _ _ h => h) (Or.inl ⟨by rfl, ?_⟩) (by assumption) ?_
      rotate_left
      · (intro w hSw; (try dsimp only at hSw); go_simp; try with_reducible rfl)
      (try simp only [Act.put, List.setIfInBounds_toArray, List.set_cons_zero, List.set_cons_succ])
      refine take_first (v := .agg tk) 32 rfl (by kernel_rfl) (by kernel_rfl) (by kernel_rfl) (fun _ _ _ h => h) (by rw [← HTK.out]; exact yields_load_obj (by rfl) 25 (.tmp 86) rfl PT 1 rfl (t.peer.map u8v) (fun w' hb => peer_at (Lows.blk hb 3 rfl).all) _ Try.underlying25 rfl (key_cellsOf t.peer HOT.out.2.1)) (by assumption) ?_
      (try simp only [Act.put, List.setIfInBounds_toArray, List.set_cons_zero, List.set_cons_succ])
      refine take_first (v := ?_) 33 rfl (by kernel_rfl) (by kernel_rfl) (by kernel_rfl) (fun _ _ _ h => h) (Or.inl ⟨by rfl, ?_⟩) (by assumption) ?_
      rotate_left
      · (intro w hSw; (try dsimp only at hSw); go_simp; try with_reducible rfl)
      (try simp only [Act.put, List.setIfInBounds_toArray, List.set_cons_zero, List.set_cons_succ])
      refine take_first (v := ?_) 34 rfl (by kernel_rfl) (by kernel_rfl) (by kernel_rfl) (fun _ _ _ h => h) (Or.inl ⟨by rfl, ?_⟩) (by assumption) ?_
      rotate_left
      · (intro w hSw; (try dsimp only at hSw); have fb := kind_at (Lows.blk hSw 3 rfl).all HOT.out; rw [HKD.out] at fb; go_simp; try with_reducible rfl)
      (try simp only [Act.put, List.setIfInBounds_toArray, List.set_cons_zero, List.set_cons_succ])
      refine take_first (v := ?_) 36 rfl (by kernel_rfl) (by kernel_rfl) (by kernel_rfl) (fun _ _ _ h => h) (Or.inl ⟨by rfl, ?_⟩) (by assumption) ?_
      rotate_left
      · (intro w hSw; (try dsimp only at hSw); go_simp; try with_reducible rfl)
      (try simp only [Act.put, List.setIfInBounds_toArray, List.set_cons_zero, List.set_cons_succ])
      refine take_first (v := .agg tk) 37 rfl (by kernel_rfl) (by kernel_rfl) (by kernel_rfl) (fun _ _ _ h => h) (by rw [← HTK.out]; exact yields_load_obj (by rfl) 25 (.tmp 91) rfl PT 1 rfl (t.peer.map u8v) (fun w' hb => peer_at (Lows.blk hb 3 rfl).all) _ Try.underlying25 rfl (key_cellsOf t.peer HOT.out.2.1)) (by assumption) ?_
      (try simp only [Act.put, List.setIfInBounds_toArray, List.set_cons_zero, List.set_cons_succ])
      refine take_first (v := ?_) 38 rfl (by kernel_rfl) (by kernel_rfl) (by kernel_rfl) (fun _ _ _ h => h) (Or.inl ⟨by rfl, ?_⟩) (by assumption) ?_
      rotate_left
      · (intro w hSw; (try dsimp only at hSw); go_simp; try with_reducible rfl)
      (try simp only [Act.put, List.setIfInBounds_toArray, List.set_cons_zero, List.set_cons_succ])
      refine take_first (v := ?_) 39 rfl (by kernel_rfl) (by kernel_rfl) (by kernel_rfl) (fun _ _ _ h => h) (Or.inl ⟨by rfl, ?_⟩) (by assumption) ?_
      rotate_left
      · (intro w hSw; (try dsimp only at hSw); have fb := kind_at (Lows.blk hSw 3 rfl).all HOT.out; rw [HKD.out] at fb; go_simp; try with_reducible rfl)
      (try simp only [Act.put, List.setIfInBounds_toArray, List.set_cons_zero, List.set_cons_succ])
      refine step_one 35 rfl (by kernel_rfl) (fun K hK => ?_)
      clear hHeld
      go_simp
      refine (HCX.out Ax cx _ HCX1.out (HM.out.get (f := tmL Ax mx xs) 2 rfl)).mono ?_
      rintro e wy7 ⟨A7, c7, rfl, hc9, hr9, -, hb⟩
      replace HM := Lib.hid (show Lows w [tmL A7 mr rs, tmL A6 mr rs, tmL A5 mr rs, tmL Ax mx xs, blkL PT 27 t.cells, tmL A1 m ls] wy7 from (HM.out.below hb).cons (tmL A7 mr rs) (hr9))
      clear hb
      have Hc7 := Lib.hid hc9
      clear hc9 hr9
      go_wp2_with fail
      refine hK.out _ _ (HM.out.tail 0) (fun hHeld => ?_)
      clear hK K
      (try simp only [Act.put, List.setIfInBounds_toArray, List.set_cons_zero, List.set_cons_succ])
      refine wpAnyH_stronger (T := fun W' => Lows w [tmL A7 mr rs, tmL A6 mr rs, tmL A5 mr rs, tmL Ax mx xs, blkL PT 27 t.cells, tmL A1 m ls] W') (fun _ h' => (h'.tail 0)) _ _ _ _ ?_
      replace hHeld := HM.out
      refine step_one 40 rfl (by kernel_rfl) (fun K hK => ?_)
      clear hHeld
      go_simp
      refine (HHR.out A7 c7 _ Hc7.out (HM.out.get (f := tmL A7 mr rs) 0 rfl)).mono ?_
      rintro e wy8 ⟨rfl, hb⟩
      replace HM := Lib.hid (show Lows w [tmL A7 mr rs, tmL A6 mr rs, tmL A5 mr rs, tmL Ax mx xs, blkL PT 27 t.cells, tmL A1 m ls] wy8 from HM.out.below hb)
      clear hb
      go_wp2_with fail
      refine hK.out _ _ (HM.out) (fun hHeld => ?_)
      clear hK K
      (try simp only [Act.put, List.setIfInBounds_toArray, List.set_cons_zero, List.set_cons_succ])
      refine take_first (v := ?_) 41 rfl (by kernel_rfl) (by kernel_rfl) (by kernel_rfl) (fun _ _ _ h => h) (Or.inl ⟨by rfl, ?_⟩) (by assumption) ?_
      rotate_left
      · (intro w hSw; (try dsimp only at hSw); go_simp; try with_reducible rfl)
      (try simp only [Act.put, List.setIfInBounds_toArray, List.set_cons_zero, List.set_cons_succ])
      refine take_first (v := ?_) 42 rfl (by kernel_rfl) (by kernel_rfl) (by kernel_rfl) (fun _ _ _ h => h) (Or.inl ⟨by rfl, ?_⟩) (by assumption) ?_
      rotate_left
      · (intro w hSw; (try dsimp only at hSw); go_simp; try with_reducible rfl)
      (try simp only [Act.put, List.setIfInBounds_toArray, List.set_cons_zero, List.set_cons_succ])
      refine take_first (v := ?_) 43 rfl (by kernel_rfl) (by kernel_rfl) (by kernel_rfl) (fun _ _ _ h => h) (Or.inl ⟨by rfl, ?_⟩) (by assumption) ?_
      rotate_left
      · (intro w hSw; (try dsimp only at hSw); go_simp; try with_reducible rfl)
      (try simp only [Act.put, List.setIfInBounds_toArray, List.set_cons_zero, List.set_cons_succ])
      refine step_one 44 rfl (by kernel_rfl) (fun K hK => ?_)
      clear hHeld
      go_simp
      refine (HBG.out _).mono ?_
      rintro e wy9 ⟨rfl, hb⟩
      replace HM := Lib.hid (show Lows w [tmL A7 mr rs, tmL A6 mr rs, tmL A5 mr rs, tmL Ax mx xs, blkL PT 27 t.cells, tmL A1 m ls] wy9 from HM.out.below hb)
      clear hb
      go_wp2_with fail
      refine hK.out _ _ (HM.out) (fun hHeld => ?_)
      clear hK K
      (try simp only [Act.put, List.setIfInBounds_toArray, List.set_cons_zero, List.set_cons_succ])
      refine take_first (v := ?_) 45 rfl (by kernel_rfl) (by kernel_rfl) (by kernel_rfl) (fun _ _ _ h => h) (Or.inl ⟨by rfl, ?_⟩) (by assumption) ?_
      rotate_left
      · (intro w hSw; (try dsimp only at hSw); go_simp; try with_reducible rfl)
      (try simp only [Act.put, List.setIfInBounds_toArray, List.set_cons_zero, List.set_cons_succ])
      refine take_first (v := ?_) 46 rfl (by kernel_rfl) (by kernel_rfl) (by kernel_rfl) (fun _ _ _ h => h) (Or.inl ⟨by rfl, ?_⟩) (by assumption) ?_
      rotate_left
      · (intro w hSw; (try dsimp only at hSw); go_simp; try with_reducible rfl)
      (try simp only [Act.put, List.setIfInBounds_toArray, List.set_cons_zero, List.set_cons_succ])
      refine wpAnyH_done (by kernel_rfl) ?_ _
      clear hHeld
      have HF := Lib.hid HM.out.bel
      clear HM
      go_wp2
      go_ret
      exact ⟨rfl, HF.out⟩
end Go.Proofs.Ytffeecaidkeepaa
namespace Go.Proofs.Ytffeecaidkeepaa
open Go.RowKit

/-- the sign of a comparison -/
def cmpV (x y : Int) : Int := if x < y then -1 else if y < x then 1 else 0
set_option maxRecDepth 100000 in
set_option maxHeartbeats 8000000 in
theorem cmp64_any (x y : Int) (w : World) : Calls Try.prog 42 #[.int .i64 x, .int .i64 y] w fun e w' => e = .returned (.int .i64 (cmpV x y)) ∧ Below w.heap.size w w' := by
  have hx : (x != x) = false := by simp
  have hy : (y != y) = false := by simp
  have HB := Lib.hid (Below.refl w.heap.size w)
  by_cases h1 : x < y
  · have e1 : decide (x < y) = true := by simpa using h1
    have HR := Lib.hid (show cmpV x y = -1 from by rw [cmpV, if_pos h1])
    clear h1
    go_enter Try.func42, Try.ntmps42
    go_wp2
    go_ret
    exact ⟨by rw [HR.out]; rfl, HB.out⟩
  · have e1 : decide (x < y) = false := by simpa using h1
    by_cases h2 : y < x
    · have e2 : decide (x > y) = true := by simpa using h2
      have e3 : decide (y < x) = true := e2
      have HR := Lib.hid (show cmpV x y = 1 from by rw [cmpV, if_neg h1, if_pos h2])
      clear h1 h2
      go_enter Try.func42, Try.ntmps42
      go_wp2
      go_ret
      exact ⟨by rw [HR.out]; rfl, HB.out⟩
    · have e2 : decide (x > y) = false := by simpa using h2
      have e3 : decide (y < x) = false := e2
      have HR := Lib.hid (show cmpV x y = 0 from by rw [cmpV, if_neg h1, if_neg h2])
      clear h1 h2
      go_enter Try.func42, Try.ntmps42
      go_wp2
      go_ret
      exact ⟨by rw [HR.out]; rfl, HB.out⟩
set_option maxRecDepth 100000 in
set_option maxHeartbeats 8000000 in
theorem cmpI_any (x y : Int) (w : World) : Calls Try.prog 44 #[.int .i64 x, .int .i64 y] w fun e w' => e = .returned (.int .i64 (cmpV x y)) ∧ Below w.heap.size w w' := by
  have hx : (x != x) = false := by simp
  have hy : (y != y) = false := by simp
  have HB := Lib.hid (Below.refl w.heap.size w)
  by_cases h1 : x < y
  · have e1 : decide (x < y) = true := by simpa using h1
    have HR := Lib.hid (show cmpV x y = -1 from by rw [cmpV, if_pos h1])
    clear h1
    go_enter Try.func44, Try.ntmps44
    go_wp2
    go_ret
    exact ⟨by rw [HR.out]; rfl, HB.out⟩
  · have e1 : decide (x < y) = false := by simpa using h1
    by_cases h2 : y < x
    · have e2 : decide (x > y) = true := by simpa using h2
      have e3 : decide (y < x) = true := e2
      have HR := Lib.hid (show cmpV x y = 1 from by rw [cmpV, if_neg h1, if_pos h2])
      clear h1 h2
      go_enter Try.func44, Try.ntmps44
      go_wp2
      go_ret
      exact ⟨by rw [HR.out]; rfl, HB.out⟩
    · have e2 : decide (x > y) = false := by simpa using h2
      have e3 : decide (y < x) = false := e2
      have HR := Lib.hid (show cmpV x y = 0 from by rw [cmpV, if_neg h1, if_neg h2])
      clear h1 h2
      go_enter Try.func44, Try.ntmps44
      go_wp2
      go_ret
      exact ⟨by rw [HR.out]; rfl, HB.out⟩
end Go.Proofs.Ytffeecaidkeepaa
namespace Go.Proofs.Ytffeecaidkeepaa
open Go.RowKit

def i64v (x : Int) : Value := .int .i64 x
/-- the first number that is not 0 -/
def orV (l : List Int) : Int := (l.find? fun x => !(x == 0)).getD 0
theorem orV_none {l : List Int} (h : ∀ (q : Nat) x, l[q]? = some x → x = 0) : orV l = 0 := by
  have e : l.find? (fun x => !(x == 0)) = none := List.find?_eq_none.2 fun x hx => by
    obtain ⟨i, hi, rfl⟩ := List.getElem_of_mem hx
    rw [h i _ (List.getElem?_eq_getElem hi)]
    decide
  rw [orV, e]
  rfl
theorem orV_some {l : List Int} {j : Nat} {x : Int} (hx : l[j]? = some x) (h1 : x ≠ 0) (h : ∀ (q : Nat) x, q < j → l[q]? = some x → x = 0) : orV l = x := by
  have e : l.find? (fun x => !(x == 0)) = some x := by
    rw [List.find?_eq_some_iff_getElem]
    obtain ⟨hi, rfl⟩ := List.getElem?_eq_some_iff.1 hx
    exact ⟨by simpa using h1, j, hi, rfl, fun q hq => by rw [h q _ hq (List.getElem?_eq_getElem (by omega))]; rfl⟩
  rw [orV, e]
  rfl
set_option maxRecDepth 100000 in
set_option maxHeartbeats 8000000 in
theorem cmpOr_any (g n c : Nat) (hn : n ≤ 100) (l : List Int) (hl : l.length = n) (t : TypeId) (w : World) (hb : Blk w g t (l.map i64v)) : Calls Try.prog 41 #[.slice (some ⟨g, 0, none⟩) n c] w fun e w' => e = .returned (.int .i64 (orV l)) ∧ Below w.heap.size w w' := by
  have HB := Lib.hid hb
  have HL := Lib.hid hl
  clear hb hl
  go_enter Try.func41, Try.ntmps41
  go_wp2_with fail
  go_loopw [8] (fun v wr => ∃ j : Nat, j ≤ n ∧ v = .int .i64 (j : Int) ∧ (∀ (q : Nat) x, q < j → l[q]? = some x → x = 0) ∧ Below w.heap.size w wr) (fun v _ => n - (intOf v).toNat)
  case atStart => exact ⟨0, Nat.zero_le _, rfl, fun q _ h => absurd h (Nat.not_lt_zero _), Below.refl _ _⟩
  case round =>
    obtain ⟨j, hj, rfl, hno, hW⟩ := hrel
    have HW := Lib.hid hW
    have HNO := Lib.hid hno
    clear hW hno
    by_cases hjn : j < n
    · have d1 : decide ((j : Int) < (n : Int)) = true := by simp; omega
      obtain ⟨x, hx⟩ : ∃ x, l[j]? = some x := ⟨l[j]'(by rw [HL.out]; exact hjn), List.getElem?_eq_getElem _⟩
      have fx : wr.cell? ⟨g, j, none⟩ = some (.int .i64 x) := by
        rw [(HB.out.below HW.out HB.out.lt).cell j, List.getElem?_map, hx]; rfl
      have HX := Lib.hid hx
      clear hx
      by_cases h0 : x = 0
      · have e1 : (x != 0) = false := by rw [h0]; rfl
        have HZ := Lib.hid h0
        clear h0
        go_wp2_with fail
        go_roundw
        case rel => exact ⟨j + 1, by omega, by go_num, fun q y hq hy => by
          rcases Nat.lt_or_ge q j with h | h
          · exact HNO.out q y h hy
          · obtain rfl : q = j := by omega
            have e := HX.out.symm.trans hy
            injection e with e
            rw [← e]
            exact HZ.out, HW.out⟩
        case measure => simp [intOf]; omega
      · have e1 : (x != 0) = true := by rw [bne_iff_ne]; exact h0
        have HR := Lib.hid (orV_some HX.out h0 HNO.out)
        clear h0
        go_wp2_with fail
        go_ret
        exact ⟨by rw [HR.out]; rfl, HW.out⟩
    · obtain rfl : j = n := by omega
      have d1 : decide ((j : Int) < (j : Int)) = false := by simp
      have HR := Lib.hid (orV_none fun q x hx => HNO.out q x (by rw [← HL.out]; exact (List.getElem?_eq_some_iff.1 hx).1) hx)
      have HF := Lib.hid HW.out
      clear HW HNO
      go_wp2
      go_ret
      exact ⟨by rw [HR.out]; rfl, HF.out⟩
end Go.Proofs.Ytffeecaidkeepaa
namespace Go.Proofs.Ytffeecaidkeepaa
open Go.RowKit

end Go.Proofs.Ytffeecaidkeepaa
namespace Go.Proofs.Ytffeecaidkeepaa
open Go.RowKit

theorem loadBytes_rd {P : Program} : ∀ (l : List UInt8) (w : World) (b off : Nat) (acc : ByteArray), (∀ j (h : j < l.length), w.cell? ⟨b, off + j, none⟩ = some (.int .u8 (l[j].toNat : Int))) →
    (Extern.Bytes.loadBytes ⟨b, off, none⟩ l.length acc).run P w = .ok ⟨acc.data ++ l.toArray⟩ w
  | [], w, b, off, acc, _ => by simp [Extern.Bytes.loadBytes]
  | x :: l, w, b, off, acc, h => by
    have h0 := h 0 (by simp)
    rw [Nat.add_zero] at h0
    have ih := loadBytes_rd (P := P) l w b (off + 1) (acc.push x) (fun j hj => by
      have := h (j + 1) (by simp; omega)
      rw [show off + 1 + j = off + (j + 1) by omega]
      simpa using this)
    have e1 : (Addr.add ⟨b, off, none⟩ 1) = ⟨b, off + 1, none⟩ := by simp [Go.WideShapes.add_plain]
    simp only [List.length_cons, Extern.Bytes.loadBytes, Sem.run_bind, run_load, h0, Result.andThen]
    simp only [List.getElem_cons_zero, Int.toNat_natCast, Nat.toUInt8_eq, UInt8.ofNat_toNat, e1]
    rw [ih]
    congr 1
    simp [ByteArray.push]
theorem bytesOf_rd {P : Program} {w : World} {B n c : Nat} {A : Option Addr} {l : List UInt8} (h : Rd w B A n l) : (Extern.Bytes.bytesOf (.slice A n c)).run P w = .ok ⟨l.toArray⟩ w := by
  rcases Nat.eq_zero_or_pos n with h0 | h0
  · have : l = [] := List.eq_nil_of_length_eq_zero (by rw [h.1, h0])
    subst this
    subst h0
    cases A with
    | none => simp [Extern.Bytes.bytesOf]; rfl
    | some a => simp [Extern.Bytes.bytesOf, Extern.Bytes.loadBytes]; rfl
  · obtain ⟨b, off, rfl, _, hc⟩ := h.at_ h0
    have := loadBytes_rd (P := P) l w b off .empty hc
    rw [h.1] at this
    simp [Extern.Bytes.bytesOf, this]
set_option maxRecDepth 100000 in
theorem compare_any (n m c d B B' : Nat) (A A' : Option Addr) (a b : List UInt8) (w : World) (ha : Rd w B A n a) (hb : Rd w B' A' m b) :
    Calls Try.prog 43 #[.slice A n c, .slice A' m d] w fun e w' => e = .returned (.int .i64 (Lib.compareBytes a b)) ∧ w = w' := by
  have hx : (callFunc 47 #[.slice A n c, .slice A' m d]).run Try.prog w = .ok (.value (.int .i64 (Lib.compareBytes a b))) w := by
    rw [run_callFunc_extern Try.func47 (by kernel_rfl) (by kernel_rfl) (by kernel_rfl) (e := Extern.BytealgCompare.compare) (by kernel_rfl)]
    have e1 : (Extern.BytealgCompare.compare #[.slice A n c, .slice A' m d]).run Try.prog w = .ok (.int .i64 (Lib.compareBytes a b)) w := by
      change Sem.run Try.prog (do pure (goInt (Extern.BytealgCompare.cmp (← Extern.Bytes.bytesOf (.slice A n c)) (← Extern.Bytes.bytesOf (.slice A' m d))))) w = _
      simp only [Sem.run_bind, Sem.run_pure, bytesOf_rd ha, bytesOf_rd hb, Result.andThen, Lib.cmp_eq]
      rfl
    rw [e1]
    rfl
  go_enter Try.func43, Try.ntmps43
  go_wp2
  go_ret
  exact ⟨rfl, rfl⟩
end Go.Proofs.Ytffeecaidkeepaa
namespace Go.Proofs.Ytffeecaidkeepaa
open Go.RowKit

theorem compare_less : ∀ (a b : List UInt8), decide (Lib.compareBytes a b < 0) = Op.bytesLess a b
  | [], [] => rfl
  | [], _ :: _ => rfl
  | _ :: _, [] => rfl
  | x :: a, y :: b => by
    have ih := compare_less a b
    unfold Lib.compareBytes Op.bytesLess
    by_cases h1 : x < y
    · rw [if_pos h1]; simp [h1]
    · by_cases h2 : y < x
      · have hne : (x == y) = false := by
          rw [beq_eq_false_iff_ne]
          intro e
          subst e
          exact h1 h2
        rw [if_neg h1, if_pos h2, hne]
        simp [h1]
      · have he : x = y := by
          apply UInt8.toNat.inj
          rw [UInt8.lt_iff_toNat_lt] at h1 h2
          omega
        subst he
        rw [if_neg h1, if_neg h2, ih]
        simp [h1]
end Go.Proofs.Ytffeecaidkeepaa
namespace Go.Proofs.Ytffeecaidkeepaa
open Go.RowKit

theorem compare_bel (n m c d B B' : Nat) (A A' : Option Addr) (a b : List UInt8) (w : World) (ha : Rd w B A n a) (hb : Rd w B' A' m b) :
    Calls Try.prog 43 #[.slice A n c, .slice A' m d] w fun e w' => e = .returned (.int .i64 (Lib.compareBytes a b)) ∧ Below w.heap.size w w' :=
  (compare_any n m c d B B' A A' a b w ha hb).mono fun _ _ ⟨he, hw⟩ => ⟨he, by subst hw; exact Below.refl _ _⟩
theorem compare_zero : ∀ (a b : List UInt8), a.length = b.length → (Lib.compareBytes a b = 0 ↔ a = b)
  | [], [], _ => by simp [Lib.compareBytes]
  | [], _ :: _, h => by simp at h
  | _ :: _, [], h => by simp at h
  | x :: a, y :: b, h => by
    have ih := compare_zero a b (by simpa using h)
    unfold Lib.compareBytes
    by_cases h1 : x < y
    · rw [if_pos h1]
      have : x ≠ y := fun e => by subst e; exact UInt8.lt_irrefl _ h1
      simp [this]
    · by_cases h2 : y < x
      · rw [if_neg h1, if_pos h2]
        have : x ≠ y := fun e => by subst e; exact UInt8.lt_irrefl _ h2
        simp [this]
      · have he : x = y := by
          apply UInt8.toNat.inj
          rw [UInt8.lt_iff_toNat_lt] at h1 h2
          omega
        subst he
        rw [if_neg h1, if_neg h2, ih]
        simp
theorem cmpV_zero (x y : Int) : cmpV x y = 0 ↔ x = y := by unfold cmpV; split <;> (try split) <;> omega
theorem cmpV_neg (x y : Int) : cmpV x y < 0 ↔ x < y := by unfold cmpV; split <;> (try split) <;> omega
theorem orV_cons0 (l : List Int) : orV (0 :: l) = orV l := rfl
theorem orV_cons {x : Int} (h : x ≠ 0) (l : List Int) : orV (x :: l) = x := by
  have e : (x :: l).find? (fun x => !(x == 0)) = some x := List.find?_cons_of_pos (by simpa using h)
  rw [orV, e]
  rfl
theorem less_or {a b : TimerM} (ha : a.ok) (hb : b.ok) : decide (orV [cmpV a.tm b.tm, Lib.compareBytes a.peer b.peer, cmpV a.kind b.kind] < 0) = lessT a b := by
  unfold lessT
  by_cases h1 : a.tm = b.tm
  · rw [(cmpV_zero _ _).2 h1, orV_cons0, if_pos h1]
    by_cases h2 : a.peer = b.peer
    · rw [(compare_zero _ _ (by rw [ha.2.1, hb.2.1])).2 h2, orV_cons0, if_pos h2]
      by_cases h3 : cmpV a.kind b.kind = 0
      · rw [h3, orV_cons0]
        have := (cmpV_zero _ _).1 h3
        rw [decide_eq_false (show ¬ a.kind < b.kind by omega)]
        rfl
      · rw [orV_cons h3, decide_eq_decide]
        exact cmpV_neg _ _
    · rw [orV_cons (fun h => h2 ((compare_zero _ _ (by rw [ha.2.1, hb.2.1])).1 h)), if_neg h2]
      exact compare_less _ _
  · rw [orV_cons (fun h => h1 ((cmpV_zero _ _).1 h)), if_neg h1, decide_eq_decide]
    exact cmpV_neg _ _
set_option maxRecDepth 100000 in
set_option maxHeartbeats 8000000 in
theorem whBefore_any (a b : TimerM) (w : World) (ha : a.ok) (hb : b.ok) : Calls Try.prog 35 #[.agg a.cells.toArray, .agg b.cells.toArray] w fun e w' => e = .returned (.bool (lessT a b)) ∧ Below w.heap.size w w' := by
  obtain ⟨ca, hca⟩ : ∃ x, a.cells.toArray = x := ⟨_, rfl⟩
  obtain ⟨cb, hcb⟩ : ∃ x, b.cells.toArray = x := ⟨_, rfl⟩
  rw [hca, hcb]
  have hm := ((Lows.nil w).alloc 58 ca a.cells hca.symm).alloc 27 cb b.cells hcb.symm
  have HM := Lib.hid (show Lows w [blkL (w.heap.size + 1) 27 b.cells, blkL w.heap.size 58 a.cells] ((w.alloc (.cells ca 58)).alloc (.cells cb 27)) from by simpa using hm)
  have HOA := Lib.hid ha
  have HOB := Lib.hid hb
  have HR := Lib.hid (less_or ha hb)
  clear hca hcb ha hb hm
  go_enter Try.func35, Try.ntmps35
  go_upto_region 1 with fail
  generalize (w.alloc (.cells ca 58)).alloc (.cells cb 27) = w1 at HM ⊢
  obtain ⟨GB, hGB⟩ : ∃ z, w.heap.size + 1 = z := ⟨_, rfl⟩
  rw [hGB] at HM ⊢
  obtain ⟨GA, hGA⟩ : ∃ z, w.heap.size = z := ⟨_, rfl⟩
  rw [hGA] at HM ⊢
  clear hGA hGB
  refine wp_region_held_drew (S := fun W' => Lows w [blkL GB 27 b.cells, blkL GA 58 a.cells] W') (by kernel_rfl) (HM.out.drew) (fun hHeld => ?_)
  replace HM := Lib.hid HM.out.drew
  generalize w1.drew = wd1 at HM hHeld ⊢
  refine take_first (v := ?_) 0 rfl (by kernel_rfl) (by kernel_rfl) (by kernel_rfl) (fun _ _ _ h => h) (Or.inl ⟨by rfl, ?_⟩) (by assumption) ?_
  rotate_left
  · (intro w hSw; (try dsimp only at hSw); go_simp; try with_reducible rfl)
  (try simp only [Act.put, List.setIfInBounds_toArray, List.set_cons_zero, List.set_cons_succ])
  refine take_first (v := ?_) 1 rfl (by kernel_rfl) (by kernel_rfl) (by kernel_rfl) (fun _ _ _ h => h) (Or.inl ⟨by rfl, ?_⟩) (by assumption) ?_
  rotate_left
  · (intro w hSw; (try dsimp only at hSw); go_simp; try with_reducible rfl)
  (try simp only [Act.put, List.setIfInBounds_toArray, List.set_cons_zero, List.set_cons_succ])
  refine take_first (v := ?_) 2 rfl (by kernel_rfl) (by kernel_rfl) (by kernel_rfl) (fun _ _ _ h => h) (Or.inl ⟨by rfl, ?_⟩) (by assumption) ?_
  rotate_left
  · (intro w hSw; (try dsimp only at hSw); have fb := tm_at (Lows.blk hSw 1 rfl).all; go_simp; try with_reducible rfl)
  (try simp only [Act.put, List.setIfInBounds_toArray, List.set_cons_zero, List.set_cons_succ])
  refine take_first (v := ?_) 3 rfl (by kernel_rfl) (by kernel_rfl) (by kernel_rfl) (fun _ _ _ h => h) (Or.inl ⟨by rfl, ?_⟩) (by assumption) ?_
  rotate_left
  · (intro w hSw; (try dsimp only at hSw); go_simp; try with_reducible rfl)
  (try simp only [Act.put, List.setIfInBounds_toArray, List.set_cons_zero, List.set_cons_succ])
  refine take_first (v := ?_) 4 rfl (by kernel_rfl) (by kernel_rfl) (by kernel_rfl) (fun _ _ _ h => h) (Or.inl ⟨by rfl, ?_⟩) (by assumption) ?_
  rotate_left
  · (intro w hSw; (try dsimp only at hSw); have fb := tm_at (Lows.blk hSw 0 rfl).all; go_simp; try with_reducible rfl)
  (try simp only [Act.put, List.setIfInBounds_toArray, List.set_cons_zero, List.set_cons_succ])
  refine take_first (v := ?_) 6 rfl (by kernel_rfl) (by kernel_rfl) (by kernel_rfl) (fun _ _ _ h => h) (Or.inl ⟨by rfl, ?_⟩) (by assumption) ?_
  rotate_left
  · (intro w hSw; (try dsimp only at hSw); go_simp; try with_reducible rfl)
  (try simp only [Act.put, List.setIfInBounds_toArray, List.set_cons_zero, List.set_cons_succ])
  refine take_first (v := ?_) 7 rfl (by kernel_rfl) (by kernel_rfl) (by kernel_rfl) (fun _ _ _ h => h) (Or.inl ⟨by rfl, ?_⟩) (by assumption) ?_
  rotate_left
  · (intro w hSw; (try dsimp only at hSw); go_simp; try with_reducible rfl)
  (try simp only [Act.put, List.setIfInBounds_toArray, List.set_cons_zero, List.set_cons_succ])
  refine take_first (v := ?_) 8 rfl (by kernel_rfl) (by kernel_rfl) (by kernel_rfl) (fun _ _ _ h => h) (Or.inl ⟨by rfl, ?_⟩) (by assumption) ?_
  rotate_left
  · (intro w hSw; (try dsimp only at hSw); go_simp; try with_reducible rfl)
  (try simp only [Act.put, List.setIfInBounds_toArray, List.set_cons_zero, List.set_cons_succ])
  refine take_first (v := ?_) 9 rfl (by kernel_rfl) (by kernel_rfl) (by kernel_rfl) (fun _ _ _ h => h) (Or.inl ⟨by rfl, ?_⟩) (by assumption) ?_
  rotate_left
  · (intro w hSw; (try dsimp only at hSw); go_simp; try with_reducible rfl)
  (try simp only [Act.put, List.setIfInBounds_toArray, List.set_cons_zero, List.set_cons_succ])
  refine take_first (v := ?_) 10 rfl (by kernel_rfl) (by kernel_rfl) (by kernel_rfl) (fun _ _ _ h => h) (Or.inl ⟨by rfl, ?_⟩) (by assumption) ?_
  rotate_left
  · (intro w hSw; (try dsimp only at hSw); go_simp; try with_reducible rfl)
  (try simp only [Act.put, List.setIfInBounds_toArray, List.set_cons_zero, List.set_cons_succ])
  refine take_first (v := ?_) 12 rfl (by kernel_rfl) (by kernel_rfl) (by kernel_rfl) (fun _ _ _ h => h) (Or.inl ⟨by rfl, ?_⟩) (by assumption) ?_
  rotate_left
  · (intro w hSw; (try dsimp only at hSw); go_simp; try with_reducible rfl)
  (try simp only [Act.put, List.setIfInBounds_toArray, List.set_cons_zero, List.set_cons_succ])
  refine take_first (v := ?_) 13 rfl (by kernel_rfl) (by kernel_rfl) (by kernel_rfl) (fun _ _ _ h => h) (Or.inl ⟨by rfl, ?_⟩) (by assumption) ?_
  rotate_left
  · (intro w hSw; (try dsimp only at hSw); go_simp; try with_reducible rfl)
  (try simp only [Act.put, List.setIfInBounds_toArray, List.set_cons_zero, List.set_cons_succ])
  refine take_first (v := ?_) 14 rfl (by kernel_rfl) (by kernel_rfl) (by kernel_rfl) (fun _ _ _ h => h) (Or.inl ⟨by rfl, ?_⟩) (by assumption) ?_
  rotate_left
  · (intro w hSw; (try dsimp only at hSw); have fb := kind_at (Lows.blk hSw 1 rfl).all HOA.out; go_simp; try with_reducible rfl)
  (try simp only [Act.put, List.setIfInBounds_toArray, List.set_cons_zero, List.set_cons_succ])
  refine take_first (v := ?_) 15 rfl (by kernel_rfl) (by kernel_rfl) (by kernel_rfl) (fun _ _ _ h => h) (Or.inl ⟨by rfl, ?_⟩) (by assumption) ?_
  rotate_left
  · (intro w hSw; (try dsimp only at hSw); go_simp; try with_reducible rfl)
  (try simp only [Act.put, List.setIfInBounds_toArray, List.set_cons_zero, List.set_cons_succ])
  refine take_first (v := ?_) 16 rfl (by kernel_rfl) (by kernel_rfl) (by kernel_rfl) (fun _ _ _ h => h) (Or.inl ⟨by rfl, ?_⟩) (by assumption) ?_
  rotate_left
  · (intro w hSw; (try dsimp only at hSw); have fb := kind_at (Lows.blk hSw 0 rfl).all HOB.out; go_simp; try with_reducible rfl)
  (try simp only [Act.put, List.setIfInBounds_toArray, List.set_cons_zero, List.set_cons_succ])
  refine step_one 5 rfl (by kernel_rfl) (fun K hK => ?_)
  clear hHeld
  go_simp
  refine (cmp64_any a.tm b.tm _).mono ?_
  rintro e wy2 ⟨rfl, hb⟩
  replace HM := Lib.hid (show Lows w [blkL GB 27 b.cells, blkL GA 58 a.cells] wy2 from HM.out.below hb)
  clear hb
  go_wp2_with fail
  refine hK.out _ _ (HM.out) (fun hHeld => ?_)
  clear hK K
  (try simp only [Act.put, List.setIfInBounds_toArray, List.set_cons_zero, List.set_cons_succ])
  refine step_one 11 rfl (by kernel_rfl) (fun K hK => ?_)
  clear hHeld
  go_simp
  refine (compare_bel 32 32 32 32 _ _ _ _ a.peer b.peer _ (timer_rd (HM.out.blk 1 rfl) HOA.out) (timer_rd (HM.out.blk 0 rfl) HOB.out)).mono ?_
  rintro e wy3 ⟨rfl, hb⟩
  replace HM := Lib.hid (show Lows w [blkL GB 27 b.cells, blkL GA 58 a.cells] wy3 from HM.out.below hb)
  clear hb
  go_wp2_with fail
  refine hK.out _ _ (HM.out) (fun hHeld => ?_)
  clear hK K
  (try simp only [Act.put, List.setIfInBounds_toArray, List.set_cons_zero, List.set_cons_succ])
  refine step_one 17 rfl (by kernel_rfl) (fun K hK => ?_)
  clear hHeld
  go_simp
  refine (cmpI_any a.kind b.kind _).mono ?_
  rintro e wy4 ⟨rfl, hb⟩
  replace HM := Lib.hid (show Lows w [blkL GB 27 b.cells, blkL GA 58 a.cells] wy4 from HM.out.below hb)
  clear hb
  go_wp2_with fail
  refine hK.out _ _ (HM.out) (fun hHeld => ?_)
  clear hK K
  (try simp only [Act.put, List.setIfInBounds_toArray, List.set_cons_zero, List.set_cons_succ])
  refine step_one 18 rfl (by kernel_rfl) (fun K hK => ?_)
  clear hHeld
  go_simp
  have hm9 := HM.out.alloc 3 #[.int .i64 (cmpV a.tm b.tm), .int .i64 (Lib.compareBytes a.peer b.peer), .int .i64 (cmpV a.kind b.kind)] ([.int .i64 (cmpV a.tm b.tm), .int .i64 (Lib.compareBytes a.peer b.peer), .int .i64 (cmpV a.kind b.kind)]) rfl
  generalize wy4.alloc (.cells #[.int .i64 (cmpV a.tm b.tm), .int .i64 (Lib.compareBytes a.peer b.peer), .int .i64 (cmpV a.kind b.kind)] 3) = wy5 at hm9 ⊢
  generalize wy4.heap.size = G3 at hm9 ⊢
  replace HM := Lib.hid (show Lows w [blkL G3 3 ([.int .i64 (cmpV a.tm b.tm), .int .i64 (Lib.compareBytes a.peer b.peer), .int .i64 (cmpV a.kind b.kind)]), blkL GB 27 b.cells, blkL GA 58 a.cells] wy5 from hm9)
  clear hm9
  refine hK.out _ _ (HM.out.tail 0) (fun hHeld => ?_)
  clear hK K
  (try simp only [Act.put, List.setIfInBounds_toArray, List.set_cons_zero, List.set_cons_succ])
  refine wpAnyH_stronger (T := fun W' => Lows w [blkL G3 3 ([.int .i64 (cmpV a.tm b.tm), .int .i64 (Lib.compareBytes a.peer b.peer), .int .i64 (cmpV a.kind b.kind)]), blkL GB 27 b.cells, blkL GA 58 a.cells] W') (fun _ h' => (h'.tail 0)) _ _ _ _ ?_
  replace hHeld := HM.out
  refine step_one 19 rfl (by kernel_rfl) (fun K hK => ?_)
  clear hHeld
  go_simp
  refine (cmpOr_any G3 3 3 (by omega) [cmpV a.tm b.tm, Lib.compareBytes a.peer b.peer, cmpV a.kind b.kind] rfl 3 _ (HM.out.blk 0 rfl)).mono ?_
  rintro e wy6 ⟨rfl, hb⟩
  replace HM := Lib.hid (show Lows w [blkL G3 3 ([.int .i64 (cmpV a.tm b.tm), .int .i64 (Lib.compareBytes a.peer b.peer), .int .i64 (cmpV a.kind b.kind)]), blkL GB 27 b.cells, blkL GA 58 a.cells] wy6 from HM.out.below hb)
  clear hb
  go_wp2_with fail
  refine hK.out _ _ (HM.out) (fun hHeld => ?_)
  clear hK K
  (try simp only [Act.put, List.setIfInBounds_toArray, List.set_cons_zero, List.set_cons_succ])
  refine take_first (v := ?_) 20 rfl (by kernel_rfl) (by kernel_rfl) (by kernel_rfl) (fun _ _ _ h => h) (Or.inl ⟨by rfl, ?_⟩) (by assumption) ?_
  rotate_left
  · (intro w hSw; (try dsimp only at hSw); go_simp; try with_reducible rfl)
  (try simp only [Act.put, List.setIfInBounds_toArray, List.set_cons_zero, List.set_cons_succ])
  refine take_first (v := ?_) 21 rfl (by kernel_rfl) (by kernel_rfl) (by kernel_rfl) (fun _ _ _ h => h) (Or.inl ⟨by rfl, ?_⟩) (by assumption) ?_
  rotate_left
  · (intro w hSw; (try dsimp only at hSw); go_simp; try with_reducible rfl)
  (try simp only [Act.put, List.setIfInBounds_toArray, List.set_cons_zero, List.set_cons_succ])
  refine wpAnyH_done (by kernel_rfl) ?_ _
  clear hHeld
  have HF := Lib.hid HM.out.bel
  clear HM
  go_wp2
  go_ret
  exact ⟨by have h := HR.out; simp at h ⊢; exact h, HF.out⟩
theorem timer_built (t : TimerM) (h : t.ok) : Try.prog.built 58 [(0, .agg t.cells.toArray)] = some t.cells.toArray := by
  rw [built_of 58 [34] [timerZ] (by kernel_rfl) #[(0, 34)] (fun parts => by kernel_rfl) (fun i h => by
    match i, h with
    | 0, _ => rfl
    | i + 1, h => exact absurd h (by simp)) _ (fun p hp => by
    simp only [List.mem_cons, List.not_mem_nil, or_false] at hp
    subst hp
    simp [Value.cells, TimerM.cells_length h])]
  simp [Value.cells]
set_option maxRecDepth 100000 in
set_option maxHeartbeats 8000000 in
theorem whLessC : WhLessC 21 := by
  intro a b w ha hb
  have hbt := timer_built a ha
  have hbf := fun W => whBefore_any a b W ha hb
  obtain ⟨ca, hca⟩ : ∃ x, a.cells.toArray = x := ⟨_, rfl⟩
  obtain ⟨cb, hcb⟩ : ∃ x, b.cells.toArray = x := ⟨_, rfl⟩
  rw [hca] at hbt
  simp only [hca, hcb] at hbf
  rw [hca, hcb]
  have hm := ((Lows.nil w).alloc 27 ca a.cells hca.symm).alloc 27 cb b.cells hcb.symm
  have HM := Lib.hid (show Lows w [blkL (w.heap.size + 1) 27 b.cells, blkL w.heap.size 27 a.cells] ((w.alloc (.cells ca 27)).alloc (.cells cb 27)) from by simpa using hm)
  have HOA := Lib.hid ha
  have HOB := Lib.hid hb
  have HBT := Lib.hid hbt
  have HBF := Lib.hid hbf
  have HCA := Lib.hid hca
  have HCB := Lib.hid hcb
  clear hca hcb ha hb hm hbt hbf
  go_enter Try.func21, Try.ntmps21
  go_upto_region 1 with fail
  generalize (w.alloc (.cells ca 27)).alloc (.cells cb 27) = w1 at HM ⊢
  go_wp2_with (first | (refine wpList_load_obj rfl 27 (.tmp 2) rfl w.heap.size 0 rfl a.cells (HM.out.blk 1 rfl).all _ Try.underlying27 rfl (timer_cellsOf a HOA.out) ?_; rw [HCA.out]) | (refine wpList_build_as rfl 58 [(0, .tmp 5)] rfl ca ?_ ?_; exact HBT.out) | (refine wpList_load_obj rfl 27 (.tmp 3) rfl (w.heap.size + 1) 0 rfl b.cells (HM.out.blk 0 rfl).all _ Try.underlying27 rfl (timer_cellsOf b HOB.out) ?_; rw [HCB.out]))
  refine (HBF.out _).mono ?_
  rintro e w2 ⟨rfl, hb⟩
  have HF := Lib.hid (HM.out.below hb).bel
  clear hb HM HBF
  go_wp2
  go_ret
  exact ⟨rfl, HF.out⟩
end Go.Proofs.Ytffeecaidkeepaa
namespace Go.Proofs.Ytffeecaidkeepaa
open Go.RowKit

/-- a purpose as cells -/
def purC (k : List UInt8) (d : Int) : List Value := k.map u8v ++ [.int .i64 d]
theorem purC_length {k : List UInt8} (h : k.length = 32) (d : Int) : (purC k d).length = 33 := by rw [purC, List.length_append, List.length_map, h]; rfl
theorem pur_cellsOf {k : List UInt8} (h : k.length = 32) (d : Int) : (Try.prog.info? 60).map (·.size) = some (purC k d).length := by
  rw [purC_length h]; kernel_rfl
theorem pur_one (k : List UInt8) (d : Int) : ∀ v ∈ purC k d, v.oneCell' = true := by
  intro v hv
  rw [purC] at hv
  simp only [List.mem_append, List.mem_map, List.mem_cons, List.not_mem_nil, or_false] at hv
  rcases hv with ⟨x, _, rfl⟩ | rfl <;> rfl
def purZ : List Value := purC (List.replicate 32 0) 0
theorem pur_built {k : List UInt8} (h : k.length = 32) (d : Int) : Try.prog.built 60 [(0, .agg (k.map u8v).toArray), (1, .int .i64 d)] = some (purC k d).toArray := by
  rw [built_of 60 [32, 1] [aeZ 32, [.int .i64 0]] (by kernel_rfl) #[(0, 32), (32, 1)] (fun parts => by kernel_rfl) (fun i h => by
    match i, h with
    | 0, _ => rfl
    | 1, _ => rfl
    | i + 2, h => exact absurd h (by simp)) _ (fun p hp => by
    simp only [List.mem_cons, List.not_mem_nil, or_false] at hp
    rcases hp with rfl | rfl
    · simp [Value.cells, h]
    · rfl)]
  simp [purC, Value.cells]
theorem pur_inj {k l : List UInt8} {d e : Int} (hk : k.length = 32) (hl : l.length = 32) : purC k d = purC l e ↔ (k = l ∧ d = e) := by
  refine ⟨fun h => ?_, fun h => by rw [h.1, h.2]⟩
  have h3 := List.append_inj h (by rw [List.length_map, List.length_map, hk, hl])
  have h4 := u8v_inj.1 h3.1
  have h5 := h3.2
  simp only [List.cons.injEq, Value.int.injEq, true_and, and_true] at h5
  exact ⟨h4, h5⟩
theorem pur_lits (k : List UInt8) (d : Int) (h : k.length = 32) (hd : inI64 d) : LitsAt Try.prog 5 60 (purC k d) := by
  refine lits_struct Try.underlying60 (purC k d) ?_ (by simp) ?_
  · rw [purC_length h]; kernel_rfl
  · intro f hf
    simp only [List.mem_cons, List.not_mem_nil, or_false] at hf
    rcases hf with rfl | rfl
    · have e : ((purC k d).drop 0).take (Try.prog.cellsOf 25) = k.map u8v := by
        rw [show Try.prog.cellsOf 25 = 32 by kernel_rfl, purC, List.drop_zero, List.take_left' (by rw [List.length_map, h])]
      exact e ▸ key_lits 2 k h
    · have e : ((purC k d).drop 32).take (Try.prog.cellsOf 3) = [.int .i64 d] := by
        rw [show Try.prog.cellsOf 3 = 1 by kernel_rfl, purC, List.drop_left' (by rw [List.length_map, h])]
        rfl
      unfold inI64 at hd
      exact e ▸ lits_int Try.underlying3 _ ⟨by simp [IntKind.min, IntKind.signed, IntKind.bits]; omega, by simp [IntKind.max, IntKind.signed, IntKind.bits]; omega⟩
theorem pur_eqd (k l : List UInt8) (d e : Int) (hk : k.length = 32) (hl : l.length = 32) (hd : inI64 d) (he : inI64 e) (w : World) : (Op.equalIn 10000 60 (.agg (purC k d).toArray) (.agg (purC l e).toArray)).run Try.prog w = .ok (decide (k = l) && decide (d = e)) w :=
  eq_obj 8 5 60 (by omega) (by kernel_rfl) (by kernel_rfl) (purC k d) (purC l e) (pur_lits k d hk hd) (pur_lits l e hl he) _ Try.underlying60 rfl (by rw [purC_length hk]; kernel_rfl) (by rw [purC_length hl]; kernel_rfl) _ (by rw [Bool.and_eq_true, decide_eq_true_iff, decide_eq_true_iff, pur_inj hk hl]) w
theorem pur_noguard : Try.prog.eqGuardType Try.prog.depth 60 = false := by kernel_rfl
set_option maxRecDepth 100000 in
set_option maxHeartbeats 8000000 in
theorem whPurpose_any (t : TimerM) (ht : t.ok) (w : World) : Calls Try.prog 34 #[.agg t.cells.toArray] w fun e w' => e = .returned (.agg (purC t.peer t.kind).toArray) ∧ Below w.heap.size w w' := by
  have hpb := pur_built ht.2.1 t.kind
  obtain ⟨ct, hct⟩ : ∃ z, t.cells.toArray = z := ⟨_, rfl⟩
  obtain ⟨ck, hck⟩ : ∃ z, (t.peer.map u8v).toArray = z := ⟨_, rfl⟩
  obtain ⟨cp, hcp⟩ : ∃ z, (purC t.peer t.kind).toArray = z := ⟨_, rfl⟩
  rw [hck, hcp] at hpb
  rw [hct]
  have hm := ((Mem.nil w).alloc rfl 58 ct t.cells hct.symm).alloc (g := w.heap.size + 1) (by simp) 60 #[.int .u8 0, .int .u8 0, .int .u8 0, .int .u8 0, .int .u8 0, .int .u8 0, .int .u8 0, .int .u8 0, .int .u8 0, .int .u8 0, .int .u8 0, .int .u8 0, .int .u8 0, .int .u8 0, .int .u8 0, .int .u8 0, .int .u8 0, .int .u8 0, .int .u8 0, .int .u8 0, .int .u8 0, .int .u8 0, .int .u8 0, .int .u8 0, .int .u8 0, .int .u8 0, .int .u8 0, .int .u8 0, .int .u8 0, .int .u8 0, .int .u8 0, .int .u8 0, .int .i64 0] purZ rfl
  have HM := Lib.hid (show Mem w [blkE (w.heap.size + 1) 60 purZ, blkE w.heap.size 58 t.cells] ((w.alloc (.cells ct 58)).alloc (.cells #[.int .u8 0, .int .u8 0, .int .u8 0, .int .u8 0, .int .u8 0, .int .u8 0, .int .u8 0, .int .u8 0, .int .u8 0, .int .u8 0, .int .u8 0, .int .u8 0, .int .u8 0, .int .u8 0, .int .u8 0, .int .u8 0, .int .u8 0, .int .u8 0, .int .u8 0, .int .u8 0, .int .u8 0, .int .u8 0, .int .u8 0, .int .u8 0, .int .u8 0, .int .u8 0, .int .u8 0, .int .u8 0, .int .u8 0, .int .u8 0, .int .u8 0, .int .u8 0, .int .i64 0] 60)) from hm)
  have HOT := Lib.hid ht
  have HPB := Lib.hid hpb
  have HCK := Lib.hid hck
  have HCP := Lib.hid hcp
  clear hct hck hm ht hpb
  go_enter Try.func34, Try.ntmps34
  go_upto_region 1 with fail
  generalize (w.alloc (.cells ct 58)).alloc (.cells #[.int .u8 0, .int .u8 0, .int .u8 0, .int .u8 0, .int .u8 0, .int .u8 0, .int .u8 0, .int .u8 0, .int .u8 0, .int .u8 0, .int .u8 0, .int .u8 0, .int .u8 0, .int .u8 0, .int .u8 0, .int .u8 0, .int .u8 0, .int .u8 0, .int .u8 0, .int .u8 0, .int .u8 0, .int .u8 0, .int .u8 0, .int .u8 0, .int .u8 0, .int .u8 0, .int .u8 0, .int .u8 0, .int .u8 0, .int .u8 0, .int .u8 0, .int .u8 0, .int .i64 0] 60) = w1 at HM ⊢
  have fk := kind_at (HM.out.blk 1 rfl).all HOT.out
  have HKL := Lib.hid (key_cellsOf t.peer HOT.out.2.1)
  obtain ⟨kd, hkd⟩ : ∃ z, t.kind = z := ⟨_, rfl⟩
  rw [hkd] at fk HPB hcp
  have HKD := Lib.hid hkd
  clear hkd hcp
  go_wp2_with (first | (refine wpList_load_obj rfl 25 (.tmp 4) rfl w.heap.size 1 rfl (t.peer.map u8v) (peer_at (HM.out.blk 1 rfl).all) _ Try.underlying25 rfl HKL.out ?_; rw [HCK.out]) | (refine wpList_build_as rfl 60 [(0, .tmp 5), (1, .tmp 8)] rfl cp ?_ ?_; exact HPB.out) | (refine wpList_store_obj rfl 60 (.tmp 2) (.tmp 9) rfl (w.heap.size + 1) 0 (purC t.peer t.kind) rfl (by show Value.agg cp = _; rw [HCP.out]) 60 purZ (HM.out.blk 0 rfl) (pur_cellsOf HOT.out.2.1 _) (by rw [purC_length HOT.out.2.1]; decide) (pur_one _ _) ?_; intro w9 hb9 hg9))
  rw [setL_all _ _ (by rw [purC_length HOT.out.2.1]; rfl)] at hb9
  exact bodyPost_ret (results_obj rfl _ _ (w.heap.size + 1) 60 (purC t.peer t.kind) _ rfl hb9 Try.underlying60 rfl (pur_cellsOf HOT.out.2.1 _)) rfl ⟨rfl, HM.out.bel.grown hg9 HM.out.bel.size (fun k hk => by injection hk with hk; omega)⟩
set_option maxRecDepth 100000 in
set_option maxHeartbeats 8000000 in
theorem whPermitted_any (t : TimerM) (ht : t.ok) (w : World) : Calls Try.prog 33 #[.agg t.cells.toArray] w fun e w' => e = .returned (.bool (permT t)) ∧ Below w.heap.size w w' := by
  obtain ⟨ct, hct⟩ : ∃ z, t.cells.toArray = z := ⟨_, rfl⟩
  rw [hct]
  have HM := Lib.hid (show Mem w [blkE w.heap.size 58 t.cells] (w.alloc (.cells ct 58)) from (Mem.nil w).alloc rfl 58 ct t.cells hct.symm)
  have HOT := Lib.hid ht
  clear hct ht
  go_enter Try.func33, Try.ntmps33
  go_upto_region 1 with fail
  generalize w.alloc (.cells ct 58) = w1 at HM ⊢
  have fk := kind_at (HM.out.blk 0 rfl).all HOT.out
  have ft := tm_at (HM.out.blk 0 rfl).all
  obtain ⟨kd, hkd⟩ : ∃ z, t.kind = z := ⟨_, rfl⟩
  obtain ⟨tq, htq⟩ : ∃ z, t.tm = z := ⟨_, rfl⟩
  have HR := Lib.hid (show permT t = (decide (1 ≤ kd) && decide (kd ≤ 5) && decide (0 ≤ tq) && decide (tq ≤ 4398046511104)) from by rw [permT, hkd, htq])
  rw [hkd] at fk
  rw [htq] at ft
  clear hkd htq
  obtain ⟨y1, hy1⟩ : ∃ y, decide (1 ≤ kd) = y := ⟨_, rfl⟩
  obtain ⟨y2, hy2⟩ : ∃ y, decide (kd ≤ 5) = y := ⟨_, rfl⟩
  obtain ⟨y3, hy3⟩ : ∃ y, decide (0 ≤ tq) = y := ⟨_, rfl⟩
  obtain ⟨y4, hy4⟩ : ∃ y, decide (tq ≤ 4398046511104) = y := ⟨_, rfl⟩
  rw [hy1, hy2, hy3, hy4] at HR
  cases y1 with
  | false =>
    go_wp2
    go_ret
    exact ⟨by rw [HR.out]; rfl, HM.out.bel⟩
  | true =>
    cases y2 with
    | false =>
      go_wp2
      go_ret
      exact ⟨by rw [HR.out]; rfl, HM.out.bel⟩
    | true =>
      cases y3 with
      | false =>
        go_wp2
        go_ret
        exact ⟨by rw [HR.out]; rfl, HM.out.bel⟩
      | true =>
        go_wp2
        go_ret
        exact ⟨by rw [HR.out]; first | rfl | (rw [← hy4]; rfl) | simp [hy4], HM.out.bel⟩
end Go.Proofs.Ytffeecaidkeepaa
