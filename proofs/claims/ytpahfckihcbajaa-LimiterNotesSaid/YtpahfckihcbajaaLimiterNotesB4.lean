/-
  The contract of the program's Allow. LimiterNotes returns true for every input, by what the landed functions give. No statement is proved here.
-/
import Derived.Shelf.Abstract
import Derived.RegionTactic
import Derived.Deep.DeepCutAuto
import Derived.Test.YtpahfckihcbajaaLimiterNotesB3
namespace Go.Proofs.Ytpahfckihcbajaa
open Go.RowKit

theorem bks_one2 (l : List BucketM) : ∀ x ∈ bksV l, ∀ v ∈ x, v.oneCell' = true := fun x hx v hv => bksV_one l v (List.mem_flatten.2 ⟨x, hx, hv⟩)
theorem given_len {l G : List BucketM} {a : AddrM} {now : Int} {p : Nat} (h : givenM l a now = (G, p)) : G.length ≤ l.length + 1 := by
  unfold givenM at h
  split at h
  · injection h with h _
    rw [← h, List.length_modify]
    omega
  · injection h with h _
    rw [← h, List.length_append, List.length_cons, List.length_take, List.length_drop]
    have : (roomM l).length ≤ l.length := by
      unfold roomM
      split
      · rw [List.length_eraseIdx]
        split <;> omega
      · exact Nat.le_refl _
    omega
set_option maxRecDepth 100000 in
set_option maxHeartbeats 8000000 in
theorem pAllow_any : LmAllowC 17 := by
  intro A n c l a now w hnc hcm hn1 hr ht ha hnow
  obtain ⟨ik, hk1, hk2, hk3, hk4⟩ := bkInfo
  have HKI := Lib.hid (And.intro hk1 (And.intro hk2 (And.intro hk3 hk4)))
  have HA := Lib.hid ha
  have HNOW := Lib.hid hnow
  have HT := Lib.hid ht
  have HLN := Lib.hid hr.len
  have HOKS := Lib.hid hr.2
  have HBK := Lib.hid (fun (tt : Int) (h : inI64 tt) => bk_built ⟨a, 5000, tt⟩ ⟨ha, (show inI64 5000 from by unfold inI64; omega), h⟩)
  obtain ⟨ac, hac⟩ : ∃ z, a.cells.toArray = z := ⟨_, rfl⟩
  rw [hac]
  have HAC := Lib.hid hac
  have HM := Lib.hid (show Mem w [blkE w.heap.size 35 a.cells] (w.alloc (.cells ac 35)) from (Mem.nil w).alloc rfl 35 ac _ hac.symm)
  have HR1 := Lib.hid (show BkRd (w.alloc (.cells ac 35)) (w.alloc (.cells ac 35)).heap.size A n l from (hr.below HM.out.bel).mono HM.out.size)
  obtain ⟨al, hal⟩ : ∃ z, allowM l a now = z := ⟨_, rfl⟩
  have HAL := Lib.hid hal
  rw [hal]
  clear hk1 hk2 hk3 hk4 ha hnow ht hr hac hal hnc hcm
  go_enter Try.func17, Try.ntmps17
  go_upto_region 1 with fail
  generalize w.alloc (.cells ac 35) = w1 at HM HR1 ⊢
  have HG := Lib.hid (show w.heap.size < w1.heap.size from (HM.out.blk 0 rfl).lt)
  go_wp2_with fail
  refine (bkClone_any A n c (bksV l) hn1 (bks_one2 l) w1 HR1.out.1).mono ?_
  rintro e w2 ⟨A2, c2, rfl, hown, hb⟩
  have HAB := Lib.hid (fun (W : World) (h : Below w1.heap.size w1 W) => (show Blk W w.heap.size 35 a.cells from (HM.out.blk 0 rfl).below h HG.out))
  have HD := Lib.hid (bkFirst_any A2 n c2 (bksV l) (by omega) (bks_one2 l) 28 #[.pointer (some ⟨w.heap.size, 0, none⟩)] (enters_of Try.func28 (by kernel_rfl) rfl) (cellsB fun b => decide (b.a = a)) w1.heap.size w2 hb.size (BkRd.of_own HLN.out HOKS.out hown).1 (by
    intro o ho W hW
    obtain ⟨s, hs, _, rfl⟩ := bks_mem HOKS.out ho
    rw [cellsB_is _ hs]
    exact isPred_any a HA.out s hs _ W (HAB.out W (hb.trans hW))))
  rw [firstM_bks _ HOKS.out] at HD
  have HO := Lib.hid hown
  have HB := Lib.hid hb
  have HBW := Lib.hid (show Below w.heap.size w w1 from HM.out.bel)
  clear hown hb HM HR1
  go_upto_region 2 with fail
  go_wp2_with fail
  refine HD.out.mono ?_
  rintro e w3 ⟨rfl, hb⟩
  have HO3 := Lib.hid (own_below HO.out hb)
  have HB3 := Lib.hid (HB.out.trans (hb.mono HB.out.size))
  clear hb HD HO HB
  obtain ⟨q, hq⟩ : ∃ q, (l.findIdx? fun b => decide (b.a = a)).getD l.length = q := ⟨_, rfl⟩
  rw [hq]
  have HQ := Lib.hid hq
  clear hq
  obtain ⟨bq, hbq⟩ : ∃ b, decide ((q : Int) < (n : Int)) = b := ⟨_, rfl⟩
  have HBQ := Lib.hid hbq
  have HSZ := Lib.hid (And.intro HG.out HB3.out.size)
  have HFW := Lib.hid (show Below w.heap.size w w3 from HBW.out.trans (HB3.out.mono (Nat.le_of_lt HG.out)))
  generalize w1.heap.size = B1 at HO3 HB3 HSZ HAB HG
  go_upto_region 3 with fail
  have hbq2 : decide (q < n) = bq := by rw [← hbq]; simp
  go_cut [18] (fun v18 wx => v18 = .bool bq ∧ wx = w3)
  case first =>
    go_wp2_with fail
    go_meet
    exact ⟨rfl, rfl⟩
  obtain ⟨rfl, hw3⟩ := hcut
  subst hw3
  obtain ⟨w3, rfl⟩ : ∃ z, z = wc := ⟨wc, rfl⟩
  clear hbq hbq2
  go_upto_if 18 with fail
  go_cut [8, 9] (fun v8 v9 wx => ∃ (A3 : Option Addr) (c3 : Nat) (G : List BucketM) (p : Nat), v8 = .slice A3 G.length c3 ∧ v9 = .int .i64 (p : Int) ∧ givenM l a now = (G, p) ∧ p < G.length ∧ (∀ s ∈ G, s.ok) ∧ wx.ownsRow B1 44 19 (.slice A3 G.length c3) G.length (bksV G).flatten ∧ Below w.heap.size w wx)
  case first =>
    cases bq with
    | true =>
      have hqn : q < n := by have := of_decide_eq_true HBQ.out; omega
      obtain ⟨b, hb0, hgv⟩ : ∃ b, l[q]? = some b ∧ givenM l a now = (l.set q (filledM b now), q) := by
        have hq := HQ.out
        cases hf : l.findIdx? fun b => decide (b.a = a) with
        | none =>
          rw [hf] at hq
          have h2 := HLN.out
          simp only [Option.getD_none] at hq
          omega
        | some i =>
          rw [hf] at hq
          obtain rfl : i = q := hq
          obtain ⟨hi, _, _⟩ := List.findIdx?_eq_some_iff_getElem.1 hf
          refine ⟨l[i], List.getElem?_eq_getElem hi, ?_⟩
          rw [givenM, hf]
          show (l.modify i fun b => filledM b now, i) = _
          rw [modify_set (List.getElem?_eq_getElem hi)]
      have HOK := Lib.hid (HOKS.out b (List.mem_of_getElem? hb0))
      have htk := HT.out b (List.mem_of_getElem? hb0)
      have hfo := (filled_ok HOK.out HNOW.out htk.1 htk.2).1
      have hfl := fun W => pFilled_any b now HOK.out HNOW.out htk.1 htk.2 W
      obtain ⟨bc, hbc⟩ : ∃ z, b.cells.toArray = z := ⟨_, rfl⟩
      obtain ⟨fb, hfb⟩ : ∃ z, filledM b now = z := ⟨_, rfl⟩
      obtain ⟨fc, hfc⟩ : ∃ z, fb.cells.toArray = z := ⟨_, rfl⟩
      simp only [hbc, hfb, hfc] at hfl
      rw [hfb] at hfo hgv
      have HFL := Lib.hid hfl
      have HFO := Lib.hid hfo
      have HBC := Lib.hid hbc
      have HFC := Lib.hid hfc
      have HGV := Lib.hid hgv
      obtain ⟨g, rest, hA2, hbg, hblk, hrl, hnc2, hcm2⟩ := bkOwn_blk HO3.out (by omega)
      subst hA2
      have HBL := Lib.hid hblk
      have HAT := Lib.hid (bk_row_at hblk HOKS.out hb0)
      have HRL := Lib.hid (And.intro hbg (And.intro hrl (And.intro hnc2 hcm2)))
      have HQL := Lib.hid (show q < l.length from by rw [HLN.out]; exact hqn)
      have e2 : (q : Int) < (n : Int) := by omega
      have d2 : decide ((q : Int) < (n : Int)) = true := decide_eq_true e2
      have d3 : decide (q < n) = true := decide_eq_true hqn
      clear hb0 htk hfo hfl hbc hfb hfc hgv hblk hbg hrl hnc2 hcm2 HO3
      go_wp2_with ((with_reducible refine at_op (.load 44 (.tmp 23)) rfl ?_); refine wpList_load_obj rfl 44 (.tmp 23) rfl g _ rfl b.cells HAT.out _ Try.underlying44 rfl (bk_cellsOf b HOK.out) ?_; rw [HBC.out])
      refine (HFL.out _).mono ?_
      rintro e w4 ⟨rfl, hb4⟩
      have HBL4 := Lib.hid (show Blk w4 g 44 ((bksV l).flatten ++ rest) from HBL.out.below hb4 HBL.out.lt)
      have HF4 := Lib.hid (And.intro (HFW.out.trans (hb4.mono HFW.out.size)) (Nat.le_trans (Nat.le_trans HG.out HSZ.out.2) hb4.size))
      clear hb4 HFL HBL
      go_wp2_with ((with_reducible refine at_op (.store 44 (.tmp 27) (.tmp 26)) rfl ?_); refine wpList_store_obj rfl 44 (.tmp 27) (.tmp 26) rfl g (q * 19) fb.cells rfl (by show Value.agg fc = _; rw [HFC.out]) 44 ((bksV l).flatten ++ rest) HBL4.out (bk_cellsOf fb HFO.out) (by rw [List.length_append, flat_length (bksV_size HOKS.out), bksV_len, HLN.out, BucketM.cells_length HFO.out]; have := Nat.mul_le_mul_right 19 (show q + 1 ≤ n from hqn); omega) (bk_one fb) ?_; intro w5 hb5 hg5)
      go_meet
      rw [bk_row_set HOKS.out HQL.out HFO.out] at hb5
      have hln : (l.set q fb).length = n := by rw [List.length_set, HLN.out]
      exact ⟨some ⟨g, 0, none⟩, c2, l.set q fb, q, by rw [hln], rfl, HGV.out, by rw [hln]; exact hqn, bks_set_ok HOKS.out HFO.out, by rw [hln]; exact bkBlk_own hb5 hln (bks_set_ok HOKS.out HFO.out) HRL.out.1 HRL.out.2.1 HRL.out.2.2.1 HRL.out.2.2.2, HF4.out.1.grown hg5 HF4.out.1.size (fun k hk => by injection hk with hk; have := HRL.out.1; have := HG.out; omega)⟩
    | false =>
      have hqn : n ≤ q := by have := of_decide_eq_false HBQ.out; omega
      have hgv : givenM l a now = ((roomM l).take (aheadB a (roomM l)) ++ newM a now :: (roomM l).drop (aheadB a (roomM l)), aheadB a (roomM l)) := by
        have hq := HQ.out
        cases hf : l.findIdx? fun b => decide (b.a = a) with
        | none => rw [givenM, hf]
        | some i =>
          rw [hf] at hq
          obtain rfl : i = q := hq
          obtain ⟨hi, _, _⟩ := List.findIdx?_eq_some_iff_getElem.1 hf
          have h2 := HLN.out
          omega
      have hlr : (roomM l).length ≤ n := by
        rw [← HLN.out]
        unfold roomM
        split
        · rw [List.length_eraseIdx]
          split <;> omega
        · exact Nat.le_refl _
      have hokr : ∀ s ∈ roomM l, s.ok := fun s hs => by
        unfold roomM at hs
        split at hs
        · exact HOKS.out s (List.mem_of_mem_eraseIdx hs)
        · exact HOKS.out s hs
      have hroom := pRoom_any B1 A2 n c2 l hn1 HLN.out HOKS.out w3 HSZ.out.2 HO3.out
      obtain ⟨R, hR⟩ : ∃ z, roomM l = z := ⟨_, rfl⟩
      rw [hR] at hgv hlr hokr hroom
      obtain ⟨m, hm⟩ : ∃ z, R.length = z := ⟨_, rfl⟩
      rw [hm] at hlr hroom
      have HM := Lib.hid hm
      have HGV := Lib.hid hgv
      have HOKR := Lib.hid hokr
      have HROOM := Lib.hid hroom
      clear hgv hokr hroom hR hm HO3
      go_wp2_with fail
      refine HROOM.out.mono ?_
      rintro e w4 ⟨A4, c4, rfl, hown, hb⟩
      have hlt4 := fun (g : Nat) (hA : A4 = some ⟨g, 0, none⟩) => (hown.lt g (by rw [hA]; rfl)).2
      have HO4 := Lib.hid hown
      have HB4 := Lib.hid (HB3.out.trans hb)
      have HF4 := Lib.hid (And.intro (HFW.out.trans (hb.mono (Nat.le_of_lt HG.out))) (Nat.le_trans HSZ.out.2 hb.size))
      have HD := Lib.hid (bkFirst_any A4 m c4 (bksV R) (by omega) (bks_one2 R) 31 #[.pointer (some ⟨w.heap.size, 0, none⟩)] (enters_of Try.func31 (by kernel_rfl) rfl) (cellsB fun b => lessM a b.a) w4.heap.size w4 (Nat.le_refl _) (BkRd.of_own HM.out HOKR.out hown).1 (by
        intro o ho W hW
        obtain ⟨s, hs, _, rfl⟩ := bks_mem HOKR.out ho
        rw [cellsB_is _ hs]
        exact aheadPred_any a HA.out s hs _ W (HAB.out W (HB4.out.trans (hW.mono HF4.out.2)))))
      rw [firstM_bks _ HOKR.out] at HD
      have HLT := Lib.hid hlt4
      clear hown hb HROOM hlt4
      go_wp2_with fail
      refine HD.out.mono ?_
      rintro e w5 ⟨rfl, hb⟩
      obtain ⟨p, hp⟩ : ∃ z, aheadB a R = z := ⟨_, rfl⟩
      have hpm : p ≤ m := by rw [← hp, ← HM.out]; exact ahead_le a R
      have hp2 : (R.findIdx? fun b => lessM a b.a).getD R.length = p := hp
      rw [hp2]
      rw [hp] at HGV
      have HO5 := Lib.hid (own_below HO4.out hb)
      have HB5 := Lib.hid (HB4.out.trans (hb.mono HF4.out.2))
      have HF5 := Lib.hid (And.intro (HF4.out.1.trans (hb.mono HF4.out.1.size)) (And.intro (Nat.le_trans HF4.out.2 hb.size) hb.size))
      have HAT := Lib.hid (HAB.out w5 HB5.out)
      clear hb HD HB4 HO4 hp hp2
      obtain ⟨nc, hnb⟩ : ∃ z, (newM a now).cells.toArray = z := ⟨_, rfl⟩
      have hbt := HBK.out now HNOW.out
      rw [show (⟨a, 5000, now⟩ : BucketM) = newM a now from rfl, hnb, HAC.out] at hbt
      have HBT := Lib.hid hbt
      have HNB := Lib.hid hnb
      have HNK := Lib.hid (show (newM a now).ok from ⟨HA.out, (show inI64 5000 from by unfold inI64; omega), HNOW.out⟩)
      clear hnb hbt
      go_wp2_with (first | ((with_reducible refine at_op (.load 35 (.tmp 4)) rfl ?_); refine wpList_load_obj rfl 35 (.tmp 4) rfl w.heap.size 0 rfl a.cells HAT.out.all _ Try.underlying35 rfl (addr_cellsOf a HA.out) ?_; rw [HAC.out]) | (refine wpList_build_as rfl 44 [(0, .tmp 35), (1, .const (.int .i64 5000)), (2, .tmp 36)] rfl nc ?_ ?_; exact HBT.out) | (refine wpList_buildOne rfl 32 44 (.tmp 37) rfl nc rfl 19 Try.underlying32 ik HKI.out.1 HKI.out.2.2.1 _ HKI.out.2.1 (by omega) (by omega) (by rw [← HNB.out, List.size_toArray, BucketM.cells_length HNK.out]) ?_))
      have HI := Lib.hid (bkIns_any B1 A4 m c4 p (bksV R) (newM a now).cells (by omega) hpm (by rw [bksV_len]; exact HM.out) (bksV_size HOKR.out) (bks_one2 R) (BucketM.cells_length HNK.out) (bk_one _) w5.heap.size (w5.alloc (.cells nc 44)) (Nat.le_trans HF5.out.2.1 (by simp)) (HO5.out.alloc _) (by rw [← HNB.out]; exact Blk.new w5 44 _) (fun ad h => by
        have h2 := HF5.out.2.2
        rcases HO5.out.2 with ⟨h3, _⟩ | ⟨g, cap, cur, h3, _⟩
        · injection h3 with h3
          rw [h3] at h
          cases h
        · injection h3 with h3
          have h4 := HLT.out g h3
          rw [h3] at h
          injection h with h
          subst h
          show g ≠ _
          omega))
      have HF6 := Lib.hid (show Below w.heap.size w (w5.alloc (.cells nc 44)) from HF5.out.1.alloc HF5.out.1.size _)
      generalize w5.alloc (.cells nc 44) = w6 at HI HF6 ⊢
      refine HI.out.mono ?_
      rintro e w7 ⟨v7, rfl, ho7, hb7⟩
      obtain ⟨A7, c7, rfl, _⟩ := own_sliceK ho7
      have HO7 := Lib.hid ho7
      have HF7 := Lib.hid (HF6.out.trans (hb7.mono (Nat.le_of_lt HG.out)))
      clear ho7 hb7 HI
      go_wp2_with fail
      go_meet
      have hln : (R.take p ++ newM a now :: R.drop p).length = m + 1 := by rw [List.length_append, List.length_cons, List.length_take, List.length_drop, HM.out]; omega
      exact ⟨A7, c7, R.take p ++ newM a now :: R.drop p, p, by rw [hln], rfl, HGV.out, by rw [hln]; omega, fun s hs => by
        rcases List.mem_append.1 hs with hs | hs
        · exact HOKR.out s (List.mem_of_mem_take hs)
        · rcases List.mem_cons.1 hs with rfl | hs
          · exact HNK.out
          · exact HOKR.out s (List.mem_of_mem_drop hs), by
        rw [hln]
        have h := HO7.out
        rw [bksV_take, bksV_drop, show bksV (R.take p) ++ (newM a now).cells :: bksV (R.drop p) = bksV (R.take p ++ newM a now :: R.drop p) from by simp [bksV]] at h
        exact h, HF7.out⟩
  obtain ⟨A3, c3, G, p, rfl, rfl, hgv, hpg, hokg, hown, hbw⟩ := hcut
  obtain ⟨b, hb0⟩ : ∃ b, G[p]? = some b := ⟨G[p], List.getElem?_eq_getElem hpg⟩
  have hgl := given_len hgv
  obtain ⟨m, hm⟩ : ∃ z, G.length = z := ⟨_, rfl⟩
  rw [hm] at hpg hown hgl ⊢
  have hml : m ≤ 1001 := by have := HLN.out; omega
  obtain ⟨g, rest, hA3, hbg, hblk, hrl, hnc3, hcm3⟩ := bkOwn_blk hown (by omega)
  subst hA3
  have HAT := Lib.hid (bk_row_at hblk hokg hb0)
  have HOK := Lib.hid (hokg b (List.mem_of_getElem? hb0))
  have ftk := bk_tok_at HAT.out HOK.out
  have zz := hblk.frozen (p * 19 + 17)
  have HTK := Lib.hid (show inI64 b.tok from HOK.out.2.1)
  obtain ⟨t, ht⟩ : ∃ z, b.tok = z := ⟨_, rfl⟩
  rw [ht] at ftk HTK
  have HLO := Lib.hid (fun (h : t < 1000) => (show al = (G, false) from by rw [← HAL.out, allowM, hgv]; exact takeB_low hb0 (by rw [ht]; exact h)))
  have HHI := Lib.hid (fun (h : ¬ t < 1000) => (show al = (G.set p { b with tok := t - 1000 }, true) from by rw [← HAL.out, allowM, hgv, ← ht]; exact takeB_high hb0 (by rw [ht]; exact h)))
  have HRT := Lib.hid (fun v => bk_row_tok (rest := rest) hokg hb0 v)
  have HBL := Lib.hid hblk
  have HOKG := Lib.hid hokg
  have HRL := Lib.hid (And.intro hbg (And.intro hrl (And.intro hnc3 hcm3)))
  have HMM := Lib.hid hm
  have HOWN := Lib.hid hown
  have HBW := Lib.hid hbw
  have e2 : (p : Int) < (m : Int) := by omega
  have d2 : decide ((p : Int) < (m : Int)) = true := decide_eq_true e2
  have d3 : decide (p < m) = true := decide_eq_true hpg
  clear hgv hokg hown hbw hb0 hblk hbg hrl hnc3 hcm3 hm hgl HAT ht HBQ HQ
  by_cases hl : t < 1000
  · have d1 : decide (t < 1000) = true := decide_eq_true hl
    have HE := Lib.hid (HLO.out hl)
    clear hl
    go_wp2_with fail
    go_ret2
    exact ⟨some ⟨g, 0, none⟩, m, c3, by rw [HE.out]; rfl, HRL.out.2.2.1, HRL.out.2.2.2, by rw [HE.out]; exact BkRd.of_own HMM.out HOKG.out HOWN.out, HBW.out⟩
  · have d1 : decide (t < 1000) = false := decide_eq_false hl
    have HE := Lib.hid (HHI.out hl)
    have hk := HTK.out
    have w1' : IntKind.i64.wrap (t - 1000) = t - 1000 := by rw [IntKind.wrap_i64]; have := hk.1; have := hk.2; omega
    have HNO := Lib.hid (show BucketM.ok { b with tok := t - 1000 } from ⟨HOK.out.1, ⟨by show -9223372036854775808 ≤ t - 1000; omega, by show t - 1000 ≤ 9223372036854775807; have := hk.2; omega⟩, HOK.out.2.2⟩)
    obtain ⟨t2, ht2⟩ : ∃ z, t - 1000 = z := ⟨_, rfl⟩
    rw [ht2] at w1' HE HNO
    have hs2 : decide (t - 1000 = t2) = true := decide_eq_true ht2
    clear hl hk hs2
    go_wp2_with fail
    go_ret2
    have hb9 := HBL.out.setCell (p * 19 + 17) (.int .i64 t2)
    rw [HRT.out] at hb9
    have hln : (G.set p { b with tok := t2 }).length = m := by rw [List.length_set]; exact HMM.out
    have hok9 := bks_set_ok HOKG.out HNO.out (p := p)
    exact ⟨some ⟨g, 0, none⟩, m, c3, by rw [HE.out]; rfl, HRL.out.2.2.1, HRL.out.2.2.2, by rw [HE.out]; exact BkRd.of_own hln hok9 (bkBlk_own hb9 hln hok9 HRL.out.1 HRL.out.2.1 HRL.out.2.2.1 HRL.out.2.2.2), HBW.out.setCell (p := ⟨g, p * 19 + 17, none⟩) (by have := HRL.out.1; have := HG.out; show _ ≤ g; omega) _⟩
end Go.Proofs.Ytpahfckihcbajaa
namespace Go.Proofs.Ytpahfckihcbajaa
open Go.RowKit

theorem lm_notes_walk_all (w : World) (A0 : Option Addr) (n0 c0 : Nat) (raw : List Int) (A1 : Option Addr) (n1 c1 : Nat) (st : List UInt8) (now load : Int) (h0 : n0 ≤ c0 ∧ c0 ≤ maxLen) (hr0 : IntRd .i64 w w.heap.size A0 n0 raw) (hri : ∀ x ∈ raw, -9223372036854775808 ≤ x ∧ x ≤ 9223372036854775807) (hnc1 : n1 ≤ c1) (hcm1 : c1 ≤ maxLen) (hr1 : Rd w w.heap.size A1 n1 st) (hnow : -9223372036854775808 ≤ now ∧ now ≤ 9223372036854775807) (hload : -9223372036854775808 ≤ load ∧ load ≤ 9223372036854775807) :
    Calls Try.prog 3 #[.slice A0 n0 c0, .slice A1 n1 c1, .int .i64 now, .int .i64 load] w fun e w' => e = .returned (.bool true) ∧ Below w.heap.size w w' :=
  lm_notes_walk pNote_any pLoaded_any pAllow_any w A0 n0 c0 raw A1 n1 c1 st now load h0.1 h0.2 hr0 (fun x hx => hri x hx) hnc1 hcm1 hr1 hnow hload
end Go.Proofs.Ytpahfckihcbajaa
