/-
  The contract of the reference's Allow. What a walk keeps of the memory that it has made, where the call changes one block of its caller's. The contracts of the choices that the statements are made of: Left, Next. A row that was made is a block; bytes that were read stay. The choices that the statements are made of, at a world. No statement is proved here.
-/
import Derived.RegionTactic
import Derived.Deep.DeepCutAuto
import Derived.Test.YtpahfckihcbajaaLimiterAllowsB2
namespace Go.Proofs.Ytpahfckihcbajaa
open Go.RowKit
def atM (l : List BucketM) (a : AddrM) (j : Nat) : Int := match (l.take j).findIdx? fun b => decide (b.a = a) with
  | some i => (i : Int)
  | none => -1
theorem at_step {l : List BucketM} {a : AddrM} {j : Nat} {r : BucketM} (h : l[j]? = some r) : atM l a (j + 1) = if r.a = a ∧ atM l a j < 0 then (j : Int) else atM l a j := by
  have hj := (List.getElem?_eq_some_iff.1 h).1
  unfold atM
  rw [take_snoc h, List.findIdx?_append]
  cases hf : (l.take j).findIdx? fun b => decide (b.a = a) with
  | some i =>
    simp only [Option.some_or]
    rw [if_neg (by omega)]
  | none =>
    by_cases hr : r.a = a
    · have e : ([r].findIdx? fun b => decide (b.a = a)) = some 0 := by simp [List.findIdx?_cons, hr]
      rw [e, if_pos ⟨hr, (show (-1 : Int) < 0 by omega)⟩]
      show ((0 + (l.take j).length : Nat) : Int) = (j : Int)
      rw [List.length_take]
      omega
    · have e : ([r].findIdx? fun b => decide (b.a = a)) = none := by simp [List.findIdx?_cons, hr]
      rw [e, if_neg (fun h => hr h.1)]
      rfl
theorem at_lt (l : List BucketM) (a : AddrM) (j : Nat) : -1 ≤ atM l a j ∧ atM l a j ≤ (l.length : Int) := by
  unfold atM
  cases hf : (l.take j).findIdx? fun b => decide (b.a = a) with
  | none => exact (show -1 ≤ (-1 : Int) ∧ (-1 : Int) ≤ (l.length : Int) from ⟨by omega, by omega⟩)
  | some i =>
    obtain ⟨hi, _⟩ := List.findIdx?_eq_some_iff_getElem.1 hf
    rw [List.length_take] at hi
    exact (show -1 ≤ (i : Int) ∧ (i : Int) ≤ (l.length : Int) from ⟨by omega, by omega⟩)
theorem bk_info19 : (Try.prog.info? 44).map (·.size) = some 19 := by
  obtain ⟨i, h1, _, h3, _⟩ := bkInfo
  rw [h1]
  exact congrArg some h3
set_option maxRecDepth 100000 in
set_option maxHeartbeats 8000000 in
theorem refAllow_any : LmAllowC 18 := by
  intro A n c l a now w hnc hcm hn1 hr ht ha hnow
  obtain ⟨ik, hk1, hk2, hk3, hk4⟩ := bkInfo
  have HKI := Lib.hid (And.intro hk1 (And.intro hk2 (And.intro hk3 hk4)))
  have HA := Lib.hid ha
  have HNOW := Lib.hid hnow
  have HT := Lib.hid ht
  have HLN := Lib.hid hr.len
  obtain ⟨ac, hac⟩ : ∃ z, a.cells.toArray = z := ⟨_, rfl⟩
  rw [hac]
  have HAC := Lib.hid hac
  have HM := Lib.hid (show Mem w [blkE w.heap.size 35 a.cells] (w.alloc (.cells ac 35)) from (Mem.nil w).alloc rfl 35 ac _ hac.symm)
  have HR1 := Lib.hid (show BkRd (w.alloc (.cells ac 35)) (w.alloc (.cells ac 35)).heap.size A n l from (hr.below HM.out.bel).mono HM.out.size)
  obtain ⟨al, hal⟩ : ∃ z, allowM l a now = z := ⟨_, rfl⟩
  have HAL := Lib.hid hal
  rw [hal]
  clear hk1 hk2 hk3 hk4 ha hnow ht hr hac hal
  go_enter Try.func18, Try.ntmps18
  go_upto_region 1 with fail
  generalize w.alloc (.cells ac 35) = w1 at HM HR1 ⊢
  go_upto_region 2 with (refine wpList_append_rows _ rfl (.const (.slice none 0 0)) (.tmp 13) 32 rfl w1.heap.size 44 ik _ 19 40 Try.underlying32 HKI.out.1 HKI.out.2.1 HKI.out.2.2.1 HKI.out.2.2.2 (by rfl) (by decide) (.slice none 0 0) 0 [] rfl (World.ownsRow_nil _ _ _ _) w1.heap.size A n c (bksV l) rfl HR1.out.1 (bksV_one _) (by unfold maxLen; omega) (by omega) (Nat.le_refl _) ?_; intro v1 w2 hown1 hg1 _)
  rw [Nat.zero_add, List.nil_append] at hown1
  have hb2 : Below w1.heap.size w1 w2 := (Below.refl _ _).grown hg1 (Nat.le_refl _) (by simp [Value.ownBlock])
  obtain ⟨A2, c2, rfl, hnc2, hcm2, hfr2⟩ := own_sliceK hown1
  have HOWN := Lib.hid hown1
  have HNN := Lib.hid (show (A2 = none ∧ n = 0 ∧ c2 = 0) ∨ A2 ≠ none from by
    rcases hown1.2 with ⟨h, h0⟩ | ⟨g, cap, cur, h, _⟩
    · injection h with h1 _ h2
      exact .inl ⟨h1, h0, h2⟩
    · injection h with h1
      exact .inr (by rw [h1]; simp))
  have HOKS := Lib.hid HR1.out.2
  have HRD := Lib.hid (show BkRd w2 w2.heap.size A2 n l from BkRd.of_own HLN.out HR1.out.2 hown1)
  have HNC := Lib.hid (And.intro hnc2 (And.intro hcm2 hn1))
  have HBW := Lib.hid (HM.out.bel.trans (hb2.mono HM.out.size))
  have HP4 := Lib.hid (show ∀ W, Below w2.heap.size w2 W → At W w.heap.size 0 a.cells from fun W hW => (((HM.out.below hb2).below hW).blk 0 rfl).all)
  have HW1 := Lib.hid HM.out.size
  clear hown1 hg1 hb2 hnc2 hcm2 hfr2 HM HR1 hnc hcm
  go_wp2_with fail
  go_loopw [9, 17] (fun vat vi wr => ∃ j : Nat, j ≤ n ∧ vi = .int .i64 (j : Int) ∧ vat = .int .i64 (atM l a j) ∧ Below w2.heap.size w2 wr) (fun _ vi _ => n - (intOf vi).toNat)
  case atStart => exact ⟨0, Nat.zero_le _, rfl, rfl, Below.refl _ _⟩
  case round =>
    obtain ⟨j, hj, rfl, rfl, hb⟩ := hrel
    have HB := Lib.hid hb
    clear hb
    by_cases hjn : j < n
    · have d1 : decide ((j : Int) < (n : Int)) = true := by simp; omega
      have d1' : decide (j < n) = true := decide_eq_true hjn
      have o2 : (j : Int) < (n : Int) := by omega
      obtain ⟨b, off, rfl⟩ := HRD.out.addr (by omega)
      obtain ⟨r, hr⟩ : ∃ r, l[j]? = some r := ⟨l[j]'(by rw [HLN.out]; exact hjn), List.getElem?_eq_getElem _⟩
      have hst := at_step (a := a) hr
      have hat := at_lt l a j
      obtain ⟨p, hp⟩ : ∃ p, atM l a j = p := ⟨_, rfl⟩
      rw [hp] at hst hat ⊢
      have HST := Lib.hid hst
      have HAT' := Lib.hid hat
      have HOK := Lib.hid (HRD.out.ok hr)
      have HAT := Lib.hid ((HRD.out.at j r hr).2.mono HB.out (HRD.out.at j r hr).1)
      obtain ⟨rc, hrc⟩ : ∃ z, r.cells.toArray = z := ⟨_, rfl⟩
      have HRC := Lib.hid hrc
      obtain ⟨zs, hzs⟩ : ∃ z, (#[.bool false, .int .u8 0, .int .u8 0, .int .u8 0, .int .u8 0, .int .u8 0, .int .u8 0, .int .u8 0, .int .u8 0, .int .u8 0, .int .u8 0, .int .u8 0, .int .u8 0, .int .u8 0, .int .u8 0, .int .u8 0, .int .u8 0, .int .i64 0, .int .i64 0] : Array Value).toList = z := ⟨_, rfl⟩
      have HZL := Lib.hid (show zs.length = 19 from by rw [← hzs]; rfl)
      have HZB := Lib.hid (show Blk (wr.alloc (.cells #[.bool false, .int .u8 0, .int .u8 0, .int .u8 0, .int .u8 0, .int .u8 0, .int .u8 0, .int .u8 0, .int .u8 0, .int .u8 0, .int .u8 0, .int .u8 0, .int .u8 0, .int .u8 0, .int .u8 0, .int .u8 0, .int .u8 0, .int .i64 0, .int .i64 0] 44)) wr.heap.size 44 zs from by rw [← hzs]; exact Blk.new wr 44 _)
      have heq := fun W => addr_eqd r.a a HOK.out.1 HA.out W
      obtain ⟨y, hy⟩ : ∃ y, decide (r.a = a) = y := ⟨_, rfl⟩
      obtain ⟨rac, hrac⟩ : ∃ z, r.a.cells.toArray = z := ⟨_, rfl⟩
      rw [hy, hrac, HAC.out] at heq
      have HEQ := Lib.hid heq
      have HRAC := Lib.hid hrac
      have HY := Lib.hid hy
      clear hrc hzs hr hst hat hp heq hrac hy
      go_upto_region 6 with (first | ((with_reducible refine at_op (.load 44 (.tmp 20)) rfl ?_); refine wpList_load_obj rfl 44 (.tmp 20) rfl b _ rfl _ (HAT.out) _ Try.underlying44 rfl (bk_cellsOf r HOK.out) ?_; rw [HRC.out]) | ((with_reducible refine at_op (.store 44 (.tmp 11) (.tmp 21)) rfl ?_); refine wpList_store_obj rfl 44 (.tmp 11) (.tmp 21) rfl wr.heap.size 0 r.cells rfl (by show Value.agg rc = _; rw [HRC.out]) 44 zs HZB.out (bk_cellsOf r HOK.out) (by rw [BucketM.cells_length HOK.out, HZL.out]; decide) (bk_one r) ?_; intro w3 hb9 hg9))
      rw [setL_all zs _ (by rw [BucketM.cells_length HOK.out, HZL.out])] at hb9
      have hbl : Below wr.heap.size wr w3 := ((Below.refl _ _).alloc (Nat.le_refl _) _).grown hg9 (by simp) (by intro k hk; injection hk with hk; omega)
      have HB3 := Lib.hid (HB.out.trans (hbl.mono HB.out.size))
      have HNB := Lib.hid (bk_a_at hb9.all HOK.out)
      obtain ⟨z, hz⟩ : ∃ z, decide (p < 0) = z := ⟨_, rfl⟩
      have HZ := Lib.hid hz
      obtain ⟨j2, hj2⟩ : ∃ z, j + 1 = z := ⟨_, rfl⟩
      have e8 : (j : Int) + 1 = (j2 : Int) := by omega
      have w8' : IntKind.i64.wrap (j2 : Int) = (j2 : Int) := by rw [IntKind.wrap_i64]; omega
      have HJ := Lib.hid (show j2 ≤ n ∧ n - j2 < n - j from by omega)
      rw [hj2] at HST
      clear hb9 hg9 hbl HZB HAT HRC d1 d1' o2 hj2 hj hjn
      have hpp := HAT'.out
      have hnn := HNC.out.2.2
      cases y with
      | false =>
        have HE := Lib.hid (show atM l a j2 = p from by rw [HST.out]; exact if_neg (fun h => of_decide_eq_false HY.out h.1))
        clear hz
        go_wp2_with (first | ((with_reducible refine at_op (.load 35 (.tmp 22)) rfl ?_); refine wpList_load_obj rfl 35 (.tmp 22) rfl wr.heap.size 0 rfl r.a.cells (HNB.out) _ Try.underlying35 rfl (addr_cellsOf r.a HOK.out.1) ?_; rw [HRAC.out]) | ((with_reducible refine at_op (.load 35 (.tmp 4)) rfl ?_); refine wpList_load_obj rfl 35 (.tmp 4) rfl w.heap.size 0 rfl a.cells (HP4.out _ HB3.out) _ Try.underlying35 rfl (addr_cellsOf a HA.out) ?_; rw [HAC.out]) | (refine wpList_eql_agg (by rfl) 35 _ 23 24 rfl rac ac _ rfl rfl addr_noguard (HEQ.out _) ?_))
        go_roundw
        case rel => exact ⟨j2, HJ.out.1, rfl, by rw [HE.out], HB3.out⟩
        case measure => simp [intOf]; exact HJ.out.2
      | true =>
        cases z with
        | true =>
          have HE := Lib.hid (show atM l a j2 = (j : Int) from by rw [HST.out]; exact if_pos ⟨of_decide_eq_true HY.out, of_decide_eq_true HZ.out⟩)
          go_wp2_with (first | ((with_reducible refine at_op (.load 35 (.tmp 22)) rfl ?_); refine wpList_load_obj rfl 35 (.tmp 22) rfl wr.heap.size 0 rfl r.a.cells (HNB.out) _ Try.underlying35 rfl (addr_cellsOf r.a HOK.out.1) ?_; rw [HRAC.out]) | ((with_reducible refine at_op (.load 35 (.tmp 4)) rfl ?_); refine wpList_load_obj rfl 35 (.tmp 4) rfl w.heap.size 0 rfl a.cells (HP4.out _ HB3.out) _ Try.underlying35 rfl (addr_cellsOf a HA.out) ?_; rw [HAC.out]) | (refine wpList_eql_agg (by rfl) 35 _ 23 24 rfl rac ac _ rfl rfl addr_noguard (HEQ.out _) ?_))
          go_roundw
          case rel => exact ⟨j2, HJ.out.1, rfl, by rw [HE.out], HB3.out⟩
          case measure => simp [intOf]; exact HJ.out.2
        | false =>
          have HE := Lib.hid (show atM l a j2 = p from by rw [HST.out]; exact if_neg (fun h => of_decide_eq_false HZ.out h.2))
          go_wp2_with (first | ((with_reducible refine at_op (.load 35 (.tmp 22)) rfl ?_); refine wpList_load_obj rfl 35 (.tmp 22) rfl wr.heap.size 0 rfl r.a.cells (HNB.out) _ Try.underlying35 rfl (addr_cellsOf r.a HOK.out.1) ?_; rw [HRAC.out]) | ((with_reducible refine at_op (.load 35 (.tmp 4)) rfl ?_); refine wpList_load_obj rfl 35 (.tmp 4) rfl w.heap.size 0 rfl a.cells (HP4.out _ HB3.out) _ Try.underlying35 rfl (addr_cellsOf a HA.out) ?_; rw [HAC.out]) | (refine wpList_eql_agg (by rfl) 35 _ 23 24 rfl rac ac _ rfl rfl addr_noguard (HEQ.out _) ?_))
          go_roundw
          case rel => exact ⟨j2, HJ.out.1, rfl, by rw [HE.out], HB3.out⟩
          case measure => simp [intOf]; exact HJ.out.2
    · obtain rfl : n = j := by omega
      have d1 : decide ((n : Int) < (n : Int)) = false := by simp
      obtain ⟨p, hp⟩ : ∃ p, atM l a n = p := ⟨_, rfl⟩
      have hpe : (match l.findIdx? fun b => decide (b.a = a) with
        | some i => (i : Int)
        | none => -1) = p := by rw [← hp, atM, List.take_of_length_le (by rw [HLN.out]; exact Nat.le_refl _)]
      rw [hp]
      have HPE := Lib.hid hpe
      clear hp hj hjn hpe
      obtain ⟨bq, hbq⟩ : ∃ b, decide (p < 0) = b := ⟨_, rfl⟩
      have HBQ := Lib.hid hbq
      go_upto_region 9 with fail
      clear d1
      go_cut [33] (fun v33 wx => v33 = .bool bq ∧ wx = wr)
      case first =>
        go_wp2_with fail
        go_meet
        exact ⟨rfl, rfl⟩
      obtain ⟨rfl, hwr⟩ := hcut
      subst hwr
      obtain ⟨wr, rfl⟩ : ∃ z, z = wc := ⟨wc, rfl⟩
      clear hbq
      go_upto_if 33 with fail
      go_cut [8, 9] (fun v8 v9 wx => ∃ (A3 : Option Addr) (c3 : Nat) (G : List BucketM) (p : Nat), v8 = .slice A3 G.length c3 ∧ v9 = .int .i64 (p : Int) ∧ givenM l a now = (G, p) ∧ p < G.length ∧ (∀ s ∈ G, s.ok) ∧ wx.ownsRow w.heap.size 44 19 (.slice A3 G.length c3) G.length (bksV G).flatten ∧ Below w.heap.size w wx)
      case first =>
        cases bq with
        | false =>
          obtain ⟨i, hi⟩ : ∃ i : Nat, (l.findIdx? fun b => decide (b.a = a)) = some i := by
            have h := HPE.out
            have h2 := of_decide_eq_false HBQ.out
            cases hf : l.findIdx? fun b => decide (b.a = a) with
            | none =>
              rw [hf] at h
              have h : (-1 : Int) = p := h
              omega
            | some i => exact ⟨i, rfl⟩
          obtain rfl : p = (i : Int) := by
            have h := HPE.out
            rw [hi] at h
            exact h.symm
          obtain ⟨hil, _, _⟩ := List.findIdx?_eq_some_iff_getElem.1 hi
          obtain ⟨b, hb0⟩ : ∃ b, l[i]? = some b := ⟨l[i], List.getElem?_eq_getElem hil⟩
          have hgv : givenM l a now = (l.set i (filledM b now), i) := by
            rw [givenM, hi]
            show (l.modify i fun b => filledM b now, i) = _
            rw [modify_set hb0]
          have hin : i < n := by rw [← HLN.out]; exact hil
          have HOK := Lib.hid (HOKS.out b (List.mem_of_getElem? hb0))
          have htk := HT.out b (List.mem_of_getElem? hb0)
          have hfo := (filled_ok HOK.out HNOW.out htk.1 htk.2).1
          have hfl := fun W => filled_any b now HOK.out HNOW.out htk.1 htk.2 W
          obtain ⟨bc, hbc⟩ : ∃ z, b.cells.toArray = z := ⟨_, rfl⟩
          obtain ⟨fb, hfb⟩ : ∃ z, filledM b now = z := ⟨_, rfl⟩
          obtain ⟨fc, hfc⟩ : ∃ z, fb.cells.toArray = z := ⟨_, rfl⟩
          simp only [hbc, hfb, hfc] at hfl
          rw [hfb] at hfo hgv
          have HFL := Lib.hid hfl
          have HFO := Lib.hid hfo
          have HBC := Lib.hid hbc
          have HFC := Lib.hid hfc
          have HGV := Lib.hid hgv
          obtain ⟨g, rest, hA2, hbg, hblk, hrl, hnc2, hcm2⟩ := bkOwn_blk (own_below HOWN.out HB.out) (by omega)
          subst hA2
          have HBL := Lib.hid hblk
          have HAT := Lib.hid (bk_row_at hblk HOKS.out hb0)
          have HRL := Lib.hid (And.intro (Nat.le_trans HW1.out hbg) (And.intro hrl (And.intro hnc2 hcm2)))
          have HQL := Lib.hid hil
          have e2 : (i : Int) < (n : Int) := by omega
          have d2 : decide ((i : Int) < (n : Int)) = true := decide_eq_true e2
          have d3 : decide (i < n) = true := decide_eq_true hin
          have HFW := Lib.hid (show Below w.heap.size w wr from HBW.out.trans (HB.out.mono HBW.out.size))
          clear hb0 htk hfo hfl hbc hfb hfc hgv hblk hbg hrl hnc2 hcm2 HOWN hi HPE
          go_wp2_with ((with_reducible refine at_op (.load 44 (.tmp 81)) rfl ?_); refine wpList_load_obj rfl 44 (.tmp 81) rfl g _ rfl b.cells HAT.out _ Try.underlying44 rfl (bk_cellsOf b HOK.out) ?_; rw [HBC.out])
          refine (HFL.out _).mono ?_
          rintro e w4 ⟨rfl, hb4⟩
          have HBL4 := Lib.hid (show Blk w4 g 44 ((bksV l).flatten ++ rest) from HBL.out.below hb4 HBL.out.lt)
          have HF4 := Lib.hid (HFW.out.trans (hb4.mono HFW.out.size))
          clear hb4 HFL HBL
          go_wp2_with ((with_reducible refine at_op (.store 44 (.tmp 85) (.tmp 84)) rfl ?_); refine wpList_store_obj rfl 44 (.tmp 85) (.tmp 84) rfl g (i * 19) fb.cells rfl (by show Value.agg fc = _; rw [HFC.out]) 44 ((bksV l).flatten ++ rest) HBL4.out (bk_cellsOf fb HFO.out) (by rw [List.length_append, flat_length (bksV_size HOKS.out), bksV_len, HLN.out, BucketM.cells_length HFO.out]; have := Nat.mul_le_mul_right 19 (show i + 1 ≤ n from hin); omega) (bk_one fb) ?_; intro w5 hb5 hg5)
          go_meet
          rw [bk_row_set HOKS.out HQL.out HFO.out] at hb5
          have hln : (l.set i fb).length = n := by rw [List.length_set, HLN.out]
          exact ⟨some ⟨g, 0, none⟩, c2, l.set i fb, i, by rw [hln], rfl, HGV.out, by rw [hln]; exact hin, bks_set_ok HOKS.out HFO.out, by rw [hln]; exact bkBlk_own hb5 hln (bks_set_ok HOKS.out HFO.out) HRL.out.1 HRL.out.2.1 HRL.out.2.2.1 HRL.out.2.2.2, HF4.out.grown hg5 HF4.out.size (fun k hk => by injection hk with hk; have := HRL.out.1; omega)⟩
        | true =>
          have hf : (l.findIdx? fun b => decide (b.a = a)) = none := by
            have h := HPE.out
            have h2 := of_decide_eq_true HBQ.out
            cases hf : l.findIdx? fun b => decide (b.a = a) with
            | none => rfl
            | some i =>
              rw [hf] at h
              have h : (i : Int) = p := h
              omega
          have HG := Lib.hid (show givenM l a now = ((roomM l).take (aheadB a (roomM l)) ++ newM a now :: (roomM l).drop (aheadB a (roomM l)), aheadB a (roomM l)) from by rw [givenM, hf])
          clear hf
          go_upto_region 10 with fail
          obtain ⟨b16, hb16⟩ : ∃ b, decide ((n : Int) ≥ 16) = b := ⟨_, rfl⟩
          have HB16 := Lib.hid hb16
          go_cut [36] (fun v36 wx => v36 = .bool b16 ∧ wx = wr)
          case first =>
            go_wp2_with fail
            go_meet
            exact ⟨rfl, rfl⟩
          obtain ⟨rfl, rfl⟩ := hcut
          obtain ⟨wr, rfl⟩ : ∃ z, z = wc := ⟨wc, rfl⟩
          clear hb16
          go_upto_if 36 with fail
          go_cut [8, 12] (fun v8 v12 wx => ∃ A3 n3 c3, v8 = .slice A3 n3 c3 ∧ n3 ≤ c3 ∧ c3 ≤ maxLen ∧ n3 ≤ 1000 ∧ BkRd wx wx.heap.size A3 n3 (roomM l) ∧ ((A3 = none ∧ n3 = 0 ∧ c3 = 0) ∨ A3 ≠ none) ∧ Below w2.heap.size w2 wx)
          case first =>
            cases b16 with
            | false =>
              have HRM := Lib.hid (show roomM l = l from by rw [roomM, if_neg (by rw [HLN.out]; have := of_decide_eq_false HB16.out; omega)])
              go_wp2_with fail
              go_meet
              exact ⟨A2, n, c2, rfl, HNC.out.1, HNC.out.2.1, HNC.out.2.2, by rw [HRM.out]; exact (HRD.out.below HB.out).mono HB.out.size, HNN.out, HB.out⟩
            | true =>
              have h16 : 16 ≤ n := by have := of_decide_eq_true HB16.out; omega
              have HRM := Lib.hid (show roomM l = l.take (oldestM l) ++ l.drop (oldestM l + 1) from by rw [roomM, if_pos (by rw [HLN.out]; exact h16), List.eraseIdx_eq_take_drop_succ])
              have holt : oldestM l < n := by rw [oldestM]; exact old_lt l (by omega) _ (by rw [HLN.out]; exact Nat.le_refl _)
              have hcall := oldest_any A2 n c2 l HNC.out.2.2 wr ((HRD.out.below HB.out).mono HB.out.size)
              obtain ⟨o, ho⟩ : ∃ o, oldestM l = o := ⟨_, rfl⟩
              rw [ho] at hcall holt HRM
              have HCALL := Lib.hid hcall
              obtain ⟨b, off, rfl⟩ := HRD.out.addr (by omega)
              obtain ⟨o1, ho1⟩ : ∃ z, o + 1 = z := ⟨_, rfl⟩
              rw [ho1] at HRM
              have e8 : (o : Int) + 1 = (o1 : Int) := by omega
              have hn1' := HNC.out
              have w8' : IntKind.i64.wrap (o1 : Int) = (o1 : Int) := by rw [IntKind.wrap_i64]; omega
              have hs1 := fun W => objs_hm Try.underlying32 bk_info19 (some ⟨b, off, none⟩) n c2 o (by omega) W
              have hs2 := fun W => objs_l Try.underlying32 bk_info19 (some ⟨b, off, none⟩) n c2 o1 (by omega) W
              rw [addrK_zero_some] at hs1
              have HO := Lib.hid (And.intro holt ho1)
              clear ho hcall ho1
              go_wp2_with fail
              refine HCALL.out.mono ?_
              rintro e w5 ⟨rfl, hb5⟩
              have HB5 := Lib.hid (HB.out.trans (hb5.mono HB.out.size))
              clear hb5 HCALL
              go_upto_region 12 with fail
              refine wp_region_held_drew (S := fun W' => Below w2.heap.size w2 W') (by kernel_rfl) (HB5.out.drew) (fun hHeld => ?_)
              refine take_first (v := ?_) 0 rfl (by kernel_rfl) (by kernel_rfl) (by kernel_rfl) (fun _ _ _ h => h) (Or.inl ⟨by rfl, ?_⟩) (by assumption) ?_
              rotate_left
              · (intro w hSw; (try dsimp only at hSw); go_simp; try with_reducible rfl)
              (try simp only [Act.put, List.setIfInBounds_toArray, List.set_cons_zero, List.set_cons_succ])
              refine take_first (v := ?_) 1 rfl (by kernel_rfl) (by kernel_rfl) (by kernel_rfl) (fun _ _ _ h => h) (Or.inl ⟨by rfl, ?_⟩) (by assumption) ?_
              rotate_left
              · (intro w hSw; (try dsimp only at hSw); go_simp; try with_reducible rfl)
              (try simp only [Act.put, List.setIfInBounds_toArray, List.set_cons_zero, List.set_cons_succ])
              refine take_first (v := ?_) 2 rfl (by kernel_rfl) (by kernel_rfl) (by kernel_rfl) (fun _ _ _ h => h) (Or.inl ⟨by rfl, ?_⟩) (by assumption) ?_
              rotate_left
              · (intro w hSw; (try dsimp only at hSw); go_simp; try with_reducible rfl)
              (try simp only [Act.put, List.setIfInBounds_toArray, List.set_cons_zero, List.set_cons_succ])
              refine take_first (v := ?_) 3 rfl (by kernel_rfl) (by kernel_rfl) (by kernel_rfl) (fun _ _ _ h => h) (Or.inl ⟨by rfl, ?_⟩) (by assumption) ?_
              rotate_left
              · (intro w hSw; (try dsimp only at hSw); go_simp; try with_reducible rfl)
              (try simp only [Act.put, List.setIfInBounds_toArray, List.set_cons_zero, List.set_cons_succ])
              refine take_first (v := ?_) 4 rfl (by kernel_rfl) (by kernel_rfl) (by kernel_rfl) (fun _ _ _ h => h) (Or.inl ⟨by rfl, ?_⟩) (by assumption) ?_
              rotate_left
              · (intro w hSw; (try dsimp only at hSw); go_simp; try with_reducible rfl)
              (try simp only [Act.put, List.setIfInBounds_toArray, List.set_cons_zero, List.set_cons_succ])
              refine take_first (v := ?_) 5 rfl (by kernel_rfl) (by kernel_rfl) (by kernel_rfl) (fun _ _ _ h => h) (Or.inl ⟨by rfl, ?_⟩) (by assumption) ?_
              rotate_left
              · (intro w hSw; (try dsimp only at hSw); go_simp; try with_reducible rfl)
              (try simp only [Act.put, List.setIfInBounds_toArray, List.set_cons_zero, List.set_cons_succ])
              refine take_first (v := ?_) 6 rfl (by kernel_rfl) (by kernel_rfl) (by kernel_rfl) (fun _ _ _ h => h) (Or.inl ⟨by rfl, ?_⟩) (by assumption) ?_
              rotate_left
              · (intro w hSw; (try dsimp only at hSw); go_simp; try with_reducible rfl)
              (try simp only [Act.put, List.setIfInBounds_toArray, List.set_cons_zero, List.set_cons_succ])
              refine take_first (v := ?_) 7 rfl (by kernel_rfl) (by kernel_rfl) (by kernel_rfl) (fun _ _ _ h => h) (Or.inl ⟨by rfl, ?_⟩) (by assumption) ?_
              rotate_left
              · (intro w hSw; (try dsimp only at hSw); go_simp; try with_reducible rfl)
              (try simp only [Act.put, List.setIfInBounds_toArray, List.set_cons_zero, List.set_cons_succ])
              have hL : BkRd w5.drew w2.heap.size (some ⟨b, off, none⟩) o (l.take o) := by
                have h := (HRD.out.below hHeld).ahead o c2 (Nat.le_of_lt HO.out.1)
                rwa [addrK_zero_some] at h
              have hon := HO.out.2
              have hol := HO.out.1
              have hD : BkRd w5.drew w2.heap.size (addrK (some ⟨b, off, none⟩) o1 c2 19) (n - o1) (l.drop o1) := (HRD.out.below hHeld).behind o1 c2 (by omega) HNC.out.1
              clear hs1 hs2 e8 w8'
              rcases Nat.eq_zero_or_pos (n - o1) with h0 | h0
              · refine step_one 8 rfl (by kernel_rfl) (fun K hK => ?_)
                refine step_append_nothing _ rfl (.tmp 42) (.tmp 46) 32 rfl 44 ik Try.underlying32 HKI.out.1 (some ⟨b, off, none⟩) o o rfl (Nat.le_refl _) (fun h => by cases h) (addrK (some ⟨b, off, none⟩) o1 c2 19) (c2 - o1) (by show Value.slice _ (n - o1) _ = _; rw [h0]) ?_
                have HHL := Lib.hid hL
                have HH0 := Lib.hid h0
                refine hK.out _ _ hHeld (fun hHeld => ?_)
                clear hK K hL hD h0
                (try simp only [Act.put, List.setIfInBounds_toArray, List.set_cons_zero, List.set_cons_succ])
                refine take_first (v := ?_) 9 rfl (by kernel_rfl) (by kernel_rfl) (by kernel_rfl) (fun _ _ _ h => h) (Or.inl ⟨by rfl, ?_⟩) (by assumption) ?_
                rotate_left
                · (intro w hSw; (try dsimp only at hSw); go_simp; try with_reducible rfl)
                (try simp only [Act.put, List.setIfInBounds_toArray, List.set_cons_zero, List.set_cons_succ])
                refine wpAnyH_done (by kernel_rfl) ?_ _
                have HH := Lib.hid hHeld
                clear hHeld
                go_wp2_with fail
                go_meet
                exact ⟨some ⟨b, off, none⟩, o, o, rfl, Nat.le_refl _, by unfold maxLen; omega, by omega, by
                  have h := (HHL.out).mono HH.out.size
                  rw [HRM.out, List.drop_of_length_le (by have := HLN.out; have := HH0.out; omega), List.append_nil]
                  exact h, .inr (by simp), HH.out⟩
              · refine step_one 8 rfl (by kernel_rfl) (fun K hK => ?_)
                refine step_append_full _ rfl (.tmp 42) (.tmp 46) 32 rfl 44 ik _ 19 40 Try.underlying32 HKI.out.1 HKI.out.2.1 HKI.out.2.2.1 HKI.out.2.2.2 (by rfl) w2.heap.size (some ⟨b, off, none⟩) o o rfl (.inr ⟨rfl, by simp⟩) (bksV (l.take o)) hL.1 w2.heap.size (addrK (some ⟨b, off, none⟩) o1 c2 19) (n - o1) (c2 - o1) rfl h0 (bksV (l.drop o1)) hD.1 (by unfold maxLen; omega) (by omega) ?_
                intro v8 w8 ho8 hb8
                have hh8 := hHeld.trans (hb8.mono hHeld.size)
                clear hHeld
                refine hK.out _ _ hh8 (fun hHeld => ?_)
                clear hK K hb8 hh8 hL hD
                (try simp only [Act.put, List.setIfInBounds_toArray, List.set_cons_zero, List.set_cons_succ])
                refine take_first (v := ?_) 9 rfl (by kernel_rfl) (by kernel_rfl) (by kernel_rfl) (fun _ _ _ h => h) (Or.inl ⟨by rfl, ?_⟩) (by assumption) ?_
                rotate_left
                · (intro w hSw; (try dsimp only at hSw); go_simp; try with_reducible rfl)
                (try simp only [Act.put, List.setIfInBounds_toArray, List.set_cons_zero, List.set_cons_succ])
                refine wpAnyH_done (by kernel_rfl) ?_ _
                have HH := Lib.hid hHeld
                clear hHeld
                go_wp2_with fail
                go_meet
                rw [bksV_append] at ho8
                obtain ⟨A8, c8, rfl, hle8, hmx8, _⟩ := own_sliceK ho8
                have hlen8 : (l.take o ++ l.drop o1).length = o + (n - o1) := by rw [List.length_append, List.length_take, List.length_drop, HLN.out]; omega
                have hA8 : A8 ≠ none := by
                  rcases ho8.2 with ⟨_, h9⟩ | ⟨g, cap, cur, h, _⟩
                  · omega
                  · injection h with h1
                    rw [h1]
                    simp
                exact ⟨A8, o + (n - o1), c8, rfl, hle8, hmx8, by omega, by
                  rw [HRM.out]
                  exact BkRd.of_own hlen8 (fun s hs => by
                    rcases List.mem_append.1 hs with hs | hs
                    · exact HOKS.out s (List.mem_of_mem_take hs)
                    · exact HOKS.out s (List.mem_of_mem_drop hs)) ho8, .inr hA8, HH.out⟩
          obtain ⟨A3, n3, c3, rfl, hnc3, hcm3, hn3, hr3, hA3, hb3⟩ := hcut
          obtain ⟨w3, rfl⟩ : ∃ z, z = wc := ⟨wc, rfl⟩
          obtain ⟨R, hR⟩ : ∃ z, roomM l = z := ⟨_, rfl⟩
          rw [hR] at hr3 HG
          have HR3 := Lib.hid hr3
          have HN3 := Lib.hid (And.intro hnc3 (And.intro hcm3 (And.intro hn3 hA3)))
          have HB3 := Lib.hid hb3
          have HLR := Lib.hid hr3.len
          clear hnc3 hcm3 hn3 hA3 hb3 hr3 hR HB HB16
          have HB0 := Lib.hid (show Below w.heap.size w w3 from HBW.out.trans (HB3.out.mono HBW.out.size))
          obtain ⟨nc, hnb⟩ : ∃ z, (newM a now).cells.toArray = z := ⟨_, rfl⟩
          have HNK := Lib.hid (show (newM a now).ok from ⟨HA.out, (show inI64 5000 from by unfold inI64; omega), HNOW.out⟩)
          have hbt := bk_built (newM a now) HNK.out
          rw [hnb] at hbt
          simp only [newM, HAC.out] at hbt
          have HBT := Lib.hid hbt
          have HNB := Lib.hid hnb
          have hal3 := ahead_le a R
          rw [HLR.out] at hal3
          have hn3' := HN3.out.2.2.1
          clear hnb hbt
          go_upto_region 13 with fail
          go_wp2_with fail
          go_loopw [9] (fun v9 wz => ∃ j : Nat, j ≤ aheadB a R ∧ v9 = .int .i64 (j : Int) ∧ Below w3.heap.size w3 wz) (fun v9 _ => n3 - (intOf v9).toNat)
          case atStart => exact ⟨0, Nat.zero_le _, rfl, Below.refl _ _⟩
          case round =>
            obtain ⟨j, hja, rfl, hbj⟩ := hrel
            have HBJ := Lib.hid hbj
            have hjn2 : j ≤ n3 := by omega
            have hjc : j ≤ c3 := by have := HN3.out.1; omega
            clear hbj
            by_cases hjn : j < n3
            · have d1 : decide ((j : Int) < (n3 : Int)) = true := by simp; omega
              have d2 : decide (j < n3) = true := decide_eq_true hjn
              have o2 : (j : Int) < (n3 : Int) := by omega
              obtain ⟨g3, off3, rfl⟩ := HR3.out.addr (by omega)
              obtain ⟨r, hr⟩ : ∃ r, R[j]? = some r := ⟨R[j]'(by rw [HLR.out]; exact hjn), List.getElem?_eq_getElem _⟩
              have HST := Lib.hid (ahead_step hr hja)
              have HOK := Lib.hid (HR3.out.ok hr)
              have HRA := Lib.hid (show ∀ W, Below w3.heap.size w3 W → At W g3 (off3 + j * 19) r.a.cells from fun W hW => by
                have h := bk_a_at ((HR3.out.at j r hr).2.mono hW (HR3.out.at j r hr).1) HOK.out
                rwa [Nat.add_zero] at h)
              obtain ⟨rac, hrac⟩ : ∃ z, r.a.cells.toArray = z := ⟨_, rfl⟩
              have HRAC := Lib.hid hrac
              have hls := fun W => refLess_any a r.a HA.out HOK.out.1 W
              obtain ⟨y, hy⟩ : ∃ y, lessM a r.a = y := ⟨_, rfl⟩
              simp only [hrac, HAC.out, hy] at hls
              have HLS := Lib.hid hls
              rw [hy] at HST
              clear hr hrac hls hy
              cases y with
              | false =>
                have hj1 := HST.out.2 rfl
                obtain ⟨j2, hj2⟩ : ∃ z, j + 1 = z := ⟨_, rfl⟩
                have e8 : (j : Int) + 1 = (j2 : Int) := by omega
                have w8' : IntKind.i64.wrap (j2 : Int) = (j2 : Int) := by rw [IntKind.wrap_i64]; omega
                have HJ := Lib.hid (show j2 ≤ aheadB a R ∧ n3 - j2 < n3 - j from by omega)
                clear hj2
                go_upto_region 14 with fail
                refine wp_region_held_drew (S := fun W' => Below w3.heap.size w3 W') (by kernel_rfl) (HBJ.out.drew) (fun hHeld => ?_)
                refine take_first (v := ?_) 0 rfl (by kernel_rfl) (by kernel_rfl) (by kernel_rfl) (fun _ _ _ h => h) (Or.inl ⟨by rfl, ?_⟩) (by assumption) ?_
                rotate_left
                · (intro w hSw; (try dsimp only at hSw); go_simp; try with_reducible rfl)
                (try simp only [Act.put, List.setIfInBounds_toArray, List.set_cons_zero, List.set_cons_succ])
                refine take_first (v := ?_) 1 rfl (by kernel_rfl) (by kernel_rfl) (by kernel_rfl) (fun _ _ _ h => h) (Or.inl ⟨by rfl, ?_⟩) (by assumption) ?_
                rotate_left
                · (intro w hSw; (try dsimp only at hSw); go_simp; try with_reducible rfl)
                (try simp only [Act.put, List.setIfInBounds_toArray, List.set_cons_zero, List.set_cons_succ])
                refine take_first (v := ?_) 2 rfl (by kernel_rfl) (by kernel_rfl) (by kernel_rfl) (fun _ _ _ h => h) (Or.inl ⟨by rfl, ?_⟩) (by assumption) ?_
                rotate_left
                · (intro w hSw; (try dsimp only at hSw); go_simp; try with_reducible rfl)
                (try simp only [Act.put, List.setIfInBounds_toArray, List.set_cons_zero, List.set_cons_succ])
                refine take_first (v := ?_) 3 rfl (by kernel_rfl) (by kernel_rfl) (by kernel_rfl) (fun _ _ _ h => h) (Or.inl ⟨by rfl, ?_⟩) (by assumption) ?_
                rotate_left
                · (intro w hSw; (try dsimp only at hSw); go_simp; try with_reducible rfl)
                (try simp only [Act.put, List.setIfInBounds_toArray, List.set_cons_zero, List.set_cons_succ])
                refine take_first (v := ?_) 4 rfl (by kernel_rfl) (by kernel_rfl) (by kernel_rfl) (fun _ _ _ h => h) (Or.inl ⟨by rfl, ?_⟩) (by assumption) ?_
                rotate_left
                · (intro w hSw; (try dsimp only at hSw); go_simp; try with_reducible rfl)
                (try simp only [Act.put, List.setIfInBounds_toArray, List.set_cons_zero, List.set_cons_succ])
                refine take_first (v := .agg ac) 5 rfl (by kernel_rfl) (by kernel_rfl) (by kernel_rfl) (fun _ _ _ h => h) (by rw [← HAC.out]; exact yields_load_obj (by rfl) 35 (.tmp 4) rfl w.heap.size 0 rfl a.cells (fun W hW => HP4.out W (HB3.out.trans (hW.mono HB3.out.size))) _ Try.underlying35 rfl (addr_cellsOf a HA.out)) (by assumption) ?_
                (try simp only [Act.put, List.setIfInBounds_toArray, List.set_cons_zero, List.set_cons_succ])
                refine take_first (v := ?_) 6 rfl (by kernel_rfl) (by kernel_rfl) (by kernel_rfl) (fun _ _ _ h => h) (Or.inl ⟨by rfl, ?_⟩) (by assumption) ?_
                rotate_left
                · (intro w hSw; (try dsimp only at hSw); go_simp; try with_reducible rfl)
                (try simp only [Act.put, List.setIfInBounds_toArray, List.set_cons_zero, List.set_cons_succ])
                refine take_first (v := ?_) 7 rfl (by kernel_rfl) (by kernel_rfl) (by kernel_rfl) (fun _ _ _ h => h) (Or.inl ⟨by rfl, ?_⟩) (by assumption) ?_
                rotate_left
                · (intro w hSw; (try dsimp only at hSw); go_simp; try with_reducible rfl)
                (try simp only [Act.put, List.setIfInBounds_toArray, List.set_cons_zero, List.set_cons_succ])
                refine take_first (v := ?_) 8 rfl (by kernel_rfl) (by kernel_rfl) (by kernel_rfl) (fun _ _ _ h => h) (Or.inl ⟨by rfl, ?_⟩) (by assumption) ?_
                rotate_left
                · (intro w hSw; (try dsimp only at hSw); go_simp; try with_reducible rfl)
                (try simp only [Act.put, List.setIfInBounds_toArray, List.set_cons_zero, List.set_cons_succ])
                refine take_first (v := ?_) 9 rfl (by kernel_rfl) (by kernel_rfl) (by kernel_rfl) (fun _ _ _ h => h) (Or.inl ⟨by rfl, ?_⟩) (by assumption) ?_
                rotate_left
                · (intro w hSw; (try dsimp only at hSw); go_simp; try with_reducible rfl)
                (try simp only [Act.put, List.setIfInBounds_toArray, List.set_cons_zero, List.set_cons_succ])
                refine take_first (v := .agg rac) 10 rfl (by kernel_rfl) (by kernel_rfl) (by kernel_rfl) (fun _ _ _ h => h) (by rw [← HRAC.out]; exact yields_load_obj (by rfl) 35 (.tmp 57) rfl g3 _ rfl r.a.cells (fun W hW => HRA.out W hW) _ Try.underlying35 rfl (addr_cellsOf r.a HOK.out.1)) (by assumption) ?_
                (try simp only [Act.put, List.setIfInBounds_toArray, List.set_cons_zero, List.set_cons_succ])
                refine step_one 11 rfl (by kernel_rfl) (fun K hK => ?_)
                go_simp
                refine (HLS.out _).mono ?_
                rintro e wy ⟨rfl, hb⟩
                have hb2 := hHeld.trans (hb.mono hHeld.size)
                clear hb hHeld
                go_wp2_with fail
                refine hK.out _ _ hb2 (fun hHeld => ?_)
                clear hK K hb2
                (try simp only [Act.put, List.setIfInBounds_toArray, List.set_cons_zero, List.set_cons_succ])
                refine take_first (v := ?_) 12 rfl (by kernel_rfl) (by kernel_rfl) (by kernel_rfl) (fun _ _ _ h => h) (Or.inl ⟨by rfl, ?_⟩) (by assumption) ?_
                rotate_left
                · (intro w hSw; (try dsimp only at hSw); go_simp; try with_reducible rfl)
                (try simp only [Act.put, List.setIfInBounds_toArray, List.set_cons_zero, List.set_cons_succ])
                refine take_first (v := ?_) 13 rfl (by kernel_rfl) (by kernel_rfl) (by kernel_rfl) (fun _ _ _ h => h) (Or.inl ⟨by rfl, ?_⟩) (by assumption) ?_
                rotate_left
                · (intro w hSw; (try dsimp only at hSw); go_simp; try with_reducible rfl)
                (try simp only [Act.put, List.setIfInBounds_toArray, List.set_cons_zero, List.set_cons_succ])
                refine wpAnyH_done (by kernel_rfl) ?_ _
                have HWB := Lib.hid hHeld
                clear hHeld
                go_wp2_with fail
                go_roundw
                case rel => exact ⟨j2, HJ.out.1, rfl, HWB.out⟩
                case measure => simp [intOf]; exact HJ.out.2
              | true =>
                have HJA := Lib.hid (HST.out.1 rfl)
                go_upto_region 14 with fail
                refine wp_region_held_drew (S := fun W' => Below w3.heap.size w3 W') (by kernel_rfl) (HBJ.out.drew) (fun hHeld => ?_)
                refine take_first (v := ?_) 0 rfl (by kernel_rfl) (by kernel_rfl) (by kernel_rfl) (fun _ _ _ h => h) (Or.inl ⟨by rfl, ?_⟩) (by assumption) ?_
                rotate_left
                · (intro w hSw; (try dsimp only at hSw); go_simp; try with_reducible rfl)
                (try simp only [Act.put, List.setIfInBounds_toArray, List.set_cons_zero, List.set_cons_succ])
                refine take_first (v := ?_) 1 rfl (by kernel_rfl) (by kernel_rfl) (by kernel_rfl) (fun _ _ _ h => h) (Or.inl ⟨by rfl, ?_⟩) (by assumption) ?_
                rotate_left
                · (intro w hSw; (try dsimp only at hSw); go_simp; try with_reducible rfl)
                (try simp only [Act.put, List.setIfInBounds_toArray, List.set_cons_zero, List.set_cons_succ])
                refine take_first (v := ?_) 2 rfl (by kernel_rfl) (by kernel_rfl) (by kernel_rfl) (fun _ _ _ h => h) (Or.inl ⟨by rfl, ?_⟩) (by assumption) ?_
                rotate_left
                · (intro w hSw; (try dsimp only at hSw); go_simp; try with_reducible rfl)
                (try simp only [Act.put, List.setIfInBounds_toArray, List.set_cons_zero, List.set_cons_succ])
                refine take_first (v := ?_) 3 rfl (by kernel_rfl) (by kernel_rfl) (by kernel_rfl) (fun _ _ _ h => h) (Or.inl ⟨by rfl, ?_⟩) (by assumption) ?_
                rotate_left
                · (intro w hSw; (try dsimp only at hSw); go_simp; try with_reducible rfl)
                (try simp only [Act.put, List.setIfInBounds_toArray, List.set_cons_zero, List.set_cons_succ])
                refine take_first (v := ?_) 4 rfl (by kernel_rfl) (by kernel_rfl) (by kernel_rfl) (fun _ _ _ h => h) (Or.inl ⟨by rfl, ?_⟩) (by assumption) ?_
                rotate_left
                · (intro w hSw; (try dsimp only at hSw); go_simp; try with_reducible rfl)
                (try simp only [Act.put, List.setIfInBounds_toArray, List.set_cons_zero, List.set_cons_succ])
                refine take_first (v := .agg ac) 5 rfl (by kernel_rfl) (by kernel_rfl) (by kernel_rfl) (fun _ _ _ h => h) (by rw [← HAC.out]; exact yields_load_obj (by rfl) 35 (.tmp 4) rfl w.heap.size 0 rfl a.cells (fun W hW => HP4.out W (HB3.out.trans (hW.mono HB3.out.size))) _ Try.underlying35 rfl (addr_cellsOf a HA.out)) (by assumption) ?_
                (try simp only [Act.put, List.setIfInBounds_toArray, List.set_cons_zero, List.set_cons_succ])
                refine take_first (v := ?_) 6 rfl (by kernel_rfl) (by kernel_rfl) (by kernel_rfl) (fun _ _ _ h => h) (Or.inl ⟨by rfl, ?_⟩) (by assumption) ?_
                rotate_left
                · (intro w hSw; (try dsimp only at hSw); go_simp; try with_reducible rfl)
                (try simp only [Act.put, List.setIfInBounds_toArray, List.set_cons_zero, List.set_cons_succ])
                refine take_first (v := ?_) 7 rfl (by kernel_rfl) (by kernel_rfl) (by kernel_rfl) (fun _ _ _ h => h) (Or.inl ⟨by rfl, ?_⟩) (by assumption) ?_
                rotate_left
                · (intro w hSw; (try dsimp only at hSw); go_simp; try with_reducible rfl)
                (try simp only [Act.put, List.setIfInBounds_toArray, List.set_cons_zero, List.set_cons_succ])
                refine take_first (v := ?_) 8 rfl (by kernel_rfl) (by kernel_rfl) (by kernel_rfl) (fun _ _ _ h => h) (Or.inl ⟨by rfl, ?_⟩) (by assumption) ?_
                rotate_left
                · (intro w hSw; (try dsimp only at hSw); go_simp; try with_reducible rfl)
                (try simp only [Act.put, List.setIfInBounds_toArray, List.set_cons_zero, List.set_cons_succ])
                refine take_first (v := ?_) 9 rfl (by kernel_rfl) (by kernel_rfl) (by kernel_rfl) (fun _ _ _ h => h) (Or.inl ⟨by rfl, ?_⟩) (by assumption) ?_
                rotate_left
                · (intro w hSw; (try dsimp only at hSw); go_simp; try with_reducible rfl)
                (try simp only [Act.put, List.setIfInBounds_toArray, List.set_cons_zero, List.set_cons_succ])
                refine take_first (v := .agg rac) 10 rfl (by kernel_rfl) (by kernel_rfl) (by kernel_rfl) (fun _ _ _ h => h) (by rw [← HRAC.out]; exact yields_load_obj (by rfl) 35 (.tmp 57) rfl g3 _ rfl r.a.cells (fun W hW => HRA.out W hW) _ Try.underlying35 rfl (addr_cellsOf r.a HOK.out.1)) (by assumption) ?_
                (try simp only [Act.put, List.setIfInBounds_toArray, List.set_cons_zero, List.set_cons_succ])
                refine step_one 11 rfl (by kernel_rfl) (fun K hK => ?_)
                go_simp
                refine (HLS.out _).mono ?_
                rintro e wy ⟨rfl, hb⟩
                have hb2 := hHeld.trans (hb.mono hHeld.size)
                clear hb hHeld
                go_wp2_with fail
                refine hK.out _ _ hb2 (fun hHeld => ?_)
                clear hK K hb2
                (try simp only [Act.put, List.setIfInBounds_toArray, List.set_cons_zero, List.set_cons_succ])
                refine take_first (v := ?_) 12 rfl (by kernel_rfl) (by kernel_rfl) (by kernel_rfl) (fun _ _ _ h => h) (Or.inl ⟨by rfl, ?_⟩) (by assumption) ?_
                rotate_left
                · (intro w hSw; (try dsimp only at hSw); go_simp; try with_reducible rfl)
                (try simp only [Act.put, List.setIfInBounds_toArray, List.set_cons_zero, List.set_cons_succ])
                refine take_first (v := ?_) 13 rfl (by kernel_rfl) (by kernel_rfl) (by kernel_rfl) (fun _ _ _ h => h) (Or.inl ⟨by rfl, ?_⟩) (by assumption) ?_
                rotate_left
                · (intro w hSw; (try dsimp only at hSw); go_simp; try with_reducible rfl)
                (try simp only [Act.put, List.setIfInBounds_toArray, List.set_cons_zero, List.set_cons_succ])
                refine wpAnyH_done (by kernel_rfl) ?_ _
                have HWJ := Lib.hid hHeld
                clear hHeld d1 d2 o2
                generalize hA9 : (some ⟨g3, off3, none⟩ : Option Addr) = A3 at HR3 HN3 ⊢
                clear hA9
                go_upto_region 16 with fail
                refine wp_region_held_drew (S := fun W' => Below w3.heap.size w3 W') (by kernel_rfl) (HWJ.out.drew) (fun hHeld => ?_)
                refine take_first (v := ?_) 0 rfl (by kernel_rfl) (by kernel_rfl) (by kernel_rfl) (fun _ _ _ h => h) (Or.inl ⟨by rfl, ?_⟩) (by assumption) ?_
                rotate_left
                · (intro w hSw; (try dsimp only at hSw); go_simp; try with_reducible rfl)
                (try simp only [Act.put, List.setIfInBounds_toArray, List.set_cons_zero, List.set_cons_succ])
                refine take_first (v := ?_) 1 rfl (by kernel_rfl) (by kernel_rfl) (by kernel_rfl) (fun _ _ _ h => h) (Or.inl ⟨by rfl, ?_⟩) (by assumption) ?_
                rotate_left
                · (intro w hSw; (try dsimp only at hSw); go_simp; try with_reducible rfl)
                (try simp only [Act.put, List.setIfInBounds_toArray, List.set_cons_zero, List.set_cons_succ])
                refine take_first (v := ?_) 2 rfl (by kernel_rfl) (by kernel_rfl) (by kernel_rfl) (fun _ _ _ h => h) (Or.inl ⟨by rfl, ?_⟩) (by assumption) ?_
                rotate_left
                · (intro w hSw; (try dsimp only at hSw); go_simp; try with_reducible rfl)
                (try simp only [Act.put, List.setIfInBounds_toArray, List.set_cons_zero, List.set_cons_succ])
                refine take_first (v := ?_) 3 rfl (by kernel_rfl) (by kernel_rfl) (by kernel_rfl) (fun _ _ _ h => h) (Or.inl ⟨by rfl, ?_⟩) (by assumption) ?_
                rotate_left
                · (intro w hSw; (try dsimp only at hSw); have s := objs_hm Try.underlying32 bk_info19 A3 n3 c3 j hjc w; go_simp; try with_reducible rfl)
                (try simp only [Act.put, List.setIfInBounds_toArray, List.set_cons_zero, List.set_cons_succ])
                refine take_first (v := .agg ac) 4 rfl (by kernel_rfl) (by kernel_rfl) (by kernel_rfl) (fun _ _ _ h => h) (by rw [← HAC.out]; exact yields_load_obj (by rfl) 35 (.tmp 4) rfl w.heap.size 0 rfl a.cells (fun W hW => HP4.out W (HB3.out.trans (hW.mono HB3.out.size))) _ Try.underlying35 rfl (addr_cellsOf a HA.out)) (by assumption) ?_
                (try simp only [Act.put, List.setIfInBounds_toArray, List.set_cons_zero, List.set_cons_succ])
                refine take_first (v := ?_) 5 rfl (by kernel_rfl) (by kernel_rfl) (by kernel_rfl) (fun _ _ _ h => h) (Or.inl ⟨by rfl, ?_⟩) (by assumption) ?_
                rotate_left
                · (intro w hSw; (try dsimp only at hSw); go_simp; try with_reducible rfl)
                (try simp only [Act.put, List.setIfInBounds_toArray, List.set_cons_zero, List.set_cons_succ])
                refine take_first (v := .agg nc) 6 rfl (by kernel_rfl) (by kernel_rfl) (by kernel_rfl) (fun _ _ _ h => h) (yields_build_obj (by rfl) 44 [(0, .tmp 68), (1, .const (.int .i64 5000)), (2, .tmp 69)] rfl nc HBT.out) (by assumption) ?_
                (try simp only [Act.put, List.setIfInBounds_toArray, List.set_cons_zero, List.set_cons_succ])
                refine take_first (v := ?_) 8 rfl (by kernel_rfl) (by kernel_rfl) (by kernel_rfl) (fun _ _ _ h => h) (Or.inl ⟨by rfl, ?_⟩) (by assumption) ?_
                rotate_left
                · (intro w hSw; (try dsimp only at hSw); go_simp; try with_reducible rfl)
                (try simp only [Act.put, List.setIfInBounds_toArray, List.set_cons_zero, List.set_cons_succ])
                refine take_first (v := ?_) 9 rfl (by kernel_rfl) (by kernel_rfl) (by kernel_rfl) (fun _ _ _ h => h) (Or.inl ⟨by rfl, ?_⟩) (by assumption) ?_
                rotate_left
                · (intro w hSw; (try dsimp only at hSw); go_simp; try with_reducible rfl)
                (try simp only [Act.put, List.setIfInBounds_toArray, List.set_cons_zero, List.set_cons_succ])
                refine take_first (v := ?_) 10 rfl (by kernel_rfl) (by kernel_rfl) (by kernel_rfl) (fun _ _ _ h => h) (Or.inl ⟨by rfl, ?_⟩) (by assumption) ?_
                rotate_left
                · (intro w hSw; (try dsimp only at hSw); have s := objs_l Try.underlying32 bk_info19 A3 n3 c3 j hjn2 w; go_simp; try with_reducible rfl)
                (try simp only [Act.put, List.setIfInBounds_toArray, List.set_cons_zero, List.set_cons_succ])
                refine step_one 7 rfl (by kernel_rfl) (fun K hK => ?_)
                refine step_buildOne rfl 32 44 (.tmp 70) rfl nc rfl 19 Try.underlying32 ik HKI.out.1 HKI.out.2.2.1 _ HKI.out.2.1 (by omega) (by omega) (by rw [← HNB.out, List.size_toArray, BucketM.cells_length HNK.out]) ?_
                have hbx := hHeld.alloc hHeld.size (.cells nc 44)
                have hown := World.ownsRow_lit (base := wy.drew.heap.size) (e := 44) (size := 19) wy.drew nc 1 (Nat.le_refl _) (by unfold maxLen; omega) (by rw [← HNB.out, List.size_toArray, BucketM.cells_length HNK.out])
                have hgx : w3.heap.size ≤ wy.drew.heap.size := hHeld.size
                have hqs : wy.drew.heap.size ≤ (wy.drew.alloc (.cells nc 44)).heap.size := by simp
                generalize wy.drew.alloc (.cells nc 44) = wx at hbx hown hqs ⊢
                generalize wy.drew.heap.size = gx at hown hqs hgx ⊢
                clear hHeld
                refine hK.out _ _ hbx (fun hHeld => ?_)
                clear hK K hbx
                (try simp only [Act.put, List.setIfInBounds_toArray, List.set_cons_zero, List.set_cons_succ])
                refine step_one 11 rfl (by kernel_rfl) (fun K hK => ?_)
                refine step_append_rows _ rfl (.tmp 71) (.tmp 74) 32 rfl gx 44 ik _ 19 40 Try.underlying32 HKI.out.1 HKI.out.2.1 HKI.out.2.2.1 HKI.out.2.2.2 (by rfl) (by omega) _ 1 nc.toList rfl hown w3.heap.size (addrK A3 j c3 19) (n3 - j) (c3 - j) (bksV (R.drop j)) rfl ((HR3.out.below hHeld).behind j c3 hjn2 HN3.out.1).1 (bksV_one _) (by unfold maxLen; omega) (by omega) hqs ?_
                intro v7 w7 ho7 hg7 _
                have hb7 : Below w3.heap.size w3 w7 := hHeld.grown hg7 hHeld.size (fun q hq => by have := (hown.lt q hq).1; omega)
                clear hg7 hown hHeld hqs
                refine hK.out _ _ hb7 (fun hHeld => ?_)
                clear hK K hb7
                (try simp only [Act.put, List.setIfInBounds_toArray, List.set_cons_zero, List.set_cons_succ])
                obtain ⟨A7, c7, rfl⟩ : ∃ A c, v7 = .slice A (1 + (n3 - j)) c := by
                  rcases ho7.2 with ⟨_, h0⟩ | ⟨g, cap, cur, h, _⟩
                  · omega
                  · exact ⟨_, _, h⟩
                have hrd7 := BkRd.of_own (l := newM a now :: R.drop j) (by rw [List.length_cons, List.length_drop, HLR.out]; omega) (fun q hq => by
                  rcases List.mem_cons.1 hq with rfl | hq
                  · exact HNK.out
                  · exact HR3.out.2 q (List.mem_of_mem_drop hq)) (show w7.ownsRow gx 44 19 (.slice A7 (1 + (n3 - j)) c7) (1 + (n3 - j)) (bksV (newM a now :: R.drop j)).flatten from by
                    have e : nc.toList ++ (bksV (R.drop j)).flatten = (bksV (newM a now :: R.drop j)).flatten := by rw [← HNB.out]; simp [bksV]
                    rw [← e]; exact ho7)
                clear ho7 hgx
                refine step_one 12 rfl (by kernel_rfl) (fun K hK => ?_)
                refine step_append_full _ rfl (.tmp 67) (.tmp 75) 32 rfl 44 ik _ 19 40 Try.underlying32 HKI.out.1 HKI.out.2.1 HKI.out.2.2.1 HKI.out.2.2.2 (by rfl) w3.heap.size (addrK A3 0 j 19) j j rfl (by
                  rcases HN3.out.2.2.2 with ⟨rfl, rfl, rfl⟩ | hA
                  · have : j = 0 := by omega
                    subst this
                    exact .inl ⟨rfl, rfl, rfl⟩
                  · refine .inr ⟨rfl, ?_⟩
                    unfold addrK
                    cases A3 with
                    | none => exact absurd rfl hA
                    | some ad => split <;> simp) (bksV (R.take j)) ((HR3.out.below hHeld).ahead j j hjn2).1 w7.heap.size A7 (1 + (n3 - j)) c7 rfl (by omega) (bksV (newM a now :: R.drop j)) hrd7.1 (by unfold maxLen; omega) (by omega) ?_
                intro v8 w8 ho8 hb8
                have hw7 : w.heap.size ≤ w7.heap.size := Nat.le_trans HB0.out.size hHeld.size
                have hb9 : Below w3.heap.size w3 w8 := hHeld.trans (hb8.mono hHeld.size)
                clear hHeld
                refine hK.out _ _ hb9 (fun hHeld => ?_)
                clear hK K hb8 hrd7
                (try simp only [Act.put, List.setIfInBounds_toArray, List.set_cons_zero, List.set_cons_succ])
                refine take_first (v := ?_) 13 rfl (by kernel_rfl) (by kernel_rfl) (by kernel_rfl) (fun _ _ _ h => h) (Or.inl ⟨by rfl, ?_⟩) (by assumption) ?_
                rotate_left
                · (intro w hSw; (try dsimp only at hSw); go_simp; try with_reducible rfl)
                (try simp only [Act.put, List.setIfInBounds_toArray, List.set_cons_zero, List.set_cons_succ])
                refine wpAnyH_done (by kernel_rfl) ?_ _
                clear hHeld
                rw [bksV_append] at ho8
                obtain ⟨A8, c8, rfl⟩ : ∃ A c, v8 = .slice A (j + (1 + (n3 - j))) c := by
                  rcases ho8.2 with ⟨_, h0⟩ | ⟨g, cap, cur, h, _⟩
                  · omega
                  · exact ⟨_, _, h⟩
                have HF := Lib.hid (And.intro (bkOwn_weaken ho8 hw7) (HB0.out.trans (hb9.mono HB0.out.size)))
                clear ho8 hw7 hb9
                go_wp2_with fail
                go_meet
                have hln : (R.take j ++ newM a now :: R.drop j).length = j + (1 + (n3 - j)) := by rw [List.length_append, List.length_cons, List.length_take, List.length_drop, HLR.out]; omega
                exact ⟨A8, c8, R.take j ++ newM a now :: R.drop j, j, by rw [hln], rfl, by rw [HG.out, HJA.out], by rw [hln]; omega, fun q hq => by
                  rcases List.mem_append.1 hq with hq | hq
                  · exact HR3.out.2 q (List.mem_of_mem_take hq)
                  · rcases List.mem_cons.1 hq with rfl | hq
                    · exact HNK.out
                    · exact HR3.out.2 q (List.mem_of_mem_drop hq), by rw [hln]; exact HF.out.1, HF.out.2⟩
            · have HJA := Lib.hid (show aheadB a R = j from by omega)
              have d1 : decide ((j : Int) < (n3 : Int)) = false := by simp; omega
              have d2 : decide (j < n3) = false := decide_eq_false hjn
              go_upto_region 14 with fail
              refine wp_region_held_drew (S := fun W' => Below w3.heap.size w3 W') (by kernel_rfl) (HBJ.out.drew) (fun hHeld => ?_)
              refine take_first (v := ?_) 0 rfl (by kernel_rfl) (by kernel_rfl) (by kernel_rfl) (fun _ _ _ h => h) (Or.inl ⟨by rfl, ?_⟩) (by assumption) ?_
              rotate_left
              · (intro w hSw; (try dsimp only at hSw); go_simp; try with_reducible rfl)
              (try simp only [Act.put, List.setIfInBounds_toArray, List.set_cons_zero, List.set_cons_succ])
              refine take_first (v := ?_) 1 rfl (by kernel_rfl) (by kernel_rfl) (by kernel_rfl) (fun _ _ _ h => h) (Or.inl ⟨by rfl, ?_⟩) (by assumption) ?_
              rotate_left
              · (intro w hSw; (try dsimp only at hSw); go_simp; try with_reducible rfl)
              (try simp only [Act.put, List.setIfInBounds_toArray, List.set_cons_zero, List.set_cons_succ])
              refine take_first (v := ?_) 2 rfl (by kernel_rfl) (by kernel_rfl) (by kernel_rfl) (fun _ _ _ h => h) (Or.inl ⟨by rfl, ?_⟩) (by assumption) ?_
              rotate_left
              · (intro w hSw; (try dsimp only at hSw); go_simp; try with_reducible rfl)
              (try simp only [Act.put, List.setIfInBounds_toArray, List.set_cons_zero, List.set_cons_succ])
              refine take_first (v := ?_) 3 rfl (by kernel_rfl) (by kernel_rfl) (by kernel_rfl) (fun _ _ _ h => h) (Or.inl ⟨by rfl, ?_⟩) (by assumption) ?_
              rotate_left
              · (intro w hSw; (try dsimp only at hSw); go_simp; try with_reducible rfl)
              (try simp only [Act.put, List.setIfInBounds_toArray, List.set_cons_zero, List.set_cons_succ])
              refine take_first (v := ?_) 4 rfl (by kernel_rfl) (by kernel_rfl) (by kernel_rfl) (fun _ _ _ h => h) (Or.inl ⟨by rfl, ?_⟩) (by assumption) ?_
              rotate_left
              · (intro w hSw; (try dsimp only at hSw); go_simp; try with_reducible rfl)
              (try simp only [Act.put, List.setIfInBounds_toArray, List.set_cons_zero, List.set_cons_succ])
              refine take_first (v := undef) 5 rfl (by kernel_rfl) (by kernel_rfl) (by kernel_rfl) (fun _ _ _ h => h) (Or.inr ⟨by rfl, rfl⟩) (by assumption) ?_
              (try simp only [Act.put, List.setIfInBounds_toArray, List.set_cons_zero, List.set_cons_succ])
              refine take_first (v := undef) 6 rfl (by kernel_rfl) (by kernel_rfl) (by kernel_rfl) (fun _ _ _ h => h) (Or.inr ⟨by rfl, rfl⟩) (by assumption) ?_
              (try simp only [Act.put, List.setIfInBounds_toArray, List.set_cons_zero, List.set_cons_succ])
              refine take_first (v := undef) 7 rfl (by kernel_rfl) (by kernel_rfl) (by kernel_rfl) (fun _ _ _ h => h) (Or.inr ⟨by rfl, rfl⟩) (by assumption) ?_
              (try simp only [Act.put, List.setIfInBounds_toArray, List.set_cons_zero, List.set_cons_succ])
              refine take_first (v := undef) 8 rfl (by kernel_rfl) (by kernel_rfl) (by kernel_rfl) (fun _ _ _ h => h) (Or.inr ⟨by rfl, rfl⟩) (by assumption) ?_
              (try simp only [Act.put, List.setIfInBounds_toArray, List.set_cons_zero, List.set_cons_succ])
              refine take_first (v := undef) 9 rfl (by kernel_rfl) (by kernel_rfl) (by kernel_rfl) (fun _ _ _ h => h) (Or.inr ⟨by rfl, rfl⟩) (by assumption) ?_
              (try simp only [Act.put, List.setIfInBounds_toArray, List.set_cons_zero, List.set_cons_succ])
              refine take_first (v := undef) 10 rfl (by kernel_rfl) (by kernel_rfl) (by kernel_rfl) (fun _ _ _ h => h) (Or.inr ⟨by rfl, rfl⟩) (by assumption) ?_
              (try simp only [Act.put, List.setIfInBounds_toArray, List.set_cons_zero, List.set_cons_succ])
              refine take_first (v := undef) 11 rfl (by kernel_rfl) (by kernel_rfl) (by kernel_rfl) (fun _ _ _ h => h) (Or.inr ⟨by rfl, rfl⟩) (by assumption) ?_
              (try simp only [Act.put, List.setIfInBounds_toArray, List.set_cons_zero, List.set_cons_succ])
              refine take_first (v := undef) 12 rfl (by kernel_rfl) (by kernel_rfl) (by kernel_rfl) (fun _ _ _ h => h) (Or.inr ⟨by rfl, rfl⟩) (by assumption) ?_
              (try simp only [Act.put, List.setIfInBounds_toArray, List.set_cons_zero, List.set_cons_succ])
              refine take_first (v := ?_) 13 rfl (by kernel_rfl) (by kernel_rfl) (by kernel_rfl) (fun _ _ _ h => h) (Or.inl ⟨by rfl, ?_⟩) (by assumption) ?_
              rotate_left
              · (intro w hSw; (try dsimp only at hSw); go_simp; try with_reducible rfl)
              (try simp only [Act.put, List.setIfInBounds_toArray, List.set_cons_zero, List.set_cons_succ])
              refine wpAnyH_done (by kernel_rfl) ?_ _
              have HWJ := Lib.hid hHeld
              clear hHeld d1 d2
              go_upto_region 16 with fail
              refine wp_region_held_drew (S := fun W' => Below w3.heap.size w3 W') (by kernel_rfl) (HWJ.out.drew) (fun hHeld => ?_)
              refine take_first (v := ?_) 0 rfl (by kernel_rfl) (by kernel_rfl) (by kernel_rfl) (fun _ _ _ h => h) (Or.inl ⟨by rfl, ?_⟩) (by assumption) ?_
              rotate_left
              · (intro w hSw; (try dsimp only at hSw); go_simp; try with_reducible rfl)
              (try simp only [Act.put, List.setIfInBounds_toArray, List.set_cons_zero, List.set_cons_succ])
              refine take_first (v := ?_) 1 rfl (by kernel_rfl) (by kernel_rfl) (by kernel_rfl) (fun _ _ _ h => h) (Or.inl ⟨by rfl, ?_⟩) (by assumption) ?_
              rotate_left
              · (intro w hSw; (try dsimp only at hSw); go_simp; try with_reducible rfl)
              (try simp only [Act.put, List.setIfInBounds_toArray, List.set_cons_zero, List.set_cons_succ])
              refine take_first (v := ?_) 2 rfl (by kernel_rfl) (by kernel_rfl) (by kernel_rfl) (fun _ _ _ h => h) (Or.inl ⟨by rfl, ?_⟩) (by assumption) ?_
              rotate_left
              · (intro w hSw; (try dsimp only at hSw); go_simp; try with_reducible rfl)
              (try simp only [Act.put, List.setIfInBounds_toArray, List.set_cons_zero, List.set_cons_succ])
              refine take_first (v := ?_) 3 rfl (by kernel_rfl) (by kernel_rfl) (by kernel_rfl) (fun _ _ _ h => h) (Or.inl ⟨by rfl, ?_⟩) (by assumption) ?_
              rotate_left
              · (intro w hSw; (try dsimp only at hSw); have s := objs_hm Try.underlying32 bk_info19 A3 n3 c3 j hjc w; go_simp; try with_reducible rfl)
              (try simp only [Act.put, List.setIfInBounds_toArray, List.set_cons_zero, List.set_cons_succ])
              refine take_first (v := .agg ac) 4 rfl (by kernel_rfl) (by kernel_rfl) (by kernel_rfl) (fun _ _ _ h => h) (by rw [← HAC.out]; exact yields_load_obj (by rfl) 35 (.tmp 4) rfl w.heap.size 0 rfl a.cells (fun W hW => HP4.out W (HB3.out.trans (hW.mono HB3.out.size))) _ Try.underlying35 rfl (addr_cellsOf a HA.out)) (by assumption) ?_
              (try simp only [Act.put, List.setIfInBounds_toArray, List.set_cons_zero, List.set_cons_succ])
              refine take_first (v := ?_) 5 rfl (by kernel_rfl) (by kernel_rfl) (by kernel_rfl) (fun _ _ _ h => h) (Or.inl ⟨by rfl, ?_⟩) (by assumption) ?_
              rotate_left
              · (intro w hSw; (try dsimp only at hSw); go_simp; try with_reducible rfl)
              (try simp only [Act.put, List.setIfInBounds_toArray, List.set_cons_zero, List.set_cons_succ])
              refine take_first (v := .agg nc) 6 rfl (by kernel_rfl) (by kernel_rfl) (by kernel_rfl) (fun _ _ _ h => h) (yields_build_obj (by rfl) 44 [(0, .tmp 68), (1, .const (.int .i64 5000)), (2, .tmp 69)] rfl nc HBT.out) (by assumption) ?_
              (try simp only [Act.put, List.setIfInBounds_toArray, List.set_cons_zero, List.set_cons_succ])
              refine take_first (v := ?_) 8 rfl (by kernel_rfl) (by kernel_rfl) (by kernel_rfl) (fun _ _ _ h => h) (Or.inl ⟨by rfl, ?_⟩) (by assumption) ?_
              rotate_left
              · (intro w hSw; (try dsimp only at hSw); go_simp; try with_reducible rfl)
              (try simp only [Act.put, List.setIfInBounds_toArray, List.set_cons_zero, List.set_cons_succ])
              refine take_first (v := ?_) 9 rfl (by kernel_rfl) (by kernel_rfl) (by kernel_rfl) (fun _ _ _ h => h) (Or.inl ⟨by rfl, ?_⟩) (by assumption) ?_
              rotate_left
              · (intro w hSw; (try dsimp only at hSw); go_simp; try with_reducible rfl)
              (try simp only [Act.put, List.setIfInBounds_toArray, List.set_cons_zero, List.set_cons_succ])
              refine take_first (v := ?_) 10 rfl (by kernel_rfl) (by kernel_rfl) (by kernel_rfl) (fun _ _ _ h => h) (Or.inl ⟨by rfl, ?_⟩) (by assumption) ?_
              rotate_left
              · (intro w hSw; (try dsimp only at hSw); have s := objs_l Try.underlying32 bk_info19 A3 n3 c3 j hjn2 w; go_simp; try with_reducible rfl)
              (try simp only [Act.put, List.setIfInBounds_toArray, List.set_cons_zero, List.set_cons_succ])
              refine step_one 7 rfl (by kernel_rfl) (fun K hK => ?_)
              refine step_buildOne rfl 32 44 (.tmp 70) rfl nc rfl 19 Try.underlying32 ik HKI.out.1 HKI.out.2.2.1 _ HKI.out.2.1 (by omega) (by omega) (by rw [← HNB.out, List.size_toArray, BucketM.cells_length HNK.out]) ?_
              have hbx := hHeld.alloc hHeld.size (.cells nc 44)
              have hown := World.ownsRow_lit (base := wr.drew.drew.heap.size) (e := 44) (size := 19) wr.drew.drew nc 1 (Nat.le_refl _) (by unfold maxLen; omega) (by rw [← HNB.out, List.size_toArray, BucketM.cells_length HNK.out])
              have hgx : w3.heap.size ≤ wr.drew.drew.heap.size := hHeld.size
              have hqs : wr.drew.drew.heap.size ≤ (wr.drew.drew.alloc (.cells nc 44)).heap.size := by simp
              generalize wr.drew.drew.alloc (.cells nc 44) = wx at hbx hown hqs ⊢
              generalize wr.drew.drew.heap.size = gx at hown hqs hgx ⊢
              clear hHeld
              refine hK.out _ _ hbx (fun hHeld => ?_)
              clear hK K hbx
              (try simp only [Act.put, List.setIfInBounds_toArray, List.set_cons_zero, List.set_cons_succ])
              refine step_one 11 rfl (by kernel_rfl) (fun K hK => ?_)
              refine step_append_rows _ rfl (.tmp 71) (.tmp 74) 32 rfl gx 44 ik _ 19 40 Try.underlying32 HKI.out.1 HKI.out.2.1 HKI.out.2.2.1 HKI.out.2.2.2 (by rfl) (by omega) _ 1 nc.toList rfl hown w3.heap.size (addrK A3 j c3 19) (n3 - j) (c3 - j) (bksV (R.drop j)) rfl ((HR3.out.below hHeld).behind j c3 hjn2 HN3.out.1).1 (bksV_one _) (by unfold maxLen; omega) (by omega) hqs ?_
              intro v7 w7 ho7 hg7 _
              have hb7 : Below w3.heap.size w3 w7 := hHeld.grown hg7 hHeld.size (fun q hq => by have := (hown.lt q hq).1; omega)
              clear hg7 hown hHeld hqs
              refine hK.out _ _ hb7 (fun hHeld => ?_)
              clear hK K hb7
              (try simp only [Act.put, List.setIfInBounds_toArray, List.set_cons_zero, List.set_cons_succ])
              obtain ⟨A7, c7, rfl⟩ : ∃ A c, v7 = .slice A (1 + (n3 - j)) c := by
                rcases ho7.2 with ⟨_, h0⟩ | ⟨g, cap, cur, h, _⟩
                · omega
                · exact ⟨_, _, h⟩
              have hrd7 := BkRd.of_own (l := newM a now :: R.drop j) (by rw [List.length_cons, List.length_drop, HLR.out]; omega) (fun q hq => by
                rcases List.mem_cons.1 hq with rfl | hq
                · exact HNK.out
                · exact HR3.out.2 q (List.mem_of_mem_drop hq)) (show w7.ownsRow gx 44 19 (.slice A7 (1 + (n3 - j)) c7) (1 + (n3 - j)) (bksV (newM a now :: R.drop j)).flatten from by
                  have e : nc.toList ++ (bksV (R.drop j)).flatten = (bksV (newM a now :: R.drop j)).flatten := by rw [← HNB.out]; simp [bksV]
                  rw [← e]; exact ho7)
              clear ho7 hgx
              refine step_one 12 rfl (by kernel_rfl) (fun K hK => ?_)
              refine step_append_full _ rfl (.tmp 67) (.tmp 75) 32 rfl 44 ik _ 19 40 Try.underlying32 HKI.out.1 HKI.out.2.1 HKI.out.2.2.1 HKI.out.2.2.2 (by rfl) w3.heap.size (addrK A3 0 j 19) j j rfl (by
                rcases HN3.out.2.2.2 with ⟨rfl, rfl, rfl⟩ | hA
                · have : j = 0 := by omega
                  subst this
                  exact .inl ⟨rfl, rfl, rfl⟩
                · refine .inr ⟨rfl, ?_⟩
                  unfold addrK
                  cases A3 with
                  | none => exact absurd rfl hA
                  | some ad => split <;> simp) (bksV (R.take j)) ((HR3.out.below hHeld).ahead j j hjn2).1 w7.heap.size A7 (1 + (n3 - j)) c7 rfl (by omega) (bksV (newM a now :: R.drop j)) hrd7.1 (by unfold maxLen; omega) (by omega) ?_
              intro v8 w8 ho8 hb8
              have hw7 : w.heap.size ≤ w7.heap.size := Nat.le_trans HB0.out.size hHeld.size
              have hb9 : Below w3.heap.size w3 w8 := hHeld.trans (hb8.mono hHeld.size)
              clear hHeld
              refine hK.out _ _ hb9 (fun hHeld => ?_)
              clear hK K hb8 hrd7
              (try simp only [Act.put, List.setIfInBounds_toArray, List.set_cons_zero, List.set_cons_succ])
              refine take_first (v := ?_) 13 rfl (by kernel_rfl) (by kernel_rfl) (by kernel_rfl) (fun _ _ _ h => h) (Or.inl ⟨by rfl, ?_⟩) (by assumption) ?_
              rotate_left
              · (intro w hSw; (try dsimp only at hSw); go_simp; try with_reducible rfl)
              (try simp only [Act.put, List.setIfInBounds_toArray, List.set_cons_zero, List.set_cons_succ])
              refine wpAnyH_done (by kernel_rfl) ?_ _
              clear hHeld
              rw [bksV_append] at ho8
              obtain ⟨A8, c8, rfl⟩ : ∃ A c, v8 = .slice A (j + (1 + (n3 - j))) c := by
                rcases ho8.2 with ⟨_, h0⟩ | ⟨g, cap, cur, h, _⟩
                · omega
                · exact ⟨_, _, h⟩
              have HF := Lib.hid (And.intro (bkOwn_weaken ho8 hw7) (HB0.out.trans (hb9.mono HB0.out.size)))
              clear ho8 hw7 hb9
              go_wp2_with fail
              go_meet
              have hln : (R.take j ++ newM a now :: R.drop j).length = j + (1 + (n3 - j)) := by rw [List.length_append, List.length_cons, List.length_take, List.length_drop, HLR.out]; omega
              exact ⟨A8, c8, R.take j ++ newM a now :: R.drop j, j, by rw [hln], rfl, by rw [HG.out, HJA.out], by rw [hln]; omega, fun q hq => by
                rcases List.mem_append.1 hq with hq | hq
                · exact HR3.out.2 q (List.mem_of_mem_take hq)
                · rcases List.mem_cons.1 hq with rfl | hq
                  · exact HNK.out
                  · exact HR3.out.2 q (List.mem_of_mem_drop hq), by rw [hln]; exact HF.out.1, HF.out.2⟩
      obtain ⟨A3, c3, G, p, rfl, rfl, hgv, hpg, hokg, hown, hbw⟩ := hcut
      obtain ⟨b, hb0⟩ : ∃ b, G[p]? = some b := ⟨G[p], List.getElem?_eq_getElem hpg⟩
      have hgl := given_len hgv
      obtain ⟨m, hm⟩ : ∃ z, G.length = z := ⟨_, rfl⟩
      rw [hm] at hpg hown hgl ⊢
      have hml : m ≤ 1001 := by have := HLN.out; omega
      obtain ⟨g, rest, hA3, hbg, hblk, hrl, hnc3, hcm3⟩ := bkOwn_blk hown (by omega)
      subst hA3
      have HAT := Lib.hid (bk_row_at hblk hokg hb0)
      have HOK := Lib.hid (hokg b (List.mem_of_getElem? hb0))
      have ftk := bk_tok_at HAT.out HOK.out
      have zz := hblk.frozen (p * 19 + 17)
      have HTK := Lib.hid (show inI64 b.tok from HOK.out.2.1)
      obtain ⟨t, ht⟩ : ∃ z, b.tok = z := ⟨_, rfl⟩
      rw [ht] at ftk HTK
      have HLO := Lib.hid (fun (h : t < 1000) => (show al = (G, false) from by rw [← HAL.out, allowM, hgv]; exact takeB_low hb0 (by rw [ht]; exact h)))
      have HHI := Lib.hid (fun (h : ¬ t < 1000) => (show al = (G.set p { b with tok := t - 1000 }, true) from by rw [← HAL.out, allowM, hgv, ← ht]; exact takeB_high hb0 (by rw [ht]; exact h)))
      have HRT := Lib.hid (fun v => bk_row_tok (rest := rest) hokg hb0 v)
      have HBL := Lib.hid hblk
      have HOKG := Lib.hid hokg
      have HRL := Lib.hid (And.intro hbg (And.intro hrl (And.intro hnc3 hcm3)))
      have HMM := Lib.hid hm
      have HOWG := Lib.hid hown
      have HBW := Lib.hid hbw
      have e2 : (p : Int) < (m : Int) := by omega
      have d2 : decide ((p : Int) < (m : Int)) = true := decide_eq_true e2
      have d3 : decide (p < m) = true := decide_eq_true hpg
      clear hgv hokg hown hbw hb0 hblk hbg hrl hnc3 hcm3 hm hgl HAT ht HBQ HPE HOWN HNN
      by_cases hl : t < 1000
      · have d1 : decide (t < 1000) = true := decide_eq_true hl
        have HE := Lib.hid (HLO.out hl)
        clear hl
        go_wp2_with fail
        go_ret2
        exact ⟨some ⟨g, 0, none⟩, m, c3, by rw [HE.out]; rfl, HRL.out.2.2.1, HRL.out.2.2.2, by rw [HE.out]; exact BkRd.of_own HMM.out HOKG.out HOWG.out, HBW.out⟩
      · have d1 : decide (t < 1000) = false := decide_eq_false hl
        have HE := Lib.hid (HHI.out hl)
        have hk := HTK.out
        have w1' : IntKind.i64.wrap (t - 1000) = t - 1000 := by rw [IntKind.wrap_i64]; have := hk.1; have := hk.2; omega
        have HNO := Lib.hid (show BucketM.ok { b with tok := t - 1000 } from ⟨HOK.out.1, ⟨by show -9223372036854775808 ≤ t - 1000; omega, by show t - 1000 ≤ 9223372036854775807; have := hk.2; omega⟩, HOK.out.2.2⟩)
        obtain ⟨t2, ht2⟩ : ∃ z, t - 1000 = z := ⟨_, rfl⟩
        rw [ht2] at w1' HE HNO
        have hs2 : decide (t - 1000 = t2) = true := decide_eq_true ht2
        clear hl hk hs2
        go_wp2_with fail
        go_ret2
        have hb9 := HBL.out.set_ (p * 19 + 17) (.int .i64 t2)
        rw [HRT.out] at hb9
        have hln : (G.set p { b with tok := t2 }).length = m := by rw [List.length_set]; exact HMM.out
        have hok9 := bks_set_ok HOKG.out HNO.out (p := p)
        exact ⟨some ⟨g, 0, none⟩, m, c3, by rw [HE.out]; rfl, HRL.out.2.2.1, HRL.out.2.2.2, by rw [HE.out]; exact BkRd.of_own hln hok9 (bkBlk_own hb9 hln hok9 HRL.out.1 HRL.out.2.1 HRL.out.2.2.1 HRL.out.2.2.2), HBW.out.setCell (p := ⟨g, p * 19 + 17, none⟩) (HRL.out.1) _⟩
end Go.Proofs.Ytpahfckihcbajaa
namespace Go.Proofs.Ytpahfckihcbajaa
open Go.RowKit

theorem grownD {a w : World} {row : Option Nat} (h : a.grownBy w row) : a.grownBy w.drew row := ⟨h.os, h.tape, h.output, h.size, h.block⟩
theorem grownB {a w w' : World} {row : Option Nat} (h : a.grownBy w row) (hb : Below w.heap.size w w') : a.grownBy w' row :=
  grownBy_trans h ⟨hb.os, hb.tape, hb.output, hb.size, fun k hk _ => hb.block k hk⟩
theorem grown_refl (w : World) (k : Option Nat) : w.grownBy w k := ⟨rfl, rfl, rfl, Nat.le_refl _, fun _ _ _ => rfl⟩
/-- a change above w is none below it -/
theorem grownA {w W W' : World} {g : Nat} {row : Option Nat} (h : w.grownBy W (some g)) (hb : W.grownBy W' row) (hr : ∀ k, row = some k → w.heap.size ≤ k) : w.grownBy W' (some g) :=
  ⟨hb.os.trans h.os, hb.tape.trans h.tape, hb.output.trans h.output, Nat.le_trans h.size hb.size, fun k hk hne => (hb.block k (Nat.lt_of_lt_of_le hk h.size) (fun e => absurd (hr k e.symm) (by omega))).trans (h.block k hk hne)⟩
/-- the entries, and that of what was there ahead of w0 only the block g has changed -/
def MemG (w0 : World) (g : Nat) (E : List Ent) (W : World) : Prop := MemE w0.heap.size E W.heap.size W ∧ w0.grownBy W (some g)
section
variable {w0 W W' : World} {g : Nat} {E : List Ent}
theorem MemG.nil (w0 : World) (g : Nat) : MemG w0 g [] w0 := ⟨Nat.le_refl _, grown_refl _ _⟩
theorem MemG.get (h : MemG w0 g E W) (i : Nat) {e : Ent} (he : E[i]? = some e) : e.P W := h.1.get i e he
theorem MemG.blk (h : MemG w0 g E W) (i : Nat) {b : Nat} {t : TypeId} {cs : List Value} (he : E[i]? = some (blkE b t cs)) : Blk W b t cs := h.1.get i _ he
theorem MemG.rd (h : MemG w0 g E W) (i : Nat) {lo hi : Nat} {A : Option Addr} {n : Nat} {l : List UInt8} (he : E[i]? = some (rdE lo hi A n l)) : Rd W W.heap.size A n l :=
  (RdIn.rd (h.1.get i _ he)).mono (MemE.put.MemE.under h.1 i _ he)
theorem MemG.below (h : MemG w0 g E W) (hb : Below W.heap.size W W') : MemG w0 g E W' := ⟨h.1.keep hb.size (fun k _ hk => hb.block k hk), grownB h.2 hb⟩
theorem MemG.drew (h : MemG w0 g E W) : MemG w0 g E W.drew := h.below ((Below.refl _ _).drew)
/-- the block g changes -/
theorem MemG.next (h : MemG w0 g E W) (hg : g < w0.heap.size) (hb : W.grownBy W' (some g)) : MemG w0 g E W' :=
  ⟨h.1.keep hb.size (fun k h1 hk => hb.block k hk (fun e => by injection e with e; omega)), grownBy_trans h.2 hb⟩
theorem MemG.alloc (h : MemG w0 g E W) {b : Nat} (hb0 : b = W.heap.size) (t : TypeId) (arr : Array Value) (cs : List Value) (ha : arr = cs.toArray) : MemG w0 g (blkE b t cs :: E) (W.alloc (.cells arr t)) := by
  subst hb0 ha
  have hb : Below W.heap.size W (W.alloc (.cells cs.toArray t)) := (Below.refl _ _).alloc (Nat.le_refl _) _
  refine ⟨⟨?_, Nat.le_succ _, Blk.new W t cs, h.1.keep (Nat.le_refl _) (fun k _ hk => hb.block k hk)⟩, grownB h.2 hb⟩
  show W.heap.size + 1 ≤ _
  simp
theorem MemG.call (h : MemG w0 g E W) (hb : Below W.heap.size W W') (e : Ent) (hl : e.lo = W.heap.size) (hh : e.hi = W'.heap.size) (hp : e.P W') : MemG w0 g (e :: E) W' :=
  ⟨⟨by rw [hh]; exact Nat.le_refl _, by rw [hl, hh]; exact hb.size, hp, by rw [hl]; exact h.1.keep (Nat.le_refl _) (fun k _ hk => hb.block k hk)⟩, grownB h.2 hb⟩
theorem MemG.put (h : MemG w0 g E W) (i : Nat) {b : Nat} {t : TypeId} {cs : List Value} (he : E[i]? = some (blkE b t cs)) (cs' : List Value) (hg : W.grownBy W' (some b)) (hb : Blk W' b t cs') : MemG w0 g (E.set i (blkE b t cs')) W' := by
  have hlow : w0.heap.size ≤ b := MemE.low h.1 i _ he
  refine ⟨(MemE.put h.1 i _ (blkE b t cs') he rfl rfl (fun k hk hne => hg.block k hk (fun e => hne ?_)) hb).keep hg.size (fun _ _ _ => rfl), grownA h.2 hg (fun k hk => by injection hk with hk; omega)⟩
  injection e with e
  subst e
  exact ⟨Nat.le_refl _, Nat.lt_succ_self _⟩
theorem MemG.setCell (h : MemG w0 g E W) (i : Nat) {b : Nat} {t : TypeId} {cs : List Value} (he : E[i]? = some (blkE b t cs)) (j : Nat) (u : Value) : MemG w0 g (E.set i (blkE b t (cs.set j u))) (W.setCell ⟨b, j, none⟩ u) :=
  h.put i he _ ⟨rfl, rfl, rfl, by simp [World.setCell], fun k _ hne => Below.heap_setCell _ _ _ _ (fun e => hne (by rw [e]))⟩ ((h.blk i he).set_ j u)
end
end Go.Proofs.Ytpahfckihcbajaa
namespace Go.Proofs.Ytpahfckihcbajaa
open Go.RowKit

/-- the list of choices that lies at A, p of them taken -/
def codesC (A : Option Addr) (n c p : Nat) : List Value := [.slice A n c, .int .i64 (p : Int)]
def nextV (l : List UInt8) (p m : Nat) : Nat := if p < l.length ∧ 1 ≤ m then (l.getD p 0).toNat % m else 0
def nextP (l : List UInt8) (p m : Nat) : Nat := if p < l.length ∧ 1 ≤ m then p + 1 else p
theorem nextP_le (l : List UInt8) (p m : Nat) (h : p ≤ l.length) : nextP l p m ≤ l.length := by unfold nextP; split <;> omega
theorem nextV_lt (l : List UInt8) (p m : Nat) (h : 1 ≤ m) : nextV l p m < m := by unfold nextV; split; exact Nat.mod_lt _ h; omega
set_option maxRecDepth 100000 in
theorem caseLeft_any (g : Nat) (A : Option Addr) (n c : Nat) (p : Nat) (w : World) (hg : Blk w g 53 (codesC A n c p)) :
    Calls Try.prog 15 #[.pointer (some ⟨g, 0, none⟩)] w fun e w' => e = .returned (.bool (decide (p < n))) ∧ Below w.heap.size w w' := by
  have HG := Lib.hid hg
  have hd : decide ((p : Int) < (n : Int)) = decide (p < n) := by simp
  obtain ⟨q, hq⟩ : ∃ q, decide (p < n) = q := ⟨_, rfl⟩
  rw [hq] at hd
  have HQ := Lib.hid hq
  clear hg hq
  go_enter Try.func15, Try.ntmps15
  have f0 := HG.out.cell 0
  have f1 := HG.out.cell 1
  rw [show (codesC A n c p)[0]? = some (.slice A n c) from rfl] at f0
  rw [show (codesC A n c p)[1]? = some (.int .i64 (p : Int)) from rfl] at f1
  go_upto_region 1 with fail
  go_region
  go_wp2
  go_ret
  exact ⟨by rw [HQ.out]; rfl, (Below.refl _ _).drew⟩
set_option maxRecDepth 100000 in
set_option maxHeartbeats 2000000 in
theorem caseNext_any (g : Nat) (A : Option Addr) (n c : Nat) (l : List UInt8) (p : Nat) (hn : n ≤ 100000) (hp : p ≤ n) (m : Nat) (hm : m ≤ 1000000) (B : Nat) (hB : B ≤ g) (w : World) (hg : Blk w g 53 (codesC A n c p)) (hr : Rd w B A n l) :
    Calls Try.prog 16 #[.pointer (some ⟨g, 0, none⟩), .int .i64 (m : Int)] w fun e w' => e = .returned (.int .i64 (nextV l p m : Int)) ∧ Blk w' g 53 (codesC A n c (nextP l p m)) ∧ w.grownBy w' (some g) := by
  have hl := hr.1
  have LC := caseLeft_any g A n c p w hg
  have HG := Lib.hid hg
  have HR := Lib.hid hr
  have HLC := Lib.hid LC
  clear hg hr LC
  by_cases hpn : p < n
  · by_cases hm1 : 1 ≤ m
    · have HV := Lib.hid (show nextV l p m = (l.getD p 0).toNat % m ∧ nextP l p m = p + 1 from ⟨if_pos ⟨by omega, hm1⟩, if_pos ⟨by omega, hm1⟩⟩)
      obtain ⟨b, off, rfl, hb0, _⟩ := HR.out.at_ (by omega)
      go_enter Try.func16, Try.ntmps16
      go_upto_region 1 with fail
      go_wp2_with fail
      refine HLC.out.mono ?_
      rintro e w1 ⟨rfl, hb⟩
      rw [decide_eq_true hpn]
      have HG1 := Lib.hid (HG.out.below hb HG.out.lt)
      have HR1 := Lib.hid ((HR.out.mono (Nat.le_trans hB (Nat.le_of_lt HG.out.lt))).below hb)
      have HW := Lib.hid (grownB (grown_refl w (some g)) hb)
      clear hb HLC
      have dm : decide ((m : Int) < 1) = false := by simp; omega
      have f0 := HG1.out.cell 0
      have f1 := HG1.out.cell 1
      rw [show (codesC (some ⟨b, off, none⟩) n c p)[0]? = some (.slice (some ⟨b, off, none⟩) n c) from rfl] at f0
      rw [show (codesC (some ⟨b, off, none⟩) n c p)[1]? = some (.int .i64 (p : Int)) from rfl] at f1
      have z1 := HG1.out.frozen 1
      have hw1 : IntKind.i64.wrap ((p : Int) + 1) = ((p + 1 : Nat) : Int) := by rw [IntWalk.i64_in _ (by omega)]; omega
      obtain ⟨p1, hp1⟩ : ∃ q, p + 1 = q := ⟨_, rfl⟩
      rw [hp1] at hw1
      have hs := HG1.out.set_ 1 (.int .i64 (p1 : Int))
      have HS := Lib.hid (show Blk (w1.setCell ⟨g, 1, none⟩ (.int .i64 (p1 : Int))) g 53 (codesC (some ⟨b, off, none⟩) n c p1) from hs)
      have HW2 := Lib.hid (show w.grownBy (w1.setCell ⟨g, 1, none⟩ (.int .i64 (p1 : Int))) (some g) from grown_set HW.out 1 _)
      have hfx : (w1.setCell ⟨g, 1, none⟩ (.int .i64 (p1 : Int))).cell? ⟨b, off + p, none⟩ = some (.int .u8 ((l.getD p 0).toNat : Int)) := by
        rw [World.cell?_of_block (w := w1) (Below.heap_setCell _ _ _ _ (by dsimp only; omega))]
        exact HR1.out.byt p hpn
      have HFX := Lib.hid hfx
      clear hs hfx
      go_upto_region 4 with fail
      clear f0 f1 z1 dm
      (try simp only [hw1])
      generalize w1.setCell ⟨g, 1, none⟩ (.int .i64 (p1 : Int)) = w2 at HS HW2 HFX ⊢
      clear hw1
      have f0 := HS.out.cell 0
      have f1 := HS.out.cell 1
      rw [show (codesC (some ⟨b, off, none⟩) n c p1)[0]? = some (.slice (some ⟨b, off, none⟩) n c) from rfl] at f0
      rw [show (codesC (some ⟨b, off, none⟩) n c p1)[1]? = some (.int .i64 (p1 : Int)) from rfl] at f1
      have fx := HFX.out
      generalize l.getD p 0 = x at fx HV
      have hw2 : IntKind.i64.wrap ((p1 : Int) - 1) = (p : Int) := by rw [IntWalk.i64_in _ (by omega)]; omega
      have hw3 : (p1 : Int) - 1 = (p : Int) := by omega
      have hw4 : IntKind.i64.wrap (p : Int) = (p : Int) := IntWalk.i64_in _ (by omega)
      have hx256 := x.toNat_lt
      have hw5 : IntKind.i64.wrap (x.toNat : Int) = (x.toNat : Int) := IntWalk.i64_in _ (by omega)
      have bp : (p : Int) < (n : Int) := by omega
      have hmz : ((m : Int) == 0) = false := by rw [beq_eq_false_iff_ne]; omega
      have hmz' : ¬ (m : Int) = 0 := by omega
      obtain ⟨r, hr⟩ : ∃ r, x.toNat % m = r := ⟨_, rfl⟩
      have hmod : (x.toNat : Int).tmod (m : Int) = (r : Int) := by rw [← hr, Int.tmod_eq_emod_of_nonneg (by omega), Int.natCast_emod]
      have hmod2 : (x.toNat : Int) % (m : Int) = (r : Int) := by rw [← hr, Int.natCast_emod]
      rw [hr, hp1] at HV
      have hwr : IntKind.i64.wrap (r : Int) = (r : Int) := IntWalk.i64_in _ (by rw [← hr]; have := Nat.mod_le x.toNat m; omega)
      clear hr
      go_region
      go_wp2
      go_ret
      exact ⟨by rw [HV.out.1]; rfl, by rw [HV.out.2]; exact HS.out.drew, grownD HW2.out⟩
    · have HV := Lib.hid (show nextV l p m = 0 ∧ nextP l p m = p from ⟨if_neg (by omega), if_neg (by omega)⟩)
      go_enter Try.func16, Try.ntmps16
      go_upto_region 1 with fail
      go_wp2_with fail
      refine HLC.out.mono ?_
      rintro e w1 ⟨rfl, hb⟩
      rw [decide_eq_true hpn]
      have HG1 := Lib.hid (HG.out.below hb HG.out.lt)
      have HW := Lib.hid (grownB (grown_refl w (some g)) hb)
      clear hb HLC
      have dm : decide ((m : Int) < 1) = true := by simp; omega
      go_wp2
      go_ret
      exact ⟨by rw [HV.out.1]; rfl, by rw [HV.out.2]; exact HG1.out, HW.out⟩
  · have HV := Lib.hid (show nextV l p m = 0 ∧ nextP l p m = p from ⟨if_neg (by omega), if_neg (by omega)⟩)
    go_enter Try.func16, Try.ntmps16
    go_upto_region 1 with fail
    go_wp2_with fail
    refine HLC.out.mono ?_
    rintro e w1 ⟨rfl, hb⟩
    rw [decide_eq_false hpn]
    have HG1 := Lib.hid (HG.out.below hb HG.out.lt)
    have HW := Lib.hid (grownB (grown_refl w (some g)) hb)
    clear hb HLC
    go_wp2
    go_ret
    exact ⟨by rw [HV.out.1]; rfl, by rw [HV.out.2]; exact HG1.out, HW.out⟩
end Go.Proofs.Ytpahfckihcbajaa
namespace Go.Proofs.Ytpahfckihcbajaa
open Go.RowKit

theorem Rd.kept {w w' : World} {B g n : Nat} {A : Option Addr} {l : List UInt8} (h : Rd w B A n l) (hB : B ≤ g) (hg : g < w.heap.size) (hb : w.grownBy w' (some g)) : Rd w' B A n l :=
  h.keep fun q hq => World.cell?_of_block (hb.block q.block (by omega) (fun e => by injection e with e; omega))
theorem Rd.below2 {w w' : World} {B n : Nat} {A : Option Addr} {l : List UInt8} (h : Rd w B A n l) (hB : B ≤ w.heap.size) (hb : Below w.heap.size w w') : Rd w' B A n l := h.below (hb.mono hB)
end Go.Proofs.Ytpahfckihcbajaa
namespace Go.Proofs.Ytpahfckihcbajaa
open Go.RowKit

/-- the choices at a world: p of them taken -/
structure CodesAt (W : World) (g : Nat) (A : Option Addr) (n c : Nat) (l : List UInt8) (B : Nat) (p : Nat) : Prop where
  blk : Blk W g 53 (codesC A n c p)
  rd : Rd W B A n l
  le : B ≤ g
  lt : g < W.heap.size
  small : n ≤ 100000
  pos : p ≤ n
section
variable {W W' : World} {g : Nat} {A : Option Addr} {n c : Nat} {l : List UInt8} {B p : Nat}
theorem CodesAt.below (h : CodesAt W g A n c l B p) (hb : Below W.heap.size W W') : CodesAt W' g A n c l B p :=
  ⟨h.blk.below hb h.lt, h.rd.below2 (by have := h.le; have := h.lt; omega) hb, h.le, Nat.lt_of_lt_of_le h.lt hb.size, h.small, h.pos⟩
theorem CodesAt.put (h : CodesAt W g A n c l B p) {b : Nat} (hg : W.grownBy W' (some b)) (hb : g < b) : CodesAt W' g A n c l B p :=
  ⟨h.blk.grown hg (fun e => by injection e with e; omega), h.rd.keep (fun q hq => World.cell?_of_block (hg.block q.block (by have := h.le; have := h.lt; omega) (fun e => by injection e with e; have := h.le; omega))), h.le, Nat.lt_of_lt_of_le h.lt hg.size, h.small, h.pos⟩
theorem CodesAt.next (h : CodesAt W g A n c l B p) {q : Nat} (hq : q ≤ n) (hb : Blk W' g 53 (codesC A n c q)) (hg : W.grownBy W' (some g)) : CodesAt W' g A n c l B q :=
  ⟨hb, h.rd.kept h.le h.lt hg, h.le, Nat.lt_of_lt_of_le h.lt hg.size, h.small, hq⟩
theorem CodesAt.nextLe (h : CodesAt W g A n c l B p) (m : Nat) : nextP l p m ≤ n := by have := nextP_le l p m (by rw [h.rd.1]; exact h.pos); rw [h.rd.1] at this; exact this
theorem CodesAt.callNext (h : CodesAt W g A n c l B p) (m : Nat) (hm : m ≤ 1000000) :
    Calls Try.prog 16 #[.pointer (some ⟨g, 0, none⟩), .int .i64 (m : Int)] W fun e w' => e = .returned (.int .i64 (nextV l p m : Int)) ∧ CodesAt w' g A n c l B (nextP l p m) ∧ W.grownBy w' (some g) :=
  (caseNext_any g A n c l p h.small h.pos m hm B h.le W h.blk h.rd).mono fun _ _ k => ⟨k.1, h.next (h.nextLe m) k.2.1 k.2.2, k.2.2⟩
end
end Go.Proofs.Ytpahfckihcbajaa
