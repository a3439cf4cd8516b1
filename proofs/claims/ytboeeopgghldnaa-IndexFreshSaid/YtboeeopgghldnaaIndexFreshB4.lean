/-
  The contract of slices.Clone at a slice of structs. The contract of slices.IndexFunc at a slice of structs. The contract of slices.DeleteFunc at a slice of structs of the call's own. The contract of slices.DeleteFunc at a slice of structs of the call's own, for a predicate that looks at what was made behind the slice. What is asked of Drop holds of the landed one. What is asked of Find holds of the landed one. The capacity of a row. The contract of the reference's Promote. What is asked of Promote holds of the landed one. What is asked of Valid holds of the landed one. IndexFresh returns true for every input, by what the landed functions give. No statement is proved here.
-/
import Derived.Laws.Cover3
import Derived.RegionTactic
import Derived.Deep.DeepCutAuto
import Derived.Test.YtboeeopgghldnaaIndexFreshB3
namespace Go.Proofs.Ytboeeopgghldnaa
open Go.RowKit

theorem sl_eql_nil (A : Option Addr) (n c : Nat) (w : World) : (binOp .eql 23 (.slice A n c) (.slice none 0 0)).run Try.prog w = .ok (.bool A.isNone) w := by
  have h := run_equal_slice_nil (P := Try.prog) w 23 34 A n c Try.underlying23
  simp [binOp, h, Result.andThen]
set_option maxRecDepth 100000 in
set_option maxHeartbeats 16000000 in
theorem slClone_any (A : Option Addr) (n c : Nat) (os : List (List Value)) (hn : n ≤ 1000) (h1 : ∀ o ∈ os, ∀ v ∈ o, v.oneCell' = true) (w : World) (hr : RdRow w w.heap.size A 34 n os) :
    Calls Try.prog 28 #[.slice A n c] w fun e w' => ∃ A' c', e = .returned (.slice A' n c') ∧ w'.ownsRow w.heap.size 34 34 (.slice A' n c') n os.flatten ∧ Below w.heap.size w w' := by
  have HR := Lib.hid hr
  have H1 := Lib.hid (one_flat h1)
  obtain ⟨ik, hik, hiz, his, hib⟩ := slotInfo
  have HKI := Lib.hid (And.intro hik (And.intro hiz (And.intro his hib)))
  clear hik hiz his hib
  clear h1
  cases A with
  | none =>
    have hn0 : n = 0 := by
      rcases Nat.eq_zero_or_pos n with h | h
      · exact h
      · obtain ⟨b, off, e⟩ := hr.addr h
        cases e
    subst hn0
    clear hr
    have hen := sl_eql_nil none 0 c
    simp only [Option.isNone_none] at hen
    go_enter Try.func28, Try.ntmps28
    go_wp2
    go_ret
    have hl0 : os = [] := List.eq_nil_of_length_eq_zero HR.out.1
    subst hl0
    exact ⟨none, 0, rfl, World.ownsRow_nil _ _ _ _, Below.refl _ _⟩
  | some ad =>
    have HB := Lib.hid (show Mem w [blkE w.heap.size 34 []] (w.alloc (.cells #[] 34)) from (Mem.nil w).alloc rfl 34 #[] [] rfl)
    have hown0 := World.ownsRow_lit (base := w.heap.size) (e := 34) (size := 34) w #[] 0 (Nat.le_refl _) (by simp) rfl
    have HO := Lib.hid hown0
    clear hr hown0
    have hen := sl_eql_nil (some ad) n c
    simp only [Option.isNone_some] at hen
    go_enter Try.func28, Try.ntmps28
    go_wp2_with (refine wpList_append_rows _ rfl (.tmp 5) (.tmp 6) 23 rfl w.heap.size 34 ik _ 34 40 Try.underlying23 HKI.out.1 HKI.out.2.1 HKI.out.2.2.1 HKI.out.2.2.2 (by rfl) (by omega) (.slice (some ⟨w.heap.size, 0, none⟩) 0 0) 0 [] rfl HO.out _ (some ad) n c os rfl ((HR.out.below HB.out.bel).mono HB.out.size) H1.out (by unfold maxLen; omega) (by omega) HB.out.size ?_; intro v1 w3 hown1 hg1 _)
    rw [Nat.zero_add, List.nil_append] at hown1
    obtain ⟨A5, c5, rfl, _⟩ := own_sliceK hown1
    have HF := Lib.hid (HB.out.bel.grown hg1 HB.out.bel.size (fun k hk => own_from HO.out k hk))
    go_ret
    exact ⟨A5, c5, rfl, hown1, HF.out⟩
end Go.Proofs.Ytboeeopgghldnaa
namespace Go.Proofs.Ytboeeopgghldnaa
open Go.RowKit

set_option maxRecDepth 100000 in
set_option maxHeartbeats 16000000 in
theorem slIdx_any (A : Option Addr) (n c : Nat) (os : List (List Value)) (hn : n ≤ 1000000) (F : Nat) (lb : Array Value) (hE : ∀ (args : Array Value) (W : World), (callFunc F args).run Try.prog W = .ok (.enter F args) W) (p : List Value → Bool) (B : Nat) (w : World) (hB : B ≤ w.heap.size) (hr : RdRow w w.heap.size A 34 n os) (hf : PredB Try.prog F lb p B w os) :
    Calls Try.prog 32 #[.slice A n c, .func (.func F) #[] lb] w fun e w' => e = .returned (.int .i64 (idxM p os)) ∧ Below w.heap.size w w' := by
  have HR := Lib.hid hr
  have HF := Lib.hid hf
  have HB := Lib.hid hB
  clear hr hf hB
  go_enter Try.func32, Try.ntmps32
  go_wp2_with fail
  go_loopw [8] (fun i wr => ∃ j : Nat, j ≤ n ∧ i = .int .i64 (j : Int) ∧ Below w.heap.size w wr ∧ ∀ (q : Nat) x, q < j → os[q]? = some x → p x = false) (fun i _ => n - (intOf i).toNat)
  case atStart => exact ⟨0, Nat.zero_le _, rfl, Below.refl _ _, fun q _ h => absurd h (Nat.not_lt_zero _)⟩
  case round =>
    obtain ⟨j, hj, rfl, hW, hno⟩ := hrel
    have HW := Lib.hid hW
    have HNO := Lib.hid hno
    clear hW hno
    by_cases hjn : j < n
    · have d1 : decide ((j : Int) < (n : Int)) = true := by simp; omega
      obtain ⟨b, off, rfl⟩ := HR.out.addr (by omega)
      obtain ⟨o, ho⟩ : ∃ o, os[j]? = some o := ⟨os[j]'(by rw [HR.out.1]; exact hjn), List.getElem?_eq_getElem _⟩
      have hat := HR.out.at j o ho
      have HLA := Lib.hid (show At wr b (off + j * 34) o from fun q v hv => (World.cell?_of_block (HW.out.block b hat.1)).trans (hat.2 q v hv))
      have HU := Lib.hid (sl_size o (HR.out.2.1 o (List.mem_of_getElem? ho)))
      have hcall := HF.out o (List.mem_of_getElem? ho) wr (HW.out.mono HB.out)
      obtain ⟨oc, hoc⟩ : ∃ z, o.toArray = z := ⟨_, rfl⟩
      rw [hoc] at hcall
      obtain ⟨y, hy⟩ : ∃ y, p o = y := ⟨_, rfl⟩
      rw [hy] at hcall
      have HOC := Lib.hid hoc
      have HC := Lib.hid hcall
      have HJO := Lib.hid (And.intro ho hy)
      clear hat ho hcall hoc hy
      go_wp2_with (first | (refine wpList_load_obj rfl 34 (.tmp 14) rfl b _ rfl o HLA.out _ Try.underlying34 rfl HU.out ?_; rw [HOC.out]))
      refine HC.out.mono ?_
      rintro e w2 ⟨rfl, hb⟩
      have HW2 := Lib.hid (HW.out.trans (hb.mono HW.out.size))
      clear hb HW HC HLA
      cases y with
      | true =>
        go_wp2
        go_ret
        exact ⟨by rw [idxM_some HJO.out.1 HJO.out.2 HNO.out]; rfl, HW2.out⟩
      | false =>
        go_wp2_with fail
        go_roundw
        case rel => exact ⟨j + 1, by omega, by go_num, HW2.out, fun q x hq hx => by
          rcases Nat.lt_or_ge q j with h | h
          · exact HNO.out q x h hx
          · obtain rfl : q = j := by omega
            have e := HJO.out.1.symm.trans hx
            injection e with e
            rw [← e]
            exact HJO.out.2⟩
        case measure => simp [intOf]; omega
    · obtain rfl : j = n := by omega
      have d1 : decide ((j : Int) < (j : Int)) = false := by simp
      have HF2 := Lib.hid HW.out
      have HX := Lib.hid (idxM_none (all_false HR.out.1 HNO.out))
      clear HW HNO
      go_wp2
      go_ret
      exact ⟨by rw [HX.out]; rfl, HF2.out⟩
end Go.Proofs.Ytboeeopgghldnaa
namespace Go.Proofs.Ytboeeopgghldnaa
open Go.RowKit

theorem sl_kept_snoc (p : List Value → Bool) (l : List (List Value)) (o : List Value) : (l ++ [o]).filter (fun x => !p x) = l.filter (fun x => !p x) ++ (if p o = true then [] else [o]) := by
  rw [List.filter_append]
  cases h : p o <;> simp [h]
theorem sl_kept_all {p : List Value → Bool} {l : List (List Value)} (h : ∀ o ∈ l, p o = false) : l.filter (fun x => !p x) = l := by
  rw [List.filter_eq_self]
  intro o ho
  rw [h o ho]
  rfl
end Go.Proofs.Ytboeeopgghldnaa
namespace Go.Proofs.Ytboeeopgghldnaa
open Go.RowKit

/-- what is asked of a predicate that is handed on, in every world for which R holds -/
def PredR (P : Program) (F : Nat) (lb : Array Value) (p : List Value → Bool) (R : World → Prop) (os : List (List Value)) : Prop :=
  ∀ o ∈ os, ∀ W, R W → Calls P F (#[.agg o.toArray] ++ lb) W fun e W' => e = .returned (.bool (p o)) ∧ Below W.heap.size W W'
set_option maxRecDepth 100000 in
set_option maxHeartbeats 16000000 in
theorem slDelR_any (A : Option Addr) (n c : Nat) (os : List (List Value)) (hn : n ≤ 1000) (hl : os.length = n) (hk : ∀ o ∈ os, o.length = 34) (h1 : ∀ o ∈ os, ∀ v ∈ o, v.oneCell' = true) (F : Nat) (lb : Array Value) (hE : ∀ (args : Array Value) (W : World), (callFunc F args).run Try.prog W = .ok (.enter F args) W) (p : List Value → Bool) (R : World → Prop) (base : Nat) (w : World) (hw : R w) (hkp : ∀ W W', R W → Below W.heap.size W W' → R W') (hrw : ∀ (g : Nat) (W W' : World), A = some ⟨g, 0, none⟩ → R W → g < W.heap.size → W.grownBy W' (some g) → R W') (hbs : base ≤ w.heap.size) (hown : w.ownsRow base 34 34 (.slice A n c) n os.flatten) (hf : PredR Try.prog F lb p R os) :
    Calls Try.prog 27 #[.slice A n c, .func (.func F) #[] lb] w fun e w' => ∃ A' c' m, m = (os.filter fun o => !p o).length ∧ e = .returned (.slice A' m c') ∧ RdRow w' w'.heap.size A' 34 m (os.filter fun o => !p o) ∧ (m ≤ c' ∧ c' ≤ maxLen) ∧ (∀ ad, A' = some ad → base ≤ ad.block) ∧ Below base w w' := by
  have hr := RdRow.of_own hl hk hown
  have hidx := slIdx_any A n c os (by omega) F lb hE p w.heap.size w (Nat.le_refl _) hr (fun o ho W hW => hf o ho W (hkp _ _ hw hW))
  obtain ⟨A5, c5, hv5, hc1, hc2, hlo⟩ := own_sliceK hown
  injection hv5 with hA5 _ hc5
  subst hA5 hc5
  rcases idxM_cases p os with hno | ⟨i0, o0, ho0, hp0, hn0⟩
  · rw [idxM_none hno] at hidx
    have HI := Lib.hid hidx
    have HF := Lib.hid (And.intro hr (And.intro (And.intro hc1 hc2) hlo))
    have HX := Lib.hid (sl_kept_all hno)
    have HL := Lib.hid hl
    have HBS := Lib.hid hbs
    clear hidx hr hc1 hc2 hlo hown hf hno hbs hw hkp hrw
    go_enter Try.func27, Try.ntmps27
    go_wp2_with fail
    refine HI.out.mono ?_
    rintro e w2 ⟨rfl, hb⟩
    have HW := Lib.hid hb
    clear hb
    go_wp2
    go_ret
    exact ⟨A, c, n, by rw [HX.out]; exact HL.out.symm, rfl, by rw [HX.out]; exact (HF.out.1.below HW.out).mono HW.out.size, HF.out.2.1, HF.out.2.2, HW.out.mono HBS.out⟩
  · rw [idxM_some ho0 hp0 hn0] at hidx
    have hi0 : i0 < n := by rw [← hl]; exact (List.getElem?_eq_some_iff.1 ho0).1
    rcases hown.2 with ⟨_, h0⟩ | ⟨g, cap, cur, hv, hbg, hg, hnc, hcm, hs, hcr⟩
    · omega
    injection hv with hA _ hcc
    subst hA hcc
    have hblk : Blk w g 34 (os.flatten ++ cur.toList.drop (n * 34)) := by
      unfold Blk
      rw [← hcr, List.take_append_drop, Array.toArray_toList]
      exact hg
    obtain ⟨rest, hrest⟩ : ∃ z, cur.toList.drop (n * 34) = z := ⟨_, rfl⟩
    rw [hrest] at hblk
    have hkeep : (os.take (i0 + 1)).filter (fun x => !p x) = os.take i0 := by
      rw [List.take_add_one, ho0, Option.toList_some, sl_kept_snoc, if_pos hp0, List.append_nil]
      exact sl_kept_all (fun o ho => by
        obtain ⟨q, hq, rfl⟩ := List.getElem_of_mem ho
        rw [List.length_take] at hq
        exact hn0 q _ (by omega) (by rw [List.getElem_take]; exact List.getElem?_eq_getElem (by omega)))
    have HI := Lib.hid hidx
    have HKEEP := Lib.hid hkeep
    have HBLK := Lib.hid hblk
    have HBG := Lib.hid (show base ≤ g from hbg)
    have HC := Lib.hid (And.intro hnc hcm)
    have HK := Lib.hid hk
    have H1 := Lib.hid h1
    have HL := Lib.hid hl
    have HF := Lib.hid hf
    have HKP := Lib.hid hkp
    have HRW := Lib.hid (fun W W' => hrw g W W' rfl)
    have HR0 := Lib.hid hw
    have d0 : ((i0 : Int) == -1) = false := by rw [beq_eq_false_iff_ne]; omega
    clear hidx hr hc1 hc2 hlo hown hf hkeep hblk hbg hg hs hcr hrest hk h1 hl hnc hcm hn0 hp0 ho0 hbs hw hkp hrw
    go_enter Try.func27, Try.ntmps27
    go_wp2_with fail
    refine HI.out.mono ?_
    rintro e w2 ⟨rfl, hb⟩
    have HW := Lib.hid (And.intro (hb.mono (Nat.le_of_lt HBLK.out.lt)) (show Blk w2 g 34 (os.flatten ++ rest) from HBLK.out.below hb HBLK.out.lt))
    have HR2 := Lib.hid (HKP.out _ _ HR0.out hb)
    clear hb HI HR0
    go_wp2_with fail
    go_loopw [6, 5] (fun vj vi wr => ∃ (j m : Nat) (cs : List (List Value)), i0 < j ∧ j ≤ n ∧ vj = .int .i64 (j : Int) ∧ vi = .int .i64 (m : Int) ∧ m < j ∧ cs.length = n ∧ (∀ o ∈ cs, o.length = 34) ∧ cs.take m = (os.take j).filter (fun x => !p x) ∧ cs.drop j = os.drop j ∧ Blk wr g 34 (cs.flatten ++ rest) ∧ Below g w wr ∧ R wr) (fun vj _ _ => n - (intOf vj).toNat)
    case atStart => exact ⟨i0 + 1, i0, os, by omega, by omega, by go_num, rfl, by omega, HL.out, HK.out, HKEEP.out.symm, rfl, HW.out.2, HW.out.1, HR2.out⟩
    case round =>
      clear HW d0 HBLK HR2
      obtain ⟨j, m, cs, hij, hj, rfl, rfl, hmj, hcl, hck, htk, hdr, hbk, hbl, hRr⟩ := hrel
      have HRR := Lib.hid hRr
      have HO := Lib.hid (And.intro hcl (And.intro hck (And.intro htk (And.intro hdr (And.intro hbk hbl)))))
      clear hcl hck htk hdr hbk hbl hRr
      by_cases hjn : j < n
      · have d1 : decide ((j : Int) < (n : Int)) = true := by simp; omega
        obtain ⟨o, ho⟩ : ∃ o, os[j]? = some o := ⟨os[j]'(by rw [HL.out]; exact hjn), List.getElem?_eq_getElem _⟩
        have hoc : cs[j]? = some o := by
          have h := congrArg (fun l => l[0]?) HO.out.2.2.2.1
          simp only [List.getElem?_drop, Nat.add_zero] at h
          rw [h]
          exact ho
        have HKO := Lib.hid (HK.out o (List.mem_of_getElem? ho))
        have H1O := Lib.hid (H1.out o (List.mem_of_getElem? ho))
        have HLA := Lib.hid (blk_at HO.out.2.2.2.2.1 HO.out.2.1 hoc)
        have HU := Lib.hid (sl_size o HKO.out)
        have HSN := Lib.hid (show (os.take (j + 1)).filter (fun x => !p x) = (os.take j).filter (fun x => !p x) ++ (if p o = true then [] else [o]) from by rw [List.take_add_one, ho, Option.toList_some, sl_kept_snoc])
        have HML := Lib.hid (show m ≤ cs.length from by rw [HO.out.1]; omega)
        have hcall := HF.out o (List.mem_of_getElem? ho)
        obtain ⟨oc, hocc⟩ : ∃ z, o.toArray = z := ⟨_, rfl⟩
        rw [hocc] at hcall
        obtain ⟨y, hy⟩ : ∃ y, p o = y := ⟨_, rfl⟩
        rw [hy] at hcall HSN
        have HOC := Lib.hid hocc
        have HCL := Lib.hid hcall
        clear hocc hcall hy ho hoc
        have HZ := Lib.hid (Blk.new wr 34 slotZ)
        go_upto_region 8 with (first | (refine wpList_load_obj rfl 34 (.tmp 24) rfl g _ rfl o HLA.out _ Try.underlying34 rfl HU.out ?_; rw [HOC.out]) | (refine wpList_store_obj rfl 34 (.tmp 7) (.tmp 25) rfl wr.heap.size 0 o rfl (by show Value.agg oc = _; rw [HOC.out]) 34 slotZ HZ.out HU.out (by rw [HKO.out]; decide) H1O.out ?_; intro w4 hb4 hg4))
        rw [setL_all _ o (by rw [HKO.out]; decide)] at hb4
        have HBF := Lib.hid (below_fresh hg4)
        have HP := Lib.hid hb4
        have HR4 := Lib.hid (HKP.out _ _ HRR.out HBF.out)
        have HO4 := Lib.hid (show Blk w4 g 34 (cs.flatten ++ rest) ∧ Below g w w4 from ⟨HO.out.2.2.2.2.1.below HBF.out HO.out.2.2.2.2.1.lt, HO.out.2.2.2.2.2.trans (HBF.out.mono (Nat.le_of_lt HO.out.2.2.2.2.1.lt))⟩)
        have HCC := Lib.hid (And.intro HO.out.1 (And.intro HO.out.2.1 (And.intro HO.out.2.2.1 HO.out.2.2.2.1)))
        clear hb4 hg4 HO HBF HZ d1 HLA HRR
        generalize wr.heap.size = P1 at HP ⊢
        go_wp2_with (refine wpList_load_obj rfl 34 (.tmp 7) rfl P1 0 rfl o HP.out.all _ Try.underlying34 rfl HU.out ?_; rw [HOC.out])
        refine (HCL.out _ HR4.out).mono ?_
        rintro e w5 ⟨rfl, hb⟩
        have HR5 := Lib.hid (HKP.out _ _ HR4.out hb)
        have HP5 := Lib.hid (show Blk w5 P1 34 o from HP.out.below hb HP.out.lt)
        have HO5 := Lib.hid (show Blk w5 g 34 (cs.flatten ++ rest) ∧ Below g w w5 from ⟨HO4.out.1.below hb HO4.out.1.lt, HO4.out.2.trans (hb.mono (Nat.le_of_lt HO4.out.1.lt))⟩)
        clear hb HP HO4 HR4
        cases y with
        | true =>
          go_wp2_with fail
          go_roundw
          case rel => exact ⟨j + 1, m, cs, by omega, by omega, by go_num, rfl, by omega, HCC.out.1, HCC.out.2.1, by rw [HSN.out]; simpa using HCC.out.2.2.1, by rw [← List.drop_drop, HCC.out.2.2.2, List.drop_drop], HO5.out.1, HO5.out.2, HR5.out⟩
          case measure => simp [intOf]; omega
        | false =>
          have hmn : m < n := by omega
          have e1 : decide ((m : Int) < (n : Int)) = true := by simp; omega
          go_wp2_with (first | (refine wpList_load_obj rfl 34 (.tmp 7) rfl P1 0 rfl o HP5.out.all _ Try.underlying34 rfl HU.out ?_; rw [HOC.out]) | (refine wpList_store_obj rfl 34 (.tmp 33) (.tmp 32) rfl g (m * 34) o rfl (by show Value.agg oc = _; rw [HOC.out]) 34 (cs.flatten ++ rest) HO5.out.1 HU.out (by rw [HKO.out, List.length_append, flat_length HCC.out.2.1, HCC.out.1]; have := Nat.mul_le_mul_right 34 (show m + 1 ≤ n from hmn); rw [Nat.succ_mul] at this; omega) H1O.out ?_; intro w6 hb6 hg6))
          rw [flat_set HCC.out.2.1 HKO.out (by rw [HCC.out.1]; exact hmn)] at hb6
          go_roundw
          case rel => exact ⟨j + 1, m + 1, cs.set m o, by omega, by omega, by go_num, by go_num, by omega, by rw [List.length_set]; exact HCC.out.1, set_mem HCC.out.2.1 HKO.out, by rw [HSN.out, ← HCC.out.2.2.1, List.take_add_one, List.take_set_of_le (Nat.le_refl _), List.getElem?_set_self (by rw [HCC.out.1]; exact hmn)]; rfl, by rw [List.drop_set_of_lt (by omega), ← List.drop_drop, HCC.out.2.2.2, List.drop_drop], hb6, HO5.out.2.grown hg6 (Nat.le_of_lt HO5.out.1.lt) (fun k hk => by injection hk with hk; omega), HRW.out _ _ HR5.out HO5.out.1.lt hg6⟩
          case measure => simp [intOf]; omega
      · obtain rfl : n = j := by omega
        have d1 : decide ((n : Int) < (n : Int)) = false := by simp
        have htk : cs.take m = os.filter (fun x => !p x) := by rw [HO.out.2.2.1, List.take_of_length_le (by rw [HL.out]; exact Nat.le_refl _)]
        have hml : (os.filter fun x => !p x).length = m := by rw [← htk, List.length_take, HO.out.1]; omega
        have hmk := Nat.mul_le_mul_right 34 (Nat.le_of_lt hmj)
        have hlen : (cs.flatten ++ rest).length = n * 34 + rest.length := by rw [List.length_append, flat_length HO.out.2.1, HO.out.1]
        have hzl : (Value.agg slotZ.toArray).cells.size = 34 := rfl
        obtain ⟨z, hz⟩ : ∃ z, n - m = z := ⟨_, rfl⟩
        have hzk : z * 34 = n * 34 - m * 34 := by rw [← hz, Nat.sub_mul]
        have HFIT := Lib.hid (show m * 34 + z * (Value.agg slotZ.toArray).cells.size ≤ (cs.flatten ++ rest).length from by rw [hzl, hlen, hzk]; omega)
        have HZP := Lib.hid (show 0 < z from by omega)
        have HTK := Lib.hid (And.intro htk hml)
        have HSL := Lib.hid (show ∀ Z, setL (cs.flatten ++ rest) (m * 34) Z = (cs.take m).flatten ++ (Z ++ (cs.flatten ++ rest).drop (m * 34 + Z.length)) from fun Z => by
          rw [setL, List.take_append_of_le_length (by rw [flat_length HO.out.2.1, HO.out.1]; omega), ← flat_take m HO.out.2.1, List.append_assoc])
        have hsl := sl_l (some ⟨g, 0, none⟩) n c m (by omega)
        rw [addrK_some (show m < c by have := HC.out; omega), Nat.zero_add, hz] at hsl
        have hsh := sl_h (some ⟨g, 0, none⟩) (n := n) c m (by omega) HC.out.1
        rw [addrK_zero_some] at hsh
        have HGB := Lib.hid HO.out.2.2.2.2
        have HCK := Lib.hid (fun o (h : o ∈ cs.take m) => HO.out.2.1 o (List.mem_of_mem_take h))
        obtain ⟨blkc, hbc⟩ : ∃ z, cs.flatten ++ rest = z := ⟨_, rfl⟩
        rw [hbc] at HGB HFIT HSL
        have hmc := HC.out
        clear HO htk hml hmk hlen hzk hzl hbc hz
        obtain ⟨cm, hcm⟩ : ∃ x, c - m = x := ⟨_, rfl⟩
        rw [hcm] at hsl
        clear hcm
        go_wp2_with (refine wpList_clear_objs _ rfl (.tmp 38) 23 34 rfl Try.underlying23 (.agg slotZ.toArray) sl_zero (by decide) g (m * 34) z cm rfl 34 blkc HGB.out.1 HFIT.out HZP.out ?_; intro w7 hb7 hg7)
        go_ret
        rw [HSL.out] at hb7
        refine ⟨some ⟨g, 0, none⟩, c, m, HTK.out.2.symm, rfl, ?_, ⟨by omega, hmc.2⟩, fun ad h => by injection h with h; subst h; exact HBG.out, (HGB.out.2.grown hg7 (Nat.le_of_lt HGB.out.1.lt) (fun k hk => by injection hk with hk; omega)).mono HBG.out⟩
        have h := blk_row hb7 HCK.out rfl
        rw [HTK.out.1, HTK.out.2] at h
        exact h
end Go.Proofs.Ytboeeopgghldnaa
namespace Go.Proofs.Ytboeeopgghldnaa
open Go.RowKit

theorem sls_dropM {l : List SlotM} (i : Nat) : (slsV l).filter (fun o => !idxP i o) = slsV (dropM l i) := by
  rw [slsV, slsV, dropM, List.filter_map]
  congr 1
  exact List.filter_congr fun s _ => by rw [Function.comp_apply, idxP_is]
theorem dropM_good {l : List SlotM} (h : ∀ s ∈ l, s.ok) (i : Nat) : ∀ s ∈ dropM l i, s.ok := fun s hs => h s (List.mem_filter.1 hs).1
set_option maxRecDepth 100000 in
set_option maxHeartbeats 8000000 in
theorem ixDropC : IxDropC 12 := by
  intro A n c l i w hi harg
  obtain ⟨hn, hnc, hcm, hr⟩ := harg
  have HO := Lib.hid hr.2
  have HLN := Lib.hid hr.len
  have HCL := Lib.hid (slClone_any A n c (slsV l) (by omega) (sls_one l) w hr.1)
  clear hr
  go_enter Try.func12, Try.ntmps12
  go_wp2_with fail
  refine HCL.out.mono ?_
  rintro e w1 ⟨A2, c2, rfl, hown, hb⟩
  have HW := Lib.hid (And.intro hown hb)
  clear hown hb HCL
  go_wp2_with fail
  refine (named_any i w1).mono ?_
  rintro e w2 ⟨rfl, hb1, hb⟩
  have hown2 : w2.ownsRow w.heap.size 34 34 (.slice A2 n c2) n (slsV l).flatten := own_below HW.out.1 hb
  have HB2 := Lib.hid (HW.out.2.trans (hb.mono HW.out.2.size))
  have hlt : ∀ g : Nat, A2 = some ⟨g, 0, none⟩ → g < w1.heap.size := fun g hA => (HW.out.1.lt g (by rw [hA]; rfl)).2
  have HD := Lib.hid (slDelR_any A2 n c2 (slsV l) (by omega) (by rw [sls_len, HLN.out]) (sls_34 HO.out) (sls_one l) 31 #[.pointer (some ⟨w1.heap.size, 0, none⟩)] (enters_of Try.func31 (by kernel_rfl) rfl) (idxP i) (fun W => Blk W w1.heap.size 24 [.int .u32 (i : Int)]) w.heap.size w2 hb1 (fun W W' h hW => h.below hW h.lt) (fun g W W' hA h hg hgr => (hgr.block _ h.lt (fun e => by injection e with e; have := hlt g hA; omega)).trans h) HB2.out.size hown2 (by
    intro o ho W hW
    obtain ⟨s, _, rfl⟩ := sls_mem HO.out ho
    rw [idxP_is]
    exact namedPred_any i s _ W hW))
  clear hown2 hb1 hb HW hlt
  go_wp2_with fail
  refine HD.out.mono ?_
  rintro e w3 ⟨A3, c3, m, hm, rfl, hrd, hc3, -, hb⟩
  rw [sls_dropM] at hm hrd
  have HF := Lib.hid (And.intro hrd (And.intro hc3 (HB2.out.trans (hb.mono (Nat.le_refl _)))))
  rw [sls_len] at hm
  clear hrd hc3 hb HD
  go_wp2
  go_ret
  subst hm
  exact ⟨_, rfl, A3, c3, rfl, HF.out.2.1.1, HF.out.2.1.2, ⟨HF.out.1, dropM_good HO.out i⟩, HF.out.2.2⟩
end Go.Proofs.Ytboeeopgghldnaa
namespace Go.Proofs.Ytboeeopgghldnaa
open Go.RowKit

set_option maxRecDepth 100000 in
set_option maxHeartbeats 8000000 in
theorem ixFindC : IxFindC 9 := by
  intro A n c l i w hi harg
  have hn := harg.1
  have HA := Lib.hid harg.2.2.2
  have HM := Lib.hid (show Lows w [blkL w.heap.size 34 slotZ, slL A n l] (w.alloc (.cells #[.int .u32 0, .int .u8 0, .int .u8 0, .int .u8 0, .int .u8 0, .int .u8 0, .int .u8 0, .int .u8 0, .int .u8 0, .int .u8 0, .int .u8 0, .int .u8 0, .int .u8 0, .int .u8 0, .int .u8 0, .int .u8 0, .int .u8 0, .int .u8 0, .int .u8 0, .int .u8 0, .int .u8 0, .int .u8 0, .int .u8 0, .int .u8 0, .int .u8 0, .int .u8 0, .int .u8 0, .int .u8 0, .int .u8 0, .int .u8 0, .int .u8 0, .int .u8 0, .int .u8 0, .bool false] 34)) from ((Lows.nil w).cons (slL A n l) harg.2.2.2).alloc 34 #[.int .u32 0, .int .u8 0, .int .u8 0, .int .u8 0, .int .u8 0, .int .u8 0, .int .u8 0, .int .u8 0, .int .u8 0, .int .u8 0, .int .u8 0, .int .u8 0, .int .u8 0, .int .u8 0, .int .u8 0, .int .u8 0, .int .u8 0, .int .u8 0, .int .u8 0, .int .u8 0, .int .u8 0, .int .u8 0, .int .u8 0, .int .u8 0, .int .u8 0, .int .u8 0, .int .u8 0, .int .u8 0, .int .u8 0, .int .u8 0, .int .u8 0, .int .u8 0, .int .u8 0, .bool false] slotZ rfl)
  have HS0 := Lib.hid (show (Try.prog.info? 34).map (·.size) = some slotZ.length from by rw [slotZ_length]; kernel_rfl)
  have HLN := Lib.hid harg.2.2.2.len
  clear harg
  go_enter Try.func9, Try.ntmps9
  go_upto_region 1 with fail
  generalize w.alloc (.cells #[.int .u32 0, .int .u8 0, .int .u8 0, .int .u8 0, .int .u8 0, .int .u8 0, .int .u8 0, .int .u8 0, .int .u8 0, .int .u8 0, .int .u8 0, .int .u8 0, .int .u8 0, .int .u8 0, .int .u8 0, .int .u8 0, .int .u8 0, .int .u8 0, .int .u8 0, .int .u8 0, .int .u8 0, .int .u8 0, .int .u8 0, .int .u8 0, .int .u8 0, .int .u8 0, .int .u8 0, .int .u8 0, .int .u8 0, .int .u8 0, .int .u8 0, .int .u8 0, .int .u8 0, .bool false] 34) = w1 at HM ⊢
  go_wp2_with fail
  refine (named_any i w1).mono ?_
  rintro e w2 ⟨rfl, hb1, hb⟩
  replace HM := Lib.hid (show Lows w [blkL w1.heap.size 24 [.int .u32 (i : Int)], blkL w.heap.size 34 slotZ, slL A n l] w2 from (HM.out.below hb).cons (blkL w1.heap.size 24 [.int .u32 (i : Int)]) hb1)
  clear hb hb1
  generalize w1.heap.size = G1 at HM ⊢
  go_wp2_with fail
  refine (firstNamed_any A n c l hn i G1 w2 (HM.out.get (f := slL A n l) 2 rfl) (HM.out.blk 0 rfl).lt (HM.out.blk 0 rfl)).mono ?_
  rintro e w3 ⟨rfl, hb⟩
  replace HM := Lib.hid (HM.out.below hb)
  clear hb
  rcases firstI_cases l i with ⟨hf, hr⟩ | ⟨s, hf, hs, hr⟩
  · rw [HLN.out] at hf
    have HR := Lib.hid hr
    rw [hf]
    clear hf hr
    go_upto_region 3 with fail
    go_wp2_with (first | (refine wpList_build_as rfl 34 [] rfl #[.int .u32 0, .int .u8 0, .int .u8 0, .int .u8 0, .int .u8 0, .int .u8 0, .int .u8 0, .int .u8 0, .int .u8 0, .int .u8 0, .int .u8 0, .int .u8 0, .int .u8 0, .int .u8 0, .int .u8 0, .int .u8 0, .int .u8 0, .int .u8 0, .int .u8 0, .int .u8 0, .int .u8 0, .int .u8 0, .int .u8 0, .int .u8 0, .int .u8 0, .int .u8 0, .int .u8 0, .int .u8 0, .int .u8 0, .int .u8 0, .int .u8 0, .int .u8 0, .int .u8 0, .bool false] ?_ ?_; kernel_rfl) | (refine wpList_store_obj rfl 34 (.tmp 4) (.tmp 15) rfl w.heap.size 0 slotZ rfl (by rfl) 34 slotZ (HM.out.blk 1 rfl) HS0.out (by rw [slotZ_length]; omega) (slot_one slot0) ?_; intro w9 hb9 hg9))
    rw [setL_all slotZ slotZ rfl] at hb9
    exact bodyPost_ret (results_obj_tmp rfl _ _ w.heap.size 34 slotZ _ rfl hb9 Try.underlying34 rfl HS0.out) rfl ⟨by rw [HR.out]; rfl, HM.out.bel.grown hg9 HM.out.bel.size (by intro k hk; injection hk with hk; omega)⟩
  · rw [HLN.out] at hf
    have HR := Lib.hid hr
    obtain ⟨j, hj⟩ : ∃ z, firstI l i = z := ⟨_, rfl⟩
    rw [hj] at hf hs ⊢
    have d1 : ((j : Int) == (n : Int)) = false := by rw [beq_eq_false_iff_ne]; omega
    have hl := HM.out.get (f := slL A n l) 2 rfl
    obtain ⟨b, off, rfl⟩ := HA.out.1.addr (by omega)
    have HOK := Lib.hid (HA.out.ok hs)
    have HLA := Lib.hid (SlRd.at hl j s hs).2
    obtain ⟨sc, hsc⟩ : ∃ z, s.cells.toArray = z := ⟨_, rfl⟩
    have HSC := Lib.hid hsc
    clear hl hs hsc hr hj HA
    go_wp2_with (first | (refine wpList_load_obj rfl 34 (.tmp 18) rfl b _ rfl s.cells HLA.out _ Try.underlying34 rfl (slot_cellsOf s HOK.out) ?_; rw [HSC.out]) | (refine wpList_store_obj rfl 34 (.tmp 4) (.tmp 19) rfl w.heap.size 0 s.cells rfl (by show Value.agg sc = _; rw [HSC.out]) 34 slotZ (HM.out.blk 1 rfl) (slot_cellsOf s HOK.out) (by rw [SlotM.cells_length HOK.out, slotZ_length]; omega) (slot_one s) ?_; intro w9 hb9 hg9))
    rw [setL_all slotZ s.cells (by rw [SlotM.cells_length HOK.out, slotZ_length])] at hb9
    exact bodyPost_ret (results_obj_tmp rfl _ _ w.heap.size 34 s.cells _ rfl hb9 Try.underlying34 rfl (slot_cellsOf s HOK.out)) rfl ⟨by rw [HR.out]; rfl, HM.out.bel.grown hg9 HM.out.bel.size (by intro k hk; injection hk with hk; omega)⟩
end Go.Proofs.Ytboeeopgghldnaa
namespace Go.Proofs.Ytboeeopgghldnaa
open Go.RowKit

end Go.Proofs.Ytboeeopgghldnaa
namespace Go.Proofs.Ytboeeopgghldnaa
open Go.RowKit

theorem flat_cell {k : Nat} {rest : List Value} : ∀ {cs : List (List Value)}, (∀ o ∈ cs, o.length = k) → ∀ (j : Nat) (o : List Value), cs[j]? = some o → ∀ (i : Nat) (v : Value), i < k → (cs.flatten ++ rest).set (j * k + i) v = (cs.set j (o.set i v)).flatten ++ rest
  | [], _, j, o, hj, _, _, _ => by simp at hj
  | a :: r, h, 0, o, hj, i, v, hi => by
    simp only [List.getElem?_cons_zero, Option.some.injEq] at hj
    subst hj
    have ha := h a (List.mem_cons_self ..)
    rw [Nat.zero_mul, Nat.zero_add, List.set_cons_zero, List.flatten_cons, List.flatten_cons, List.append_assoc, List.append_assoc, List.set_append_left _ _ (by omega)]
  | a :: r, h, j + 1, o, hj, i, v, hi => by
    have ha := h a (List.mem_cons_self ..)
    have ih := flat_cell (rest := rest) (fun x hx => h x (List.mem_cons_of_mem _ hx)) j o (by simpa using hj) i v hi
    rw [List.set_cons_succ, List.flatten_cons, List.flatten_cons, List.append_assoc, List.append_assoc, ← ih, Nat.succ_mul, List.set_append_right _ _ (by omega), ha]
    congr 2
    omega
def promTo (l : List SlotM) (n j : Nat) : List SlotM := (l.take j).map (promS n) ++ l.drop j
theorem promTo_at {l : List SlotM} {n j : Nat} {s : SlotM} (h : l[j]? = some s) : (promTo l n j)[j]? = some s := by
  have hj := (List.getElem?_eq_some_iff.1 h).1
  rw [promTo, List.getElem?_append_right (by simp; omega)]
  simp only [List.length_map, List.length_take, List.getElem?_drop]
  rw [show min j l.length = j by omega, show j + (j - j) = j by omega]
  exact h
theorem promTo_next {l : List SlotM} {n j : Nat} {s : SlotM} (h : l[j]? = some s) : promTo l n (j + 1) = (promTo l n j).set j (promS n s) := by
  have hj := (List.getElem?_eq_some_iff.1 h).1
  rw [promTo, promTo, take_snoc h, List.map_append, List.append_assoc, List.set_append_right _ _ (by simp; omega)]
  congr 1
  simp only [List.length_map, List.length_take]
  rw [show j - min j l.length = 0 by omega, List.drop_eq_getElem_cons hj, List.set_cons_zero]
  rfl
theorem promS_ok {n : Nat} {s : SlotM} (h : s.ok) : (promS n s).ok := by
  unfold promS
  split
  · exact ⟨h.1, h.2⟩
  · exact h
theorem promTo_ok {l : List SlotM} (h : ∀ s ∈ l, s.ok) (n j : Nat) : ∀ s ∈ promTo l n j, s.ok := by
  intro s hs
  rcases List.mem_append.1 hs with hs | hs
  · obtain ⟨q, hq, rfl⟩ := List.mem_map.1 hs
    exact promS_ok (h q (List.mem_of_mem_take hq))
  · exact h s (List.mem_of_mem_drop hs)
theorem promTo_len (l : List SlotM) (n j : Nat) : (promTo l n j).length = l.length := by
  rw [promTo, List.length_append, List.length_map, List.length_take, List.length_drop]
  omega
theorem slot_set {s : SlotM} (h : s.ok) : s.cells.set 33 (.bool true) = (SlotM.mk s.idx s.peer true).cells := by
  rw [SlotM.cells, SlotM.cells, List.set_cons_succ, List.set_append_right _ _ (by rw [List.length_map, h.2]; omega), List.length_map, h.2]
  rfl
theorem slsV_set (l : List SlotM) (j : Nat) (s : SlotM) : slsV (l.set j s) = (slsV l).set j s.cells := by rw [slsV, slsV, List.map_set]
end Go.Proofs.Ytboeeopgghldnaa
namespace Go.Proofs.Ytboeeopgghldnaa
open Go.RowKit

set_option maxRecDepth 100000 in
set_option maxHeartbeats 8000000 in
theorem ixPromC : IxPromC 14 := by
  intro A n c l i w hi harg
  obtain ⟨hn, hnc, hcm, hr⟩ := harg
  have HA := Lib.hid hr
  have HLN := Lib.hid hr.len
  have HCL := Lib.hid (slClone_any A n c (slsV l) (by omega) (sls_one l) w hr.1)
  clear hr
  go_enter Try.func14, Try.ntmps14
  go_wp2_with fail
  refine HCL.out.mono ?_
  rintro e w1 ⟨A5, c5, rfl, hown1, hb3⟩
  obtain ⟨A6, c6, hv6, hc1, hc2, hlo⟩ := own_sliceK hown1
  injection hv6 with hA6 _ hc6
  subst hA6 hc6
  clear HCL
  rcases Nat.eq_zero_or_pos n with h0 | h0
  · subst h0
    have hl0 : l = [] := List.eq_nil_of_length_eq_zero HLN.out
    have HF := Lib.hid (And.intro hb3 (And.intro hc1 hc2))
    clear hown1 hb3 hc1 hc2 hlo
    go_wp2_with fail
    go_loopw [12] (fun v wr => v = .int .i64 0 ∧ Below w.heap.size w wr) (fun _ _ => 0)
    case atStart => exact ⟨rfl, HF.out.1⟩
    case round =>
      obtain ⟨rfl, hbl⟩ := hrel
      have HB := Lib.hid hbl
      clear hbl
      go_wp2
      go_ret
      subst hl0
      exact ⟨_, rfl, A5, c5, rfl, HF.out.2.1, HF.out.2.2, SlRd.nil, HB.out⟩
  · rcases hown1.2 with ⟨_, h1⟩ | ⟨g, cap, cur, hv, hbg, hg, hnc5, hcm5, hs5, hcr⟩
    · omega
    injection hv with hA5 _ hc5
    subst hA5 hc5
    obtain ⟨rest, hrest⟩ : ∃ z, cur.toList.drop (n * 34) = z := ⟨_, rfl⟩
    have hblk : Blk w1 g 34 ((slsV l).flatten ++ rest) := by
      unfold Blk
      rw [← hcr, ← hrest, List.take_append_drop, Array.toArray_toList]
      exact hg
    have HF := Lib.hid (And.intro hblk (And.intro hb3 (And.intro hbg (And.intro hc1 hc2))))
    clear hown1 hb3 hc1 hc2 hlo hbg hg hnc5 hcm5 hs5 hcr hrest hblk
    go_wp2_with fail
    go_loopw [12] (fun v wr => ∃ j : Nat, j ≤ n ∧ v = .int .i64 (j : Int) ∧ Blk wr g 34 ((slsV (promTo l i j)).flatten ++ rest) ∧ Below w.heap.size w wr) (fun v _ => n - (intOf v).toNat)
    case atStart => exact ⟨0, Nat.zero_le _, rfl, by simpa [promTo] using HF.out.1, HF.out.2.1⟩
    case round =>
      obtain ⟨j, hj, rfl, hbk, hbl⟩ := hrel
      have HBL := Lib.hid hbl
      have HBK := Lib.hid hbk
      clear hbk hbl
      by_cases hjn : j < n
      · have d1 : decide ((j : Int) < (n : Int)) = true := by simp; omega
        obtain ⟨b, off, rfl⟩ := HA.out.1.addr (by omega)
        obtain ⟨s, hs⟩ : ∃ s, l[j]? = some s := ⟨l[j]'(by rw [HLN.out]; exact hjn), List.getElem?_eq_getElem _⟩
        have HOS := Lib.hid (HA.out.ok hs)
        have hat := HA.out.at j s hs
        have HLA := Lib.hid (hat.2.mono HBL.out hat.1)
        have HJS := Lib.hid hs
        obtain ⟨sc, hsc⟩ : ∃ z, s.cells.toArray = z := ⟨_, rfl⟩
        have HSC := Lib.hid hsc
        have HZ := Lib.hid (Blk.new wr 34 slotZ)
        clear hat hs hsc
        go_upto_region 5 with (first | (refine wpList_load_obj rfl 34 (.tmp 15) rfl b _ rfl s.cells HLA.out _ Try.underlying34 rfl (slot_cellsOf s HOS.out) ?_; rw [HSC.out]) | (refine wpList_store_obj rfl 34 (.tmp 7) (.tmp 16) rfl wr.heap.size 0 s.cells rfl (by show Value.agg sc = _; rw [HSC.out]) 34 slotZ HZ.out (slot_cellsOf s HOS.out) (by rw [SlotM.cells_length HOS.out, slotZ_length]; omega) (slot_one s) ?_; intro w4 hb4 hg4))
        rw [setL_all slotZ s.cells (by rw [SlotM.cells_length HOS.out, slotZ_length])] at hb4
        have HBF := Lib.hid (below_fresh hg4)
        have hbk4 : Blk w4 g 34 ((slsV (promTo l i j)).flatten ++ rest) := HBK.out.below HBF.out HBK.out.lt
        have hbl4 : Below w.heap.size w w4 := HBL.out.trans (HBF.out.mono HBL.out.size)
        have HP := Lib.hid hb4
        have hkl : ∀ o ∈ slsV (promTo l i j), o.length = 34 := fun o ho => by
          obtain ⟨q, hq, rfl⟩ := List.mem_map.1 ho
          exact SlotM.cells_length (promTo_ok HA.out.2 i j q hq)
        have hat : (slsV (promTo l i j))[j]? = some s.cells := by rw [slsV, List.getElem?_map, promTo_at HJS.out]; rfl
        have hAt := blk_at hbk4 hkl hat
        clear hb4 hg4 HBF HZ d1 HLA HBL HBK
        generalize wr.heap.size = P1 at HP ⊢
        have fx := idx_at HP.out.all
        have fy : w4.cell? ⟨g, j * 34 + 33, none⟩ = some (.bool s.sess) := hAt 33 _ (slot_sess HOS.out)
        have zy := hbk4.frozen (j * 34 + 33)
        have hset := flat_cell (rest := rest) hkl j s.cells hat 33 (.bool true) (by omega)
        rw [slot_set HOS.out, ← slsV_set] at hset
        have hb2 := hbk4.set_ (j * 34 + 33) (.bool true)
        rw [hset] at hb2
        have hl2 : Below w.heap.size w (w4.setCell ⟨g, j * 34 + 33, none⟩ (.bool true)) := hbl4.setCell HF.out.2.2.1 _
        obtain ⟨y, hy⟩ : ∃ y, (s.idx == i) = y := ⟨_, rfl⟩
        have heq : ((s.idx : Int) == (i : Int)) = y := by rw [← hy, Bool.eq_iff_iff, beq_iff_eq, beq_iff_eq]; omega
        have HNX := Lib.hid (promTo_next (n := i) HJS.out)
        have HB := Lib.hid (And.intro hbk4 (And.intro hbl4 (And.intro hb2 hl2)))
        have HY := Lib.hid hy
        clear hkl hat hAt hset hb2 hl2 hbk4 hbl4 hy
        cases y with
        | true =>
          have hp : promS i s = ⟨s.idx, s.peer, true⟩ := by unfold promS; rw [if_pos (by simpa using HY.out)]
          rw [hp] at HNX
          go_wp2_with fail
          go_roundw
          case rel => exact ⟨j + 1, by omega, by go_num, by rw [HNX.out]; exact HB.out.2.2.1, HB.out.2.2.2⟩
          case measure => simp [intOf]; omega
        | false =>
          have hp : promS i s = s := by unfold promS; rw [if_neg (by simpa using HY.out)]
          have hsame : (promTo l i j).set j s = promTo l i j := by
            refine List.ext_getElem? fun q => ?_
            rw [List.getElem?_set]
            split
            · rename_i e
              subst e
              rw [if_pos (by rw [promTo_len]; exact (List.getElem?_eq_some_iff.1 HJS.out).1)]
              exact (promTo_at HJS.out).symm
            · rfl
          rw [hp, hsame] at HNX
          clear fy zy
          go_wp2_with fail
          go_roundw
          case rel => exact ⟨j + 1, by omega, by go_num, by rw [HNX.out]; exact HB.out.1, HB.out.2.1⟩
          case measure => simp [intOf]; omega
      · obtain rfl : n = j := by omega
        have d1 : decide ((n : Int) < (n : Int)) = false := by simp
        have hbk := HBK.out
        have hp : promTo l i n = promM l i := by rw [promTo, List.take_of_length_le (by rw [HLN.out]; exact Nat.le_refl _), List.drop_of_length_le (by rw [HLN.out]; exact Nat.le_refl _), List.append_nil]; rfl
        rw [hp] at hbk
        have hko : ∀ s ∈ promM l i, s.ok := by rw [← hp]; exact promTo_ok HA.out.2 i n
        have hln : (promM l i).length = n := by rw [← hp, promTo_len]; exact HLN.out
        have hrow := blk_row hbk (fun o ho => by
          obtain ⟨q, hq, rfl⟩ := List.mem_map.1 ho
          exact SlotM.cells_length (hko q hq)) (show (slsV (promM l i)).length = n from by rw [slsV, List.length_map]; exact hln)
        have HX := Lib.hid (And.intro hrow (And.intro hko (And.intro hln HBL.out)))
        clear hp hbk HBL HBK hko hln hrow
        go_wp2
        go_ret
        exact ⟨_, rfl, _, _, by rw [HX.out.2.2.1]; rfl, by rw [HX.out.2.2.1]; exact HF.out.2.2.2.1, HF.out.2.2.2.2, ⟨by rw [HX.out.2.2.1]; exact HX.out.1, HX.out.2.1⟩, HX.out.2.2.2⟩
end Go.Proofs.Ytboeeopgghldnaa
namespace Go.Proofs.Ytboeeopgghldnaa
open Go.RowKit

/-- the index ahead of a place -/
def lastS (l : List SlotM) : Nat → Nat
  | 0 => 0
  | j + 1 => match l[j]? with
    | none => 0
    | some s => s.idx
theorem lastS_step {l : List SlotM} {j : Nat} {s : SlotM} (hs : l[j]? = some s) : stepS l j = decide (lastS l j < s.idx) := by
  cases j with
  | zero =>
    rw [stepS_zero hs, lastS, Bool.eq_iff_iff, decide_eq_true_iff]
    simp
    omega
  | succ k =>
    have hk : k < l.length := by have := (List.getElem?_eq_some_iff.1 hs).1; omega
    have hq := List.getElem?_eq_getElem hk
    rw [stepS_succ hq hs, lastS, hq, Bool.eq_iff_iff, Bool.and_eq_true, decide_eq_true_iff]
    simp
    omega
theorem lastS_next {l : List SlotM} {j : Nat} {s : SlotM} (hs : l[j]? = some s) : lastS l (j + 1) = s.idx := by rw [lastS, hs]
set_option maxRecDepth 100000 in
set_option maxHeartbeats 8000000 in
theorem ixValidC : IxValidC 16 := by
  intro A n c l w harg
  have hn := harg.1
  have HA := Lib.hid harg.2.2.2
  have HLN := Lib.hid harg.2.2.2.len
  clear harg
  go_enter Try.func16, Try.ntmps16
  go_wp2_with fail
  go_loopw [8, 3] (fun i v wr => ∃ j : Nat, j ≤ n ∧ i = .int .i64 (j : Int) ∧ v = .int .u32 (lastS l j : Int) ∧ (∀ k, k < j → stepS l k = true) ∧ Below w.heap.size w wr) (fun i _ _ => n - (intOf i).toNat)
  case atStart => exact ⟨0, by omega, rfl, rfl, fun k hk => absurd hk (by omega), Below.refl _ _⟩
  case round =>
    obtain ⟨j, hj, rfl, rfl, hs, hW⟩ := hrel
    have HBL := Lib.hid hW
    have HS := Lib.hid hs
    clear hW hs
    by_cases hjn : j < n
    · have d1 : decide ((j : Int) < (n : Int)) = true := by simp; omega
      obtain ⟨b, off, rfl⟩ := HA.out.1.addr (by omega)
      obtain ⟨s, hs⟩ : ∃ s, l[j]? = some s := ⟨l[j]'(by rw [HLN.out]; exact hjn), List.getElem?_eq_getElem _⟩
      have HOS := Lib.hid (HA.out.ok hs)
      have hat := HA.out.at j s hs
      have HLA := Lib.hid (hat.2.mono HBL.out hat.1)
      have HJS := Lib.hid hs
      obtain ⟨sc, hsc⟩ : ∃ z, s.cells.toArray = z := ⟨_, rfl⟩
      have HSC := Lib.hid hsc
      have HZ := Lib.hid (Blk.new wr 34 slotZ)
      clear hat hs hsc
      go_upto_region 5 with (first | (refine wpList_load_obj rfl 34 (.tmp 10) rfl b _ rfl s.cells HLA.out _ Try.underlying34 rfl (slot_cellsOf s HOS.out) ?_; rw [HSC.out]) | (refine wpList_store_obj rfl 34 (.tmp 5) (.tmp 11) rfl wr.heap.size 0 s.cells rfl (by show Value.agg sc = _; rw [HSC.out]) 34 slotZ HZ.out (slot_cellsOf s HOS.out) (by rw [SlotM.cells_length HOS.out, slotZ_length]; omega) (slot_one s) ?_; intro w4 hb4 hg4))
      rw [setL_all slotZ s.cells (by rw [SlotM.cells_length HOS.out, slotZ_length])] at hb4
      have HP := Lib.hid hb4
      have HB4 := Lib.hid (HBL.out.trans ((below_fresh hg4).mono HBL.out.size))
      have hst := lastS_step HJS.out
      obtain ⟨q, hq⟩ : ∃ z, lastS l j = z := ⟨_, rfl⟩
      rw [hq] at hst ⊢
      obtain ⟨y, hy⟩ : ∃ y, stepS l j = y := ⟨_, rfl⟩
      rw [hy] at hst
      have d2 : decide ((s.idx : Int) ≤ (q : Int)) = !y := by rw [hst]; by_cases h : q < s.idx <;> simp [h] <;> omega
      have d3 : decide (s.idx ≤ q) = !y := by rw [hst]; by_cases h : q < s.idx <;> simp [h] <;> omega
      have HY := Lib.hid hy
      have HLN2 := Lib.hid (lastS_next HJS.out)
      clear hb4 hg4 HBL HZ d1 HLA hst hq hy
      generalize wr.heap.size = P1 at HP ⊢
      have fx := idx_at HP.out.all
      cases y with
      | false =>
        have HR := Lib.hid (show validSlotsM l = false from by rw [validSlotsM, allS_bad (by rw [HLN.out]; exact hjn) HY.out]; rfl)
        go_wp2_with fail
        go_ret
        exact ⟨by rw [HR.out]; rfl, HB4.out⟩
      | true =>
        have HG := Lib.hid (show ∀ k, k < j + 1 → stepS l k = true from fun k hk => by
          rcases Nat.lt_or_ge k j with h | h
          · exact HS.out k h
          · obtain rfl : k = j := by omega
            exact HY.out)
        go_wp2_with fail
        go_roundw
        case rel => exact ⟨j + 1, by omega, by go_num, by rw [HLN2.out], HG.out, HB4.out⟩
        case measure => simp [intOf]; omega
    · obtain rfl : n = j := by omega
      have d1 : decide ((n : Int) < (n : Int)) = false := by simp
      obtain ⟨y, hy⟩ : ∃ y, decide (n ≤ 32) = y := ⟨_, rfl⟩
      have d2 : decide ((n : Int) ≤ 32) = y := by rw [← hy, Bool.eq_iff_iff, decide_eq_true_iff, decide_eq_true_iff]; omega
      have HX := Lib.hid (show validSlotsM l = y from by
        rw [validSlotsM, allS_good (by rw [HLN.out]; exact HS.out), HLN.out, Bool.true_and]
        exact hy)
      have HF := Lib.hid HBL.out
      clear HBL HS hy
      go_wp2
      go_ret
      exact ⟨by rw [HX.out]; rfl, HF.out⟩
end Go.Proofs.Ytboeeopgghldnaa
namespace Go.Proofs.Ytboeeopgghldnaa
open Go.RowKit

theorem ix_fresh_walk_all (w : World) (A : Option Addr) (n c : Nat) (l : List UInt8) (wish : Nat) (near : Bool) (k : List UInt8) (b : Bool) (hnc : n ≤ c) (hcm : c ≤ maxLen) (hr : Rd w w.heap.size A n l) (hw : wish < 4294967296) (hk : k.length = 32) :
    Calls Try.prog 4 #[.slice A n c, .int .u32 (wish : Int), .bool near, .agg (k.map u8v).toArray, .bool b] w fun e w' => e = .returned (.bool true) ∧ Below w.heap.size w w' :=
  ix_fresh_walk ixTakeC ixDropC ixFindC ixPromC ixValidC w A n c l wish near k b hnc hcm hr hw hk
end Go.Proofs.Ytboeeopgghldnaa
