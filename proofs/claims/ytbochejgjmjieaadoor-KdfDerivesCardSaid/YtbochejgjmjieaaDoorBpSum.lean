/-
  The contracts of blake.messageOf, bytesOf and Sum. No statement is proved here.
-/
import Derived.Test.YtbochejgjmjieaaDoorBpAbsorb
import Derived.Test.YtbochejgjmjieaaDoorCoJoin
import Derived.Test.YtbochejgjmjieaaDoorLittle
namespace Go.Proofs.YtbochejgjmjieaaDoor
open Go.RowKit

theorem rdIn_of_own {W : World} {B n c : Nat} {A : Option Addr} {l : List UInt8} (ho : W.ownsRow B 5 1 (.slice A n c) n (l.map u8v)) : RdIn B W.heap.size A n l W := by
  have hr := Rd.of_own ho
  refine ⟨hr.1, fun hn => ?_⟩
  obtain ⟨b, off, e, h1, hc⟩ := hr.2 hn
  subst e
  exact ⟨b, off, rfl, (ho.lt b rfl).1, h1, hc⟩
theorem rdIn_take {W : World} {lo hi n m : Nat} {A : Option Addr} {l : List UInt8} (h : RdIn lo hi A n l W) (hm : m ≤ n) : RdIn lo hi A m (l.take m) W := by
  have hl := h.1
  refine ⟨by rw [List.length_take]; omega, fun h0 => ?_⟩
  obtain ⟨b, off, e, h1, h2, hc⟩ := h.2 (by omega)
  refine ⟨b, off, e, h1, h2, fun j hj => ?_⟩
  rw [List.length_take] at hj
  rw [hc j (by omega), List.getElem_take]
theorem RdIn.lo {W : World} {lo hi lo' n : Nat} {A : Option Addr} {l : List UInt8} (h : RdIn lo hi A n l W) (hl : lo' ≤ lo) : RdIn lo' hi A n l W := by
  refine ⟨h.1, fun h0 => ?_⟩
  obtain ⟨b, off, e, h1, h2, hc⟩ := h.2 h0
  exact ⟨b, off, e, Nat.le_trans hl h1, h2, hc⟩
theorem bp_index_word {P : Program} (t e : TypeId) (n : Nat) (ht : P.underlying t = some (.array n e)) (he : P.underlying e = some (.int .u32)) {i : TypeInfo} (hi : P.info? e = some i) (hs : i.size = 1) (l : List UInt32) (hl : l.length = n) (q : Nat) (hq : q < n) (w : World) :
    (Instr.index t (.agg (l.map u32v).toArray) (.int .i64 (q : Int))).run P w = .ok (.int .u32 ((wd l q).toNat : Int)) w := by
  have hg : l[q]? = some (wd l q) := by
    rw [List.getElem?_eq_getElem (by omega)]
    simp [wd, List.getD, show q < l.length by omega]
  simp [Instr.index, asIntOf, run_underlying ht, part, isAgg, run_underlying he, sizeOf, typeInfo, hi, hs, hq, hg, u32v]
theorem bp_info32 : ∃ i, Tryd.prog.info? 44 = some i ∧ i.size = 1 := by
  have h : (Tryd.prog.info? 44).map (·.size) = some 1 := by kernel_rfl
  cases hi : Tryd.prog.info? 44 with
  | none => rw [hi] at h; cases h
  | some i => rw [hi] at h; exact ⟨i, rfl, by simpa using h⟩
theorem keyB_to64 (key : List UInt8) (h : key ≠ []) : keyB key = to64 key := by rw [keyB, if_neg h]; rfl

set_option maxRecDepth 100000 in
set_option maxHeartbeats 8000000 in
theorem bpMessage_any (Ak Ad : Option Addr) (nk ck nd cd : Nat) (key data : List UInt8) (hnk : nk ≤ 32) (hdc : nd ≤ cd) (hdm : cd ≤ maxLen) (hnd : nd ≤ 400000) (w : World) (hrk : Rd w w.heap.size Ak nk key) (hrd : Rd w w.heap.size Ad nd data) :
    Calls Tryd.prog 24 #[.slice Ak nk ck, .slice Ad nd cd] w fun e w' => ∃ A c', e = .returned (.slice A (msgB key data).length c') ∧ Rd w' w'.heap.size A (msgB key data).length (msgB key data) ∧ (msgB key data).length ≤ c' ∧ c' ≤ maxLen ∧ Below w.heap.size w w' := by
  have hkl : key.length = nk := hrk.1
  have hdl : data.length = nd := hrd.1
  by_cases hk0 : nk = 0
  · have hnil : key = [] := List.eq_nil_of_length_eq_zero (by omega)
    have hmsg : msgB key data = data := by rw [msgB, keyB, if_pos hnil]; rfl
    rw [hmsg, hdl]
    have HF := Lib.hid (And.intro hrd (Below.refl w.heap.size w))
    have d0 : decide ((nk : Int) = 0) = true := by simp; omega
    have d1 : ((nk : Int) == 0) = true := by rw [beq_iff_eq]; omega
    clear hmsg hrk hrd hnil hkl hdl hnd hnk
    subst hk0
    go_enter Tryd.func24, Tryd.ntmps24
    go_wp2
    go_ret
    exact ⟨Ad, cd, rfl, HF.out.1, hdc, hdm, HF.out.2⟩
  · have hne : key ≠ [] := by intro e; subst e; simp at hkl; omega
    have hmsg : msgB key data = to64 key ++ data := by rw [msgB, keyB_to64 _ hne]
    have HKL := Lib.hid (to64_length key (by omega))
    rw [hmsg]
    have hml : (to64 key ++ data).length = 64 + nd := by rw [List.length_append, HKL.out, hdl]
    rw [hml]
    have HP := Lib.hid (putL_zeros key (by omega))
    have HMLE := Lib.hid hml
    obtain ⟨tk, htk⟩ : ∃ x, to64 key = x := ⟨_, rfl⟩
    rw [htk] at HKL HP HMLE ⊢
    have HM := Lib.hid (show Mem w [blkE w.heap.size 37 ((List.replicate 64 (0 : UInt8)).map u8v)] (w.alloc (.cells #[.int .u8 0, .int .u8 0, .int .u8 0, .int .u8 0, .int .u8 0, .int .u8 0, .int .u8 0, .int .u8 0, .int .u8 0, .int .u8 0, .int .u8 0, .int .u8 0, .int .u8 0, .int .u8 0, .int .u8 0, .int .u8 0, .int .u8 0, .int .u8 0, .int .u8 0, .int .u8 0, .int .u8 0, .int .u8 0, .int .u8 0, .int .u8 0, .int .u8 0, .int .u8 0, .int .u8 0, .int .u8 0, .int .u8 0, .int .u8 0, .int .u8 0, .int .u8 0, .int .u8 0, .int .u8 0, .int .u8 0, .int .u8 0, .int .u8 0, .int .u8 0, .int .u8 0, .int .u8 0, .int .u8 0, .int .u8 0, .int .u8 0, .int .u8 0, .int .u8 0, .int .u8 0, .int .u8 0, .int .u8 0, .int .u8 0, .int .u8 0, .int .u8 0, .int .u8 0, .int .u8 0, .int .u8 0, .int .u8 0, .int .u8 0, .int .u8 0, .int .u8 0, .int .u8 0, .int .u8 0, .int .u8 0, .int .u8 0, .int .u8 0, .int .u8 0] 37)) from (Mem.nil w).alloc rfl 37 #[.int .u8 0, .int .u8 0, .int .u8 0, .int .u8 0, .int .u8 0, .int .u8 0, .int .u8 0, .int .u8 0, .int .u8 0, .int .u8 0, .int .u8 0, .int .u8 0, .int .u8 0, .int .u8 0, .int .u8 0, .int .u8 0, .int .u8 0, .int .u8 0, .int .u8 0, .int .u8 0, .int .u8 0, .int .u8 0, .int .u8 0, .int .u8 0, .int .u8 0, .int .u8 0, .int .u8 0, .int .u8 0, .int .u8 0, .int .u8 0, .int .u8 0, .int .u8 0, .int .u8 0, .int .u8 0, .int .u8 0, .int .u8 0, .int .u8 0, .int .u8 0, .int .u8 0, .int .u8 0, .int .u8 0, .int .u8 0, .int .u8 0, .int .u8 0, .int .u8 0, .int .u8 0, .int .u8 0, .int .u8 0, .int .u8 0, .int .u8 0, .int .u8 0, .int .u8 0, .int .u8 0, .int .u8 0, .int .u8 0, .int .u8 0, .int .u8 0, .int .u8 0, .int .u8 0, .int .u8 0, .int .u8 0, .int .u8 0, .int .u8 0, .int .u8 0] ((List.replicate 64 (0 : UInt8)).map u8v) rfl)
    have HK := Lib.hid hrk
    have HD := Lib.hid hrd
    have d1 : ((nk : Int) == 0) = false := by rw [beq_eq_false_iff_ne]; omega
    clear hmsg hml htk hrk hrd hne hkl
    go_enter Tryd.func24, Tryd.ntmps24
    go_upto_region 4 with fail
    generalize w.alloc (.cells #[.int .u8 0, .int .u8 0, .int .u8 0, .int .u8 0, .int .u8 0, .int .u8 0, .int .u8 0, .int .u8 0, .int .u8 0, .int .u8 0, .int .u8 0, .int .u8 0, .int .u8 0, .int .u8 0, .int .u8 0, .int .u8 0, .int .u8 0, .int .u8 0, .int .u8 0, .int .u8 0, .int .u8 0, .int .u8 0, .int .u8 0, .int .u8 0, .int .u8 0, .int .u8 0, .int .u8 0, .int .u8 0, .int .u8 0, .int .u8 0, .int .u8 0, .int .u8 0, .int .u8 0, .int .u8 0, .int .u8 0, .int .u8 0, .int .u8 0, .int .u8 0, .int .u8 0, .int .u8 0, .int .u8 0, .int .u8 0, .int .u8 0, .int .u8 0, .int .u8 0, .int .u8 0, .int .u8 0, .int .u8 0, .int .u8 0, .int .u8 0, .int .u8 0, .int .u8 0, .int .u8 0, .int .u8 0, .int .u8 0, .int .u8 0, .int .u8 0, .int .u8 0, .int .u8 0, .int .u8 0, .int .u8 0, .int .u8 0, .int .u8 0, .int .u8 0] 37) = w1 at HM ⊢
    go_upto_region 5 with (refine wpList_copy_rd _ rfl (.tmp 10) (.tmp 11) 22 22 rfl 5 Tryd.underlying22 (by kernel_rfl) w.heap.size 64 64 Ak nk ck rfl rfl (List.replicate 64 (0 : UInt8)) 37 (HM.out.blk 0 rfl) _ key (HM.out.arg HK.out) (by omega) (by simp) ?_; intro w2 hb hg)
    rw [HP.out] at hb
    replace HM := Lib.hid (show Mem w [blkE w.heap.size 37 (tk.map u8v)] w2 from HM.out.put 0 rfl _ hg hb)
    clear hb hg HP HK
    replace HM := Lib.hid (show Mem w [blkE w2.heap.size 22 [.slice (some ⟨w.heap.size, 0, none⟩) 64 64, .slice Ad nd cd], blkE w.heap.size 37 (tk.map u8v)] (w2.alloc (.cells #[.slice (some ⟨w.heap.size, 0, none⟩) 64 64, .slice Ad nd cd] 22)) from HM.out.alloc rfl 22 _ _ rfl)
    go_wp2_with fail
    generalize w2.alloc (.cells #[.slice (some ⟨w.heap.size, 0, none⟩) 64 64, .slice Ad nd cd] 22) = w3 at HM ⊢
    generalize w2.heap.size = Q at HM ⊢
    have hf : flat [(⟨some ⟨w.heap.size, 0, none⟩, 64, 64, tk⟩ : Part), ⟨Ad, nd, cd, data⟩] 2 = tk ++ data := by simp [flat]
    have JC := coJoin_any w3.heap.size 2 (some ⟨Q, 0, none⟩) [⟨some ⟨w.heap.size, 0, none⟩, 64, 64, tk⟩, ⟨Ad, nd, cd, data⟩] (by simp) (by show (flat _ 2).length ≤ _; rw [hf, HMLE.out]; omega) w3 (Nat.le_refl _) (parts_blk [⟨some ⟨w.heap.size, 0, none⟩, 64, 64, tk⟩, ⟨Ad, nd, cd, data⟩] (HM.out.blk 0 rfl) (fun p hp => by
      simp only [List.mem_cons, List.not_mem_nil, or_false] at hp
      rcases hp with rfl | rfl
      · exact blk_all (HM.out.blk 1 rfl) HKL.out
      · exact HM.out.arg HD.out))
    rw [show ([(⟨some ⟨w.heap.size, 0, none⟩, 64, 64, tk⟩ : Part), ⟨Ad, nd, cd, data⟩]).length = 2 from rfl, hf, HMLE.out] at JC
    refine JC.mono ?_
    rintro e w4 ⟨A4, c4, rfl, ho, hb⟩
    have HF := Lib.hid (show Rd w4 w4.heap.size A4 (64 + nd) (tk ++ data) ∧ 64 + nd ≤ c4 ∧ c4 ≤ maxLen ∧ Below w.heap.size w w4 from ⟨Rd.of_own ho, (own_addr ho).1, (own_addr ho).2.1, (HM.out.below hb).bel⟩)
    clear JC hf ho hb HM HD
    go_wp2
    go_ret
    exact ⟨A4, c4, rfl, HF.out.1, HF.out.2.1, HF.out.2.2.1, HF.out.2.2.2⟩

set_option maxRecDepth 100000 in
set_option maxHeartbeats 8000000 in
theorem bpBytes_any (hs : List UInt32) (hh : hs.length = 8) (w : World) :
    Calls Tryd.prog 22 #[.agg (hs.map u32v).toArray] w fun e w' => ∃ g c, e = .returned (.slice (some ⟨g, 0, none⟩) 32 c) ∧ RdIn w.heap.size w'.heap.size (some ⟨g, 0, none⟩) 32 (hs.flatMap fun x => littleL x.toNat 4) w' ∧ 32 ≤ c ∧ c ≤ maxLen ∧ Below w.heap.size w w' := by
  obtain ⟨i0, hi, hz0, hz1, hz2⟩ := info_parts Tryd.info5
  have HIX := Lib.hid (show ∀ (q : Nat), q < 8 → ∀ w' : World, (Instr.index 46 (.agg (hs.map u32v).toArray) (.int .i64 (q : Int))).run Tryd.prog w' = .ok (.int .u32 ((wd hs q).toNat : Int)) w' from fun q hq w' => bp_index_word 46 44 8 Tryd.underlying46 Tryd.underlying44 bp_info32.choose_spec.1 bp_info32.choose_spec.2 hs hh q hq w')
  obtain ⟨ch, hch⟩ : ∃ x, (hs.map u32v).toArray = x := ⟨_, rfl⟩
  rw [hch] at HIX ⊢
  have HM := Lib.hid (show Mem w [blkE w.heap.size 46 (hs.map u32v)] (w.alloc (.cells ch 46)) from (Mem.nil w).alloc rfl 46 ch (hs.map u32v) hch.symm)
  have HHS := Lib.hid hh
  have HCH := Lib.hid hch
  clear hch hh
  go_enter Tryd.func22, Tryd.ntmps22
  go_upto_region 1 with fail
  generalize w.alloc (.cells ch 46) = w1 at HM ⊢
  have HB := Lib.hid HM.out.fix
  obtain ⟨B, hB⟩ : ∃ B, w1.heap.size = B := ⟨_, rfl⟩
  rw [hB] at HB
  have HBB := Lib.hid (show w.heap.size ≤ B by rw [← hB]; exact HM.out.size)
  go_upto_region 2 with (refine wpList_make_own _ rfl (.const (.int .i64 0)) (.const (.int .i64 32)) 22 rfl B 5 i0 (.int .u8 0) 1 Tryd.underlying22 hi hz0 hz1 .i64 .i64 32 32 rfl rfl rfl (by rw [hz2]; omega) (by unfold maxLen; omega) (by rw [hB]; exact Nat.le_refl _) ?_; intro w2 hown hg; rw [hB] at hown)
  have HO := Lib.hid (And.intro hown (HB.out.below ((Below.refl _ _).grown hg (by rw [hB]; exact Nat.le_refl _) (by simp))))
  clear hown hg HB HM
  go_wp2_with (refine wpList_load_blk rfl 46 (.tmp 1) rfl w.heap.size rfl 46 (hs.map u32v) (HO.out.2.mem.blk 0 rfl) 8 44 Tryd.underlying46 (cellsSt hs HHS.out) ?_; rw [HCH.out])
  go_loopw [8, 3, 5] (fun i v _ wx => ∃ q : Nat, q ≤ 8 ∧ i = .int .i64 (q : Int) ∧ wx.ownsRow B 5 1 v (4 * q) (((hs.take q).flatMap fun x => littleL x.toNat 4).map u8v) ∧ MemB w B [blkE w.heap.size 46 (hs.map u32v)] wx) (fun i _ _ _ => 8 - (intOf i).toNat)
  case atStart => exact ⟨0, by omega, rfl, HO.out.1, HO.out.2⟩
  case round =>
    clear HO
    obtain ⟨q, hq, rfl, hown, hb⟩ := hrel
    obtain ⟨A6, c6, rfl, _⟩ := own_slice hown
    have HO := Lib.hid (And.intro hown hb)
    clear hown hb
    by_cases hq8 : q < 8
    · have d8 : decide ((q : Int) < 8) = true := by simp; omega
      have hix := HIX.out q hq8
      obtain ⟨X, hX⟩ : ∃ x, wd hs q = x := ⟨_, rfl⟩
      rw [hX] at hix
      have hcv : IntKind.u64.wrap (X.toNat : Int) = (X.toNat : Int) := by have := X.toNat_lt; rw [IntKind.wrap_u64]; omega
      have HX := Lib.hid hX
      clear hX
      go_wp2_with fail
      rw [show (4 : Int) = ((4 : Nat) : Int) from rfl]
      refine (little_any X.toNat (by have := X.toNat_lt; omega) 4 (by omega) (by omega) _).mono ?_
      rintro e w7 ⟨rfl, ho, hb⟩
      have HLT := Lib.hid (Rd.of_own ho)
      have hbB : Below B wr w7 := hb.mono HO.out.2.2.2
      have HO2 := Lib.hid (And.intro (own_below HO.out.1 hb) (HO.out.2.below hbB))
      clear ho hb hbB hix hcv HO
      go_wp2_with (refine wpList_append_rd _ rfl (.tmp 11) (.tmp 14) 22 rfl B 5 i0 (.int .u8 0) Tryd.underlying22 hi hz0 hz1 hz2 rfl (.slice A6 (4 * q) c6) (4 * q) _ rfl HO2.out.1 _ _ _ _ (littleL X.toNat 4) rfl HLT.out (by omega) HO2.out.2.2.2 ?_; intro v8 w8 hown8 hg8)
      have HW := Lib.hid (show w8.ownsRow B 5 1 v8 (4 * (q + 1)) (((hs.take (q + 1)).flatMap fun x => littleL x.toNat 4).map u8v) ∧ MemB w B [blkE w.heap.size 46 (hs.map u32v)] w8 from ⟨by
        rw [List.take_succ_eq_append_getElem (by rw [HHS.out]; exact hq8), List.flatMap_append, List.map_append]
        have e : hs[q]'(by rw [HHS.out]; exact hq8) = X := by
          have h := HX.out
          rw [wd, List.getD_eq_getElem?_getD, List.getElem?_eq_getElem (by rw [HHS.out]; exact hq8)] at h
          exact h
        rw [e, show 4 * (q + 1) = 4 * q + 4 by omega]
        simpa using hown8, HO2.out.2.grown HO2.out.1 hg8⟩)
      clear hown8 hg8 HO2 HLT
      go_wp2
      go_roundw
      case rel => exact ⟨q + 1, by omega, by go_num, HW.out.1, HW.out.2⟩
      case measure => simp [intOf]; omega
    · obtain rfl : q = 8 := by omega
      have hown := HO.out.1
      rw [List.take_of_length_le (by rw [HHS.out]; omega)] at hown
      obtain ⟨g6, rfl⟩ := (own_addr hown).2.2 (by omega)
      have HF := Lib.hid (show RdIn w.heap.size wr.heap.size (some ⟨g6, 0, none⟩) 32 (hs.flatMap fun x => littleL x.toNat 4) wr ∧ 32 ≤ c6 ∧ c6 ≤ maxLen ∧ Below w.heap.size w wr from ⟨(rdIn_of_own hown).lo HBB.out, (own_addr hown).1, (own_addr hown).2.1, HO.out.2.mem.bel⟩)
      clear hown HO
      rw [show ((8 : Nat) : Int) = 8 from rfl]
      go_wp2
      go_ret
      exact ⟨g6, c6, rfl, HF.out.1, HF.out.2.1, HF.out.2.2.1, HF.out.2.2.2⟩

set_option maxRecDepth 100000 in
set_option maxHeartbeats 16000000 in
theorem bpSum_ok (size : Nat) (hs1 : 1 ≤ size) (hs2 : size ≤ 32) (Ak Ad : Option Addr) (nk ck nd cd : Nat) (key data : List UInt8) (hnk : nk ≤ 32) (hdc : nd ≤ cd) (hdm : cd ≤ maxLen) (hnd : nd ≤ 400000) (w : World) (hlv : LvBlake w) (hrk : Rd w w.heap.size Ak nk key) (hrd : Rd w w.heap.size Ad nd data) :
    Calls Tryd.prog 19 #[.int .i64 (size : Int), .slice Ak nk ck, .slice Ad nd cd] w fun e w' => ∃ A c', e = .returned (.tuple #[.slice A size c', .int .i64 0]) ∧ RdIn w.heap.size w'.heap.size A size (hashB size key data) w' ∧ size ≤ c' ∧ c' ≤ maxLen ∧ Below w.heap.size w w' := by
  have HK := Lib.hid hrk
  have HD := Lib.hid hrd
  have HKL := Lib.hid hrk.1
  have HLV := Lib.hid hlv
  have s1 : decide ((size : Int) < 1) = false := by simp; omega
  have s2 : decide ((size : Int) > 32) = false := by simp; omega
  have s3 : decide ((nk : Int) > 32) = false := by simp; omega
  obtain ⟨ti, hti⟩ := hlv.1
  have HTI := Lib.hid hti
  obtain ⟨ci, hci⟩ : ∃ c, (ivW.map u32v).toArray = c := ⟨_, rfl⟩
  have HCI := Lib.hid hci
  have MC := Lib.hid (fun (w' : World) h1 h2 => bpMessage_any Ak Ad nk ck nd cd key data hnk hdc hdm hnd w' h1 h2)
  have hmn : (msgB key data).length ≤ 500000 := by
    have h1 := hrk.1
    have h2 := hrd.1
    rw [msgB, List.length_append, keyB]
    split
    · simp; omega
    · rw [List.length_append, List.length_replicate]; omega
  obtain ⟨h0, hh0⟩ : ∃ x, firstB size nk = x := ⟨_, rfl⟩
  have HH0 := Lib.hid (show h0.length = 8 by rw [← hh0]; exact firstB_length _ _)
  have HFB := Lib.hid hh0
  obtain ⟨ml, hml⟩ : ∃ x, msgB key data = x := ⟨_, rfl⟩
  obtain ⟨hz, hhz⟩ : ∃ x, statesB h0 (fillB ml) ml.length ((fillB ml).length / 64) ((fillB ml).length / 64) = x := ⟨_, rfl⟩
  have HHZ := Lib.hid (show hz.length = 8 by rw [← hhz]; exact statesB_length _ _ _ _ HH0.out _)
  have HE := Lib.hid (show hashB size key data = ((hz.flatMap fun x => littleL x.toNat 4)).take size by rw [hashB, hml, HKL.out, hh0, hhz])
  rw [hml] at MC hmn
  have AC := Lib.hid (fun (A : Option Addr) (c : Nat) (h1 : ml.length ≤ c) (h2 : c ≤ maxLen) (w' : World) (hv : LvBlake w') hr => bpAbsorb_any h0 HH0.out A ml.length c ml h1 h2 hmn w' hv hr)
  rw [hhz] at AC
  obtain ⟨cs, hcs⟩ : ∃ x, (h0.map u32v).toArray = x := ⟨_, rfl⟩
  obtain ⟨cz, hcz⟩ : ∃ x, (hz.map u32v).toArray = x := ⟨_, rfl⟩
  have YC := Lib.hid (fun w' : World => bpBytes_any hz HHZ.out w')
  rw [hcs, hcz] at AC
  rw [hcz] at YC
  have HCS := Lib.hid (And.intro hcs hcz)
  generalize ml.length = n at MC AC
  clear hrk hrd hlv hti hci hh0 hml hhz hcs hcz hmn
  go_enter Tryd.func19, Tryd.ntmps19
  go_upto_region 3 with fail
  clear s1 s2 s3
  have HA := Lib.hid ((Mem.nil w).alloc rfl 46 #[.int .u32 0, .int .u32 0, .int .u32 0, .int .u32 0, .int .u32 0, .int .u32 0, .int .u32 0, .int .u32 0] (zw 8) rfl)
  go_upto_region 4 with (first | (refine wpList_load_blk rfl 46 (.global 0) rfl 0 rfl ti (ivW.map u32v) HTI.out 8 44 Tryd.underlying46 (cellsSt ivW rfl) ?_; rw [HCI.out]) | (refine wpList_store_blk rfl 46 (.tmp 8) (.tmp 20) rfl w.heap.size (ivW.map u32v) rfl (by show Value.agg ci = _; rw [HCI.out]) 46 (zw 8) (HA.out.blk 0 rfl) (cellsSt ivW rfl) rfl (u32v_one _) ?_; intro w2 hb3 hg3))
  have HM := Lib.hid (show Mem w [blkE w.heap.size 46 (ivW.map u32v)] w2 from HA.out.put 0 rfl _ hg3 hb3)
  clear hb3 hg3 HA HCI HTI
  have fx := (HM.out.blk 0 rfl).word 0 (by decide)
  have zx := (HM.out.blk 0 rfl).frozen 0
  obtain ⟨I0, hI0⟩ : ∃ x, wd ivW 0 = x := ⟨_, rfl⟩
  rw [hI0] at fx
  obtain ⟨A1, hA1⟩ : ∃ x, (0x01010000 : UInt32) ^^^ UInt32.ofNat (nk * 256) = x := ⟨_, rfl⟩
  obtain ⟨A2, hA2⟩ : ∃ x, A1 ^^^ UInt32.ofNat size = x := ⟨_, rfl⟩
  obtain ⟨V, hV⟩ : ∃ x, I0 ^^^ A2 = x := ⟨_, rfl⟩
  have x1 : bits BinOp.xor IntKind.u32 16842752 ((nk : Int) * 256) = (A1.toNat : Int) := by
    rw [← hA1, ← u32_xor, UInt32.toNat_ofNat', Nat.mod_eq_of_lt (by omega), Int.natCast_mul]
    rfl
  have x2 : bits BinOp.xor IntKind.u32 (A1.toNat : Int) (size : Int) = (A2.toNat : Int) := by
    rw [← hA2, ← u32_xor, UInt32.toNat_ofNat', Nat.mod_eq_of_lt (by omega)]
  have x3 : bits BinOp.xor IntKind.u32 (I0.toNat : Int) (A2.toNat : Int) = (V.toNat : Int) := by rw [← hV, ← u32_xor]
  have y1 : IntKind.u32.wrap (nk : Int) = (nk : Int) := by rw [IntKind.wrap_u32]; omega
  have y2 : IntKind.u32.wrap ((nk : Int) * 256) = (nk : Int) * 256 := by rw [IntKind.wrap_u32]; omega
  have y3 : IntKind.u32.wrap (size : Int) = (size : Int) := by rw [IntKind.wrap_u32]; omega
  have HFE := Lib.hid (show ivW.set 0 V = h0 by rw [← HFB.out, firstB, hI0, hA1, hA2, hV])
  clear hI0 hA1 hA2 hV
  go_upto_region 5 with fail
  clear fx zx x1 x2 x3 y1 y2 y3
  replace HM := Lib.hid (show Mem w [blkE w.heap.size 46 (h0.map u32v)] (w2.setCell ⟨w.heap.size, 0, none⟩ (.int .u32 (V.toNat : Int))) from by
    have h := HM.out.setCell 0 rfl 0 (u32v V)
    rw [← List.map_set, HFE.out] at h
    exact h)
  clear HFE HFB
  generalize w2.setCell ⟨w.heap.size, 0, none⟩ (.int .u32 (V.toNat : Int)) = w3 at HM ⊢
  refine wp_region_held_drew (S := fun W' => Mem w [blkE w.heap.size 46 (h0.map u32v)] W') (by kernel_rfl) ((HM.out).drew) (fun hHeld => ?_)
  replace HM := Lib.hid HM.out.drew
  generalize w3.drew = wd1 at HM hHeld ⊢
  refine take_first (v := ?_) 1 rfl (by kernel_rfl) (by kernel_rfl) (by kernel_rfl) (fun _ _ _ h => h) (Or.inl ⟨by rfl, ?_⟩) (by assumption) ?_
  rotate_left
  · (intro w hSw; (try dsimp only at hSw); go_simp; try with_reducible rfl)
  (try simp only [Act.put, List.setIfInBounds_toArray, List.set_cons_zero, List.set_cons_succ])
  refine take_first (v := ?_) 2 rfl (by kernel_rfl) (by kernel_rfl) (by kernel_rfl) (fun _ _ _ h => h) (Or.inl ⟨by rfl, ?_⟩) (by assumption) ?_
  rotate_left
  · (intro w hSw; (try dsimp only at hSw); go_simp; try with_reducible rfl)
  (try simp only [Act.put, List.setIfInBounds_toArray, List.set_cons_zero, List.set_cons_succ])
  refine take_first (v := ?_) 6 rfl (by kernel_rfl) (by kernel_rfl) (by kernel_rfl) (fun _ _ _ h => h) (Or.inl ⟨by rfl, ?_⟩) (by assumption) ?_
  rotate_left
  · (intro w hSw; (try dsimp only at hSw); go_simp; try with_reducible rfl)
  (try simp only [Act.put, List.setIfInBounds_toArray, List.set_cons_zero, List.set_cons_succ])
  refine step_two 0 3 rfl rfl (by kernel_rfl) (fun K hK => ?_) (fun K hK => ?_)
  · clear hHeld
    refine step_load_blk rfl 46 (.tmp 8) rfl w.heap.size rfl 46 (h0.map u32v) (HM.out.blk 0 rfl) 8 44 Tryd.underlying46 (cellsSt h0 HH0.out) ?_
    rw [HCS.out.1]
    refine hK.out _ _ (HM.out) (fun hHeld => ?_)
    clear hK K
    (try simp only [Act.put, List.setIfInBounds_toArray, List.set_cons_zero, List.set_cons_succ])
    refine step_one 3 rfl (by kernel_rfl) (fun K hK => ?_)
    clear hHeld
    go_simp
    refine (MC.out _ (HM.out.arg HK.out) (HM.out.arg HD.out)).mono ?_
    rintro e wy2 ⟨Am, cm, rfl, hrm, hm1, hm2, hb⟩
    replace HM := Lib.hid (show Mem w [blkE w.heap.size 46 (h0.map u32v)] wy2 from HM.out.below hb)
    have HMS := Lib.hid (And.intro hrm (And.intro hm1 hm2))
    clear hrm hm1 hm2
    clear hb
    go_wp2_with fail
    refine hK.out _ _ (HM.out) (fun hHeld => ?_)
    clear hK K
    (try simp only [Act.put, List.setIfInBounds_toArray, List.set_cons_zero, List.set_cons_succ])
    refine step_one 4 rfl (by kernel_rfl) (fun K hK => ?_)
    clear hHeld
    go_simp
    refine (AC.out Am cm HMS.out.2.1 HMS.out.2.2 _ (HLV.out.below HM.out.bel) HMS.out.1).mono ?_
    rintro e wy3 ⟨rfl, hb⟩
    replace HM := Lib.hid (show Mem w [blkE w.heap.size 46 (h0.map u32v)] wy3 from HM.out.below hb)
    clear HMS
    clear hb
    go_wp2_with fail
    refine hK.out _ _ (HM.out) (fun hHeld => ?_)
    clear hK K
    (try simp only [Act.put, List.setIfInBounds_toArray, List.set_cons_zero, List.set_cons_succ])
    refine step_one 5 rfl (by kernel_rfl) (fun K hK => ?_)
    clear hHeld
    go_simp
    have hlo := HM.out.size
    refine (YC.out _).mono ?_
    rintro e wy4 ⟨g6, c6, rfl, hri, h61, h62, hb⟩
    replace HM := Lib.hid (show Mem w [blkE w.heap.size 46 (h0.map u32v)] wy4 from HM.out.below hb)
    have HRI := Lib.hid (hri.lo hlo)
    clear hlo
    have HC6 := Lib.hid (And.intro h61 h62)
    have hc6 : (size : Int) ≤ (c6 : Int) := by omega
    clear hri h61 h62
    clear hb
    go_wp2_with fail
    refine hK.out _ _ (HM.out) (fun hHeld => ?_)
    clear hK K
    (try simp only [Act.put, List.setIfInBounds_toArray, List.set_cons_zero, List.set_cons_succ])
    refine take_first (v := ?_) 7 rfl (by kernel_rfl) (by kernel_rfl) (by kernel_rfl) (fun _ _ _ h => h) (Or.inl ⟨by rfl, ?_⟩) (by assumption) ?_
    rotate_left
    · (intro w hSw; (try dsimp only at hSw); go_simp; try with_reducible rfl)
    (try simp only [Act.put, List.setIfInBounds_toArray, List.set_cons_zero, List.set_cons_succ])
    refine take_first (v := ?_) 8 rfl (by kernel_rfl) (by kernel_rfl) (by kernel_rfl) (fun _ _ _ h => h) (Or.inl ⟨by rfl, ?_⟩) (by assumption) ?_
    rotate_left
    · (intro w hSw; (try dsimp only at hSw); go_simp; try with_reducible rfl)
    (try simp only [Act.put, List.setIfInBounds_toArray, List.set_cons_zero, List.set_cons_succ])
    refine take_first (v := ?_) 9 rfl (by kernel_rfl) (by kernel_rfl) (by kernel_rfl) (fun _ _ _ h => h) (Or.inl ⟨by rfl, ?_⟩) (by assumption) ?_
    rotate_left
    · (intro w hSw; (try dsimp only at hSw); go_simp; try with_reducible rfl)
    (try simp only [Act.put, List.setIfInBounds_toArray, List.set_cons_zero, List.set_cons_succ])
    refine wpAnyH_done (by kernel_rfl) ?_ _
    have HF := Lib.hid (show RdIn w.heap.size wy4.heap.size (some ⟨g6, 0, none⟩) size (hashB size key data) wy4 ∧ size ≤ c6 ∧ c6 ≤ maxLen ∧ Below w.heap.size w wy4 from ⟨by rw [HE.out]; exact rdIn_take HRI.out (by omega), by have := HC6.out.1; omega, HC6.out.2, HM.out.bel⟩)
    clear HM hHeld HRI HC6 hc6
    go_wp2
    exact bodyPost_ret (results_tmp2 rfl _ _ _) rfl ⟨_, c6, rfl, HF.out.1, HF.out.2.1, HF.out.2.2.1, HF.out.2.2.2⟩
  · clear hHeld
    go_simp
    refine (MC.out _ (HM.out.arg HK.out) (HM.out.arg HD.out)).mono ?_
    rintro e wy2 ⟨Am, cm, rfl, hrm, hm1, hm2, hb⟩
    replace HM := Lib.hid (show Mem w [blkE w.heap.size 46 (h0.map u32v)] wy2 from HM.out.below hb)
    have HMS := Lib.hid (And.intro hrm (And.intro hm1 hm2))
    clear hrm hm1 hm2
    clear hb
    go_wp2_with fail
    refine hK.out _ _ (HM.out) (fun hHeld => ?_)
    clear hK K
    (try simp only [Act.put, List.setIfInBounds_toArray, List.set_cons_zero, List.set_cons_succ])
    refine step_one 0 rfl (by kernel_rfl) (fun K hK => ?_)
    clear hHeld
    refine step_load_blk rfl 46 (.tmp 8) rfl w.heap.size rfl 46 (h0.map u32v) (HM.out.blk 0 rfl) 8 44 Tryd.underlying46 (cellsSt h0 HH0.out) ?_
    rw [HCS.out.1]
    refine hK.out _ _ (HM.out) (fun hHeld => ?_)
    clear hK K
    (try simp only [Act.put, List.setIfInBounds_toArray, List.set_cons_zero, List.set_cons_succ])
    refine step_one 4 rfl (by kernel_rfl) (fun K hK => ?_)
    clear hHeld
    go_simp
    refine (AC.out Am cm HMS.out.2.1 HMS.out.2.2 _ (HLV.out.below HM.out.bel) HMS.out.1).mono ?_
    rintro e wy3 ⟨rfl, hb⟩
    replace HM := Lib.hid (show Mem w [blkE w.heap.size 46 (h0.map u32v)] wy3 from HM.out.below hb)
    clear HMS
    clear hb
    go_wp2_with fail
    refine hK.out _ _ (HM.out) (fun hHeld => ?_)
    clear hK K
    (try simp only [Act.put, List.setIfInBounds_toArray, List.set_cons_zero, List.set_cons_succ])
    refine step_one 5 rfl (by kernel_rfl) (fun K hK => ?_)
    clear hHeld
    go_simp
    have hlo := HM.out.size
    refine (YC.out _).mono ?_
    rintro e wy4 ⟨g6, c6, rfl, hri, h61, h62, hb⟩
    replace HM := Lib.hid (show Mem w [blkE w.heap.size 46 (h0.map u32v)] wy4 from HM.out.below hb)
    have HRI := Lib.hid (hri.lo hlo)
    clear hlo
    have HC6 := Lib.hid (And.intro h61 h62)
    have hc6 : (size : Int) ≤ (c6 : Int) := by omega
    clear hri h61 h62
    clear hb
    go_wp2_with fail
    refine hK.out _ _ (HM.out) (fun hHeld => ?_)
    clear hK K
    (try simp only [Act.put, List.setIfInBounds_toArray, List.set_cons_zero, List.set_cons_succ])
    refine take_first (v := ?_) 7 rfl (by kernel_rfl) (by kernel_rfl) (by kernel_rfl) (fun _ _ _ h => h) (Or.inl ⟨by rfl, ?_⟩) (by assumption) ?_
    rotate_left
    · (intro w hSw; (try dsimp only at hSw); go_simp; try with_reducible rfl)
    (try simp only [Act.put, List.setIfInBounds_toArray, List.set_cons_zero, List.set_cons_succ])
    refine take_first (v := ?_) 8 rfl (by kernel_rfl) (by kernel_rfl) (by kernel_rfl) (fun _ _ _ h => h) (Or.inl ⟨by rfl, ?_⟩) (by assumption) ?_
    rotate_left
    · (intro w hSw; (try dsimp only at hSw); go_simp; try with_reducible rfl)
    (try simp only [Act.put, List.setIfInBounds_toArray, List.set_cons_zero, List.set_cons_succ])
    refine take_first (v := ?_) 9 rfl (by kernel_rfl) (by kernel_rfl) (by kernel_rfl) (fun _ _ _ h => h) (Or.inl ⟨by rfl, ?_⟩) (by assumption) ?_
    rotate_left
    · (intro w hSw; (try dsimp only at hSw); go_simp; try with_reducible rfl)
    (try simp only [Act.put, List.setIfInBounds_toArray, List.set_cons_zero, List.set_cons_succ])
    refine wpAnyH_done (by kernel_rfl) ?_ _
    have HF := Lib.hid (show RdIn w.heap.size wy4.heap.size (some ⟨g6, 0, none⟩) size (hashB size key data) wy4 ∧ size ≤ c6 ∧ c6 ≤ maxLen ∧ Below w.heap.size w wy4 from ⟨by rw [HE.out]; exact rdIn_take HRI.out (by omega), by have := HC6.out.1; omega, HC6.out.2, HM.out.bel⟩)
    clear HM hHeld HRI HC6 hc6
    go_wp2
    exact bodyPost_ret (results_tmp2 rfl _ _ _) rfl ⟨_, c6, rfl, HF.out.1, HF.out.2.1, HF.out.2.2.1, HF.out.2.2.2⟩

set_option maxRecDepth 100000 in
set_option maxHeartbeats 8000000 in
theorem blSumC : BlSumC := by
  intro size hz1 hz2 Ak Ad nk ck nd cd key data hkc hkm hdc hdm hnk hnd w hlv hrk hrd
  have hkl : key.length = nk := hrk.1
  by_cases h1 : size < 1
  · have hsb : sumB size key data = ([], 1) := by rw [sumB, if_pos (.inl h1)]
    have s1 : decide (size < 1) = true := by simpa using h1
    rw [hsb]
    have HB := Lib.hid (Below.refl w.heap.size w)
    clear hsb hrk hrd hlv
    go_enter Tryd.func19, Tryd.ntmps19
    go_wp2_with fail
    first | exact bodyPost_ret (results_tmp2 rfl _ _ _) rfl ⟨_, 0, rfl, ⟨rfl, fun h => absurd h (by simp)⟩, Nat.zero_le _, Nat.zero_le _, HB.out⟩ | exact bodyPost_ret (results_tmp2 rfl _ _ _) rfl ⟨_, 0, rfl, ⟨rfl, fun h => absurd h (by simp)⟩, Nat.zero_le _, HB.out⟩
  · by_cases h2 : 32 < size
    · have hsb : sumB size key data = ([], 1) := by rw [sumB, if_pos (.inr (.inl h2))]
      have s1 : decide (size < 1) = false := by simpa using h1
      have s2 : decide (size > 32) = true := by simpa using h2
      rw [hsb]
      have HB := Lib.hid (Below.refl w.heap.size w)
      clear hsb hrk hrd hlv
      go_enter Tryd.func19, Tryd.ntmps19
      go_wp2_with fail
      first | exact bodyPost_ret (results_tmp2 rfl _ _ _) rfl ⟨_, 0, rfl, ⟨rfl, fun h => absurd h (by simp)⟩, Nat.zero_le _, Nat.zero_le _, HB.out⟩ | exact bodyPost_ret (results_tmp2 rfl _ _ _) rfl ⟨_, 0, rfl, ⟨rfl, fun h => absurd h (by simp)⟩, Nat.zero_le _, HB.out⟩
    · by_cases h3 : 32 < nk
      · have hsb : sumB size key data = ([], 1) := by rw [sumB, if_pos (.inr (.inr (by omega)))]
        have s1 : decide (size < 1) = false := by simpa using h1
        have s2 : decide (size > 32) = false := by simpa using h2
        have s3 : decide ((nk : Int) > 32) = true := by simp; omega
        rw [hsb]
        have HB := Lib.hid (Below.refl w.heap.size w)
        clear hsb hrk hrd hlv
        go_enter Tryd.func19, Tryd.ntmps19
        go_wp2_with fail
        first | exact bodyPost_ret (results_tmp2 rfl _ _ _) rfl ⟨_, 0, rfl, ⟨rfl, fun h => absurd h (by simp)⟩, Nat.zero_le _, Nat.zero_le _, HB.out⟩ | exact bodyPost_ret (results_tmp2 rfl _ _ _) rfl ⟨_, 0, rfl, ⟨rfl, fun h => absurd h (by simp)⟩, Nat.zero_le _, HB.out⟩
      · obtain ⟨n, rfl⟩ : ∃ n : Nat, size = (n : Int) := ⟨size.toNat, by omega⟩
        have hsb : sumB (n : Int) key data = (hashB n key data, 0) := by rw [sumB, if_neg (by omega)]; rfl
        rw [hsb]
        refine (bpSum_ok n (by omega) (by omega) Ak Ad nk ck nd cd key data (by omega) hdc hdm (by omega) w hlv hrk hrd).mono ?_
        rintro e w' ⟨A, c', rfl, h⟩
        have hl := hashB_length n key data (by omega)
        rw [← hl] at h
        refine ⟨A, c', ?_, ?_⟩
        · dsimp only
          rw [hl]
          rfl
        · dsimp only
          rw [hl] at h ⊢
          exact h
end Go.Proofs.YtbochejgjmjieaaDoor
