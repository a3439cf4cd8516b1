/-
  The contracts of blake.messageOf, bytesOf and Sum. What is asked of blake.Sum, Hash and Code holds of the landed functions. The contract of the program's derive. What is asked of blake.Code. What is asked of blake.Code holds of the landed function. What is asked of Mac1 holds of the landed function; the contract of its mac2. The contract of the program's codePlaces. A result in a variable and one in a block. No statement is proved here.
-/
import Derived.Test.YtlddafkikkaonaaGreatDoorMacsRepliesB15
namespace Go.Proofs.YtlddafkikkaonaaGreatDoor
open Go.RowKit
theorem rdIn_of_own {W : World} {B n c : Nat} {A : Option Addr} {l : List UInt8} (ho : W.ownsRow B 5 1 (.slice A n c) n (l.map u8v)) : RdIn B W.heap.size A n l W := by
 have hr := Rd.of_own ho
 refine ⟨hr.1, fun hn => ?_⟩
 obtain ⟨b, off, e, h1, hc⟩ := hr.2 hn
 subst e
 exact ⟨b, off, rfl, (ho.lt b rfl).1, h1, hc⟩
theorem rdIn_take {W : World} {lo hi n m : Nat} {A : Option Addr} {l : List UInt8} (h : RdIn lo hi A n l W) (hm : m ≤ n) : RdIn lo hi A m (l.take m) W := by
 have hl := h.1
 refine ⟨by rw [List.length_take]; omega, fun h0 => ?_⟩
 obtain ⟨b, off, e, h1, h2, hc⟩ := h.2 (by omega)
 refine ⟨b, off, e, h1, h2, fun j hj => ?_⟩
 rw [List.length_take] at hj
 rw [hc j (by omega), List.getElem_take]
theorem RdIn.lo {W : World} {lo hi lo' n : Nat} {A : Option Addr} {l : List UInt8} (h : RdIn lo hi A n l W) (hl : lo' ≤ lo) : RdIn lo' hi A n l W := by
 refine ⟨h.1, fun h0 => ?_⟩
 obtain ⟨b, off, e, h1, h2, hc⟩ := h.2 h0
 exact ⟨b, off, e, Nat.le_trans hl h1, h2, hc⟩
theorem bp_index_word {P : Program} (t e : TypeId) (n : Nat) (ht : P.underlying t = some (.array n e)) (he : P.underlying e = some (.int .u32)) {i : TypeInfo} (hi : P.info? e = some i) (hs : i.size = 1) (l : List UInt32) (hl : l.length = n) (q : Nat) (hq : q < n) (w : World) :
 (Instr.index t (.agg (l.map u32v).toArray) (.int .i64 (q : Int))).run P w = .ok (.int .u32 ((wd l q).toNat : Int)) w := by
 have hg : l[q]? = some (wd l q) := by
  rw [List.getElem?_eq_getElem (by omega)]
  simp [wd, List.getD, show q < l.length by omega]
 simp [Instr.index, asIntOf, run_underlying ht, part, isAgg, run_underlying he, sizeOf, typeInfo, hi, hs, hq, hg, u32v]
theorem bp_info32 : ∃ i, Tryz.prog.info? 28 = some i ∧ i.size = 1 := by
 have h : (Tryz.prog.info? 28).map (·.size) = some 1 := by kernel_rfl
 cases hi : Tryz.prog.info? 28 with
 | none => rw [hi] at h; cases h
 | some i => rw [hi] at h; exact ⟨i, rfl, by simpa using h⟩
theorem keyB_to64 (key : List UInt8) (h : key ≠ []) : keyB key = to64 key := by rw [keyB, if_neg h]; rfl
set_option maxRecDepth 100000 in
set_option maxHeartbeats 8000000 in
theorem bpMessage_any (Ak Ad : Option Addr) (nk ck nd cd : Nat) (key data : List UInt8) (hnk : nk ≤ 32) (hdc : nd ≤ cd) (hdm : cd ≤ maxLen) (hnd : nd ≤ 400000) (w : World) (hrk : Rd w w.heap.size Ak nk key) (hrd : Rd w w.heap.size Ad nd data) :
 Calls Tryz.prog 76 #[.slice Ak nk ck, .slice Ad nd cd] w fun e w' => ∃ A c', e = .returned (.slice A (msgB key data).length c') ∧ Rd w' w'.heap.size A (msgB key data).length (msgB key data) ∧ (msgB key data).length ≤ c' ∧ c' ≤ maxLen ∧ Below w.heap.size w w' := by
 have hkl : key.length = nk := hrk.1
 have hdl : data.length = nd := hrd.1
 by_cases hk0 : nk = 0
 ·
  have hnil : key = [] := List.eq_nil_of_length_eq_zero (by omega)
  have hmsg : msgB key data = data := by rw [msgB, keyB, if_pos hnil]; rfl
  rw [hmsg, hdl]
  have HF := Lib.hid (And.intro hrd (Below.refl w.heap.size w))
  have d0 : decide ((nk : Int) = 0) = true := by simp; omega
  have d1 : ((nk : Int) == 0) = true := by rw [beq_iff_eq]; omega
  clear hmsg hrk hrd hnil hkl hdl hnd hnk
  subst hk0
  go_enter Tryz.func76, Tryz.ntmps76
  go_wp2
  go_ret
  exact ⟨Ad, cd, rfl, HF.out.1, hdc, hdm, HF.out.2⟩
 ·
  have hne : key ≠ [] := by intro e; subst e; simp at hkl; omega
  have hmsg : msgB key data = to64 key ++ data := by rw [msgB, keyB_to64 _ hne]
  have HKL := Lib.hid (to64_length key (by omega))
  rw [hmsg]
  have hml : (to64 key ++ data).length = 64 + nd := by rw [List.length_append, HKL.out, hdl]
  rw [hml]
  have HP := Lib.hid (putL_zeros key (by omega))
  have HMLE := Lib.hid hml
  obtain ⟨tk, htk⟩ : ∃ x, to64 key = x := ⟨_, rfl⟩
  rw [htk] at HKL HP HMLE ⊢
  have HM := Lib.hid (show Mem w [blkE w.heap.size 89 ((List.replicate 64 (0 : UInt8)).map u8v)] (w.alloc (.cells zb64 89)) from (Mem.nil w).alloc rfl 89 zb64 ((List.replicate 64 (0 : UInt8)).map u8v) rfl)
  have HK := Lib.hid hrk
  have HD := Lib.hid hrd
  have d1 : ((nk : Int) == 0) = false := by rw [beq_eq_false_iff_ne]; omega
  clear hmsg hml htk hrk hrd hne hkl
  go_enter Tryz.func76, Tryz.ntmps76
  go_upto_region 4 with fail
  generalize w.alloc (.cells zb64 89) = w1 at HM ⊢
  go_upto_region 5 with (refine wpList_copy_rd _ rfl (.tmp 10) (.tmp 11) 29 29 rfl 5 Tryz.underlying29 (by kernel_rfl) w.heap.size 64 64 Ak nk ck rfl rfl (List.replicate 64 (0 : UInt8)) 89 (HM.out.blk 0 rfl) _ key (HM.out.arg HK.out) (by omega) (by simp) ?_; intro w2 hb hg)
  rw [HP.out] at hb
  replace HM := Lib.hid (show Mem w [blkE w.heap.size 89 (tk.map u8v)] w2 from HM.out.put 0 rfl _ hg hb)
  clear hb hg HP HK
  replace HM := Lib.hid (show Mem w [blkE w2.heap.size 29 [.slice (some ⟨w.heap.size, 0, none⟩) 64 64, .slice Ad nd cd], blkE w.heap.size 89 (tk.map u8v)] (w2.alloc (.cells #[.slice (some ⟨w.heap.size, 0, none⟩) 64 64, .slice Ad nd cd] 29)) from HM.out.alloc rfl 29 _ _ rfl)
  go_wp2_with fail
  generalize w2.alloc (.cells #[.slice (some ⟨w.heap.size, 0, none⟩) 64 64, .slice Ad nd cd] 29) = w3 at HM ⊢
  generalize w2.heap.size = Q at HM ⊢
  have hf : flat [(⟨some ⟨w.heap.size, 0, none⟩, 64, 64, tk⟩ : Part), ⟨Ad, nd, cd, data⟩] 2 = tk ++ data := by simp [flat]
  have JC := coJoin_any w3.heap.size 2 (some ⟨Q, 0, none⟩) [⟨some ⟨w.heap.size, 0, none⟩, 64, 64, tk⟩, ⟨Ad, nd, cd, data⟩] (by simp) (by show (flat _ 2).length ≤ _; rw [hf, HMLE.out]; omega) w3 (Nat.le_refl _) (parts_blk [⟨some ⟨w.heap.size, 0, none⟩, 64, 64, tk⟩, ⟨Ad, nd, cd, data⟩] (HM.out.blk 0 rfl) (fun p hp => by
   simp only [List.mem_cons, List.not_mem_nil, or_false] at hp
   rcases hp with rfl | rfl
   · exact blk_all (HM.out.blk 1 rfl) HKL.out
   · exact HM.out.arg HD.out))
  rw [show ([(⟨some ⟨w.heap.size, 0, none⟩, 64, 64, tk⟩ : Part), ⟨Ad, nd, cd, data⟩]).length = 2 from rfl, hf, HMLE.out] at JC
  refine JC.mono ?_
  rintro e w4 ⟨A4, c4, rfl, ho, hb⟩
  have HF := Lib.hid (show Rd w4 w4.heap.size A4 (64 + nd) (tk ++ data) ∧ 64 + nd ≤ c4 ∧ c4 ≤ maxLen ∧ Below w.heap.size w w4 from ⟨Rd.of_own ho, (own_addr ho).1, (own_addr ho).2.1, (HM.out.below hb).bel⟩)
  clear JC hf ho hb HM HD
  go_wp2
  go_ret
  exact ⟨A4, c4, rfl, HF.out.1, HF.out.2.1, HF.out.2.2.1, HF.out.2.2.2⟩
set_option maxRecDepth 100000 in
set_option maxHeartbeats 8000000 in
theorem bpBytes_any (hs : List UInt32) (hh : hs.length = 8) (w : World) :
 Calls Tryz.prog 74 #[.agg (hs.map u32v).toArray] w fun e w' => ∃ g c, e = .returned (.slice (some ⟨g, 0, none⟩) 32 c) ∧ RdIn w.heap.size w'.heap.size (some ⟨g, 0, none⟩) 32 (hs.flatMap fun x => littleL x.toNat 4) w' ∧ 32 ≤ c ∧ c ≤ maxLen ∧ Below w.heap.size w w' := by
 obtain ⟨i0, hi, hz0, hz1, hz2⟩ := info_parts Tryz.info5
 have HIX := Lib.hid (show ∀ (q : Nat), q < 8 → ∀ w' : World, (Instr.index 100 (.agg (hs.map u32v).toArray) (.int .i64 (q : Int))).run Tryz.prog w' = .ok (.int .u32 ((wd hs q).toNat : Int)) w' from fun q hq w' => bp_index_word 100 28 8 Tryz.underlying100 Tryz.underlying28 bp_info32.choose_spec.1 bp_info32.choose_spec.2 hs hh q hq w')
 obtain ⟨ch, hch⟩ : ∃ x, (hs.map u32v).toArray = x := ⟨_, rfl⟩
 rw [hch] at HIX ⊢
 have HM := Lib.hid (show Mem w [blkE w.heap.size 100 (hs.map u32v)] (w.alloc (.cells ch 100)) from (Mem.nil w).alloc rfl 100 ch (hs.map u32v) hch.symm)
 have HHS := Lib.hid hh
 have HCH := Lib.hid hch
 clear hch hh
 go_enter Tryz.func74, Tryz.ntmps74
 go_upto_region 1 with fail
 generalize w.alloc (.cells ch 100) = w1 at HM ⊢
 have HB := Lib.hid HM.out.fix
 obtain ⟨B, hB⟩ : ∃ B, w1.heap.size = B := ⟨_, rfl⟩
 rw [hB] at HB
 have HBB := Lib.hid (show w.heap.size ≤ B by rw [← hB]; exact HM.out.size)
 go_upto_region 2 with (refine wpList_make_own _ rfl (.const (.int .i64 0)) (.const (.int .i64 32)) 29 rfl B 5 i0 (.int .u8 0) 1 Tryz.underlying29 hi hz0 hz1 .i64 .i64 32 32 rfl rfl rfl (by rw [hz2]; omega) (by unfold maxLen; omega) (by rw [hB]; exact Nat.le_refl _) ?_; intro w2 hown hg; rw [hB] at hown)
 have HO := Lib.hid (And.intro hown (HB.out.below ((Below.refl _ _).grown hg (by rw [hB]; exact Nat.le_refl _) (by simp))))
 clear hown hg HB HM
 go_wp2_with (refine wpList_load_blk rfl 100 (.tmp 1) rfl w.heap.size rfl 100 (hs.map u32v) (HO.out.2.mem.blk 0 rfl) 8 28 Tryz.underlying100 (cellsSt hs HHS.out) ?_; rw [HCH.out])
 go_loopw [8, 3, 5] (fun i v _ wx => ∃ q : Nat, q ≤ 8 ∧ i = .int .i64 (q : Int) ∧ wx.ownsRow B 5 1 v (4 * q) (((hs.take q).flatMap fun x => littleL x.toNat 4).map u8v) ∧ MemB w B [blkE w.heap.size 100 (hs.map u32v)] wx) (fun i _ _ _ => 8 - (intOf i).toNat)
 case atStart => exact ⟨0, by omega, rfl, HO.out.1, HO.out.2⟩
 case round =>
  clear HO
  obtain ⟨q, hq, rfl, hown, hb⟩ := hrel
  obtain ⟨A6, c6, rfl, _⟩ := own_slice hown
  have HO := Lib.hid (And.intro hown hb)
  clear hown hb
  by_cases hq8 : q < 8
  ·
   have d8 : decide ((q : Int) < 8) = true := by simp; omega
   have hix := HIX.out q hq8
   obtain ⟨X, hX⟩ : ∃ x, wd hs q = x := ⟨_, rfl⟩
   rw [hX] at hix
   have hcv : IntKind.u64.wrap (X.toNat : Int) = (X.toNat : Int) := by have := X.toNat_lt; rw [IntKind.wrap_u64]; omega
   have HX := Lib.hid hX
   clear hX
   go_wp2_with fail
   rw [show (4 : Int) = ((4 : Nat) : Int) from rfl]
   refine (little_any X.toNat (by have := X.toNat_lt; omega) 4 (by omega) (by omega) _).mono ?_
   rintro e w7 ⟨rfl, ho, hb⟩
   have HLT := Lib.hid (Rd.of_own ho)
   have hbB : Below B wr w7 := hb.mono HO.out.2.2.2
   have HO2 := Lib.hid (And.intro (own_below HO.out.1 hb) (HO.out.2.below hbB))
   clear ho hb hbB hix hcv HO
   go_wp2_with (refine wpList_append_rd _ rfl (.tmp 11) (.tmp 14) 29 rfl B 5 i0 (.int .u8 0) Tryz.underlying29 hi hz0 hz1 hz2 rfl (.slice A6 (4 * q) c6) (4 * q) _ rfl HO2.out.1 _ _ _ _ (littleL X.toNat 4) rfl HLT.out (by omega) HO2.out.2.2.2 ?_; intro v8 w8 hown8 hg8)
   have HW := Lib.hid (show w8.ownsRow B 5 1 v8 (4 * (q + 1)) (((hs.take (q + 1)).flatMap fun x => littleL x.toNat 4).map u8v) ∧ MemB w B [blkE w.heap.size 100 (hs.map u32v)] w8 from ⟨by
    rw [List.take_succ_eq_append_getElem (by rw [HHS.out]; exact hq8), List.flatMap_append, List.map_append]
    have e : hs[q]'(by rw [HHS.out]; exact hq8) = X := by
     have h := HX.out
     rw [wd, List.getD_eq_getElem?_getD, List.getElem?_eq_getElem (by rw [HHS.out]; exact hq8)] at h
     exact h
    rw [e, show 4 * (q + 1) = 4 * q + 4 by omega]
    simpa using hown8, HO2.out.2.grown HO2.out.1 hg8⟩)
   clear hown8 hg8 HO2 HLT
   go_wp2
   go_roundw
   case rel => exact ⟨q + 1, by omega, by go_num, HW.out.1, HW.out.2⟩
   case measure => simp [intOf]; omega
  ·
   obtain rfl : q = 8 := by omega
   have hown := HO.out.1
   rw [List.take_of_length_le (by rw [HHS.out]; omega)] at hown
   obtain ⟨g6, rfl⟩ := (own_addr hown).2.2 (by omega)
   have HF := Lib.hid (show RdIn w.heap.size wr.heap.size (some ⟨g6, 0, none⟩) 32 (hs.flatMap fun x => littleL x.toNat 4) wr ∧ 32 ≤ c6 ∧ c6 ≤ maxLen ∧ Below w.heap.size w wr from ⟨(rdIn_of_own hown).lo HBB.out, (own_addr hown).1, (own_addr hown).2.1, HO.out.2.mem.bel⟩)
   clear hown HO
   rw [show ((8 : Nat) : Int) = 8 from rfl]
   go_wp2
   go_ret
   exact ⟨g6, c6, rfl, HF.out.1, HF.out.2.1, HF.out.2.2.1, HF.out.2.2.2⟩
set_option maxRecDepth 100000 in
set_option maxHeartbeats 16000000 in
theorem bpSum_ok (size : Nat) (hs1 : 1 ≤ size) (hs2 : size ≤ 32) (Ak Ad : Option Addr) (nk ck nd cd : Nat) (key data : List UInt8) (hnk : nk ≤ 32) (hdc : nd ≤ cd) (hdm : cd ≤ maxLen) (hnd : nd ≤ 400000) (w : World) (hlv : LvBlake w) (hrk : Rd w w.heap.size Ak nk key) (hrd : Rd w w.heap.size Ad nd data) :
 Calls Tryz.prog 54 #[.int .i64 (size : Int), .slice Ak nk ck, .slice Ad nd cd] w fun e w' => ∃ A c', e = .returned (.tuple #[.slice A size c', .int .i64 0]) ∧ RdIn w.heap.size w'.heap.size A size (hashB size key data) w' ∧ size ≤ c' ∧ c' ≤ maxLen ∧ Below w.heap.size w w' := by
 have HK := Lib.hid hrk
 have HD := Lib.hid hrd
 have HKL := Lib.hid hrk.1
 have HLV := Lib.hid hlv
 have s1 : decide ((size : Int) < 1) = false := by simp; omega
 have s2 : decide ((size : Int) > 32) = false := by simp; omega
 have s3 : decide ((nk : Int) > 32) = false := by simp; omega
 obtain ⟨ti, hti⟩ := hlv.1
 have HTI := Lib.hid hti
 obtain ⟨ci, hci⟩ : ∃ c, (ivW.map u32v).toArray = c := ⟨_, rfl⟩
 have HCI := Lib.hid hci
 have MC := Lib.hid (fun (w' : World) h1 h2 => bpMessage_any Ak Ad nk ck nd cd key data hnk hdc hdm hnd w' h1 h2)
 have hmn : (msgB key data).length ≤ 500000 := by
  have h1 := hrk.1
  have h2 := hrd.1
  rw [msgB, List.length_append, keyB]
  split
  · simp; omega
  · rw [List.length_append, List.length_replicate]; omega
 obtain ⟨h0, hh0⟩ : ∃ x, firstB size nk = x := ⟨_, rfl⟩
 have HH0 := Lib.hid (show h0.length = 8 by rw [← hh0]; exact firstB_length _ _)
 have HFB := Lib.hid hh0
 obtain ⟨ml, hml⟩ : ∃ x, msgB key data = x := ⟨_, rfl⟩
 obtain ⟨hz, hhz⟩ : ∃ x, statesB h0 (fillB ml) ml.length ((fillB ml).length / 64) ((fillB ml).length / 64) = x := ⟨_, rfl⟩
 have HHZ := Lib.hid (show hz.length = 8 by rw [← hhz]; exact statesB_length _ _ _ _ HH0.out _)
 have HE := Lib.hid (show hashB size key data = ((hz.flatMap fun x => littleL x.toNat 4)).take size by rw [hashB, hml, HKL.out, hh0, hhz])
 rw [hml] at MC hmn
 have AC := Lib.hid (fun (A : Option Addr) (c : Nat) (h1 : ml.length ≤ c) (h2 : c ≤ maxLen) (w' : World) (hv : LvBlake w') hr => bpAbsorb_any h0 HH0.out A ml.length c ml h1 h2 hmn w' hv hr)
 rw [hhz] at AC
 obtain ⟨cs, hcs⟩ : ∃ x, (h0.map u32v).toArray = x := ⟨_, rfl⟩
 obtain ⟨cz, hcz⟩ : ∃ x, (hz.map u32v).toArray = x := ⟨_, rfl⟩
 have YC := Lib.hid (fun w' : World => bpBytes_any hz HHZ.out w')
 rw [hcs, hcz] at AC
 rw [hcz] at YC
 have HCS := Lib.hid (And.intro hcs hcz)
 generalize ml.length = n at MC AC
 clear hrk hrd hlv hti hci hh0 hml hhz hcs hcz hmn
 go_enter Tryz.func54, Tryz.ntmps54
 go_upto_region 3 with fail
 clear s1 s2 s3
 have HA := Lib.hid ((Mem.nil w).alloc rfl 100 zw8_ (zw 8) rfl)
 go_upto_region 4 with (first | (refine wpList_load_blk rfl 100 (.global 0) rfl 0 rfl ti (ivW.map u32v) HTI.out 8 28 Tryz.underlying100 (cellsSt ivW rfl) ?_; rw [HCI.out]) | (refine wpList_store_blk rfl 100 (.tmp 8) (.tmp 20) rfl w.heap.size (ivW.map u32v) rfl (by show Value.agg ci = _; rw [HCI.out]) 100 (zw 8) (HA.out.blk 0 rfl) (cellsSt ivW rfl) rfl (u32v_one _) ?_; intro w2 hb3 hg3))
 have HM := Lib.hid (show Mem w [blkE w.heap.size 100 (ivW.map u32v)] w2 from HA.out.put 0 rfl _ hg3 hb3)
 clear hb3 hg3 HA HCI HTI
 have fx := (HM.out.blk 0 rfl).word 0 (by decide)
 have zx := (HM.out.blk 0 rfl).frozen 0
 obtain ⟨I0, hI0⟩ : ∃ x, wd ivW 0 = x := ⟨_, rfl⟩
 rw [hI0] at fx
 obtain ⟨A1, hA1⟩ : ∃ x, (0x01010000 : UInt32) ^^^ UInt32.ofNat (nk * 256) = x := ⟨_, rfl⟩
 obtain ⟨A2, hA2⟩ : ∃ x, A1 ^^^ UInt32.ofNat size = x := ⟨_, rfl⟩
 obtain ⟨V, hV⟩ : ∃ x, I0 ^^^ A2 = x := ⟨_, rfl⟩
 have x1 : bits BinOp.xor IntKind.u32 16842752 ((nk : Int) * 256) = (A1.toNat : Int) := by
  rw [← hA1, ← u32_xor, UInt32.toNat_ofNat', Nat.mod_eq_of_lt (by omega), Int.natCast_mul]
  rfl
 have x2 : bits BinOp.xor IntKind.u32 (A1.toNat : Int) (size : Int) = (A2.toNat : Int) := by
  rw [← hA2, ← u32_xor, UInt32.toNat_ofNat', Nat.mod_eq_of_lt (by omega)]
 have x3 : bits BinOp.xor IntKind.u32 (I0.toNat : Int) (A2.toNat : Int) = (V.toNat : Int) := by rw [← hV, ← u32_xor]
 have y1 : IntKind.u32.wrap (nk : Int) = (nk : Int) := by rw [IntKind.wrap_u32]; omega
 have y2 : IntKind.u32.wrap ((nk : Int) * 256) = (nk : Int) * 256 := by rw [IntKind.wrap_u32]; omega
 have y3 : IntKind.u32.wrap (size : Int) = (size : Int) := by rw [IntKind.wrap_u32]; omega
 have HFE := Lib.hid (show ivW.set 0 V = h0 by rw [← HFB.out, firstB, hI0, hA1, hA2, hV])
 clear hI0 hA1 hA2 hV
 go_upto_region 5 with fail
 clear fx zx x1 x2 x3 y1 y2 y3
 replace HM := Lib.hid (show Mem w [blkE w.heap.size 100 (h0.map u32v)] (w2.setCell ⟨w.heap.size, 0, none⟩ (.int .u32 (V.toNat : Int))) from by
  have h := HM.out.setCell 0 rfl 0 (u32v V)
  rw [← List.map_set, HFE.out] at h
  exact h)
 clear HFE HFB
 generalize w2.setCell ⟨w.heap.size, 0, none⟩ (.int .u32 (V.toNat : Int)) = w3 at HM ⊢
 refine wp_region_held_drew (S := fun W' => Mem w [blkE w.heap.size 100 (h0.map u32v)] W') (by kernel_rfl) ((HM.out).drew) (fun hHeld => ?_)
 replace HM := Lib.hid HM.out.drew
 generalize w3.drew = wd1 at HM hHeld ⊢
 refine tf (v := ?_) 1 rfl (Or.inl ⟨by rfl, ?_⟩) ?_
 rotate_left
 · (intro w hSw; (try dsimp only at hSw); go_simp; try with_reducible rfl)
 (try simp only [Act.put, sA, s0, s1])
 refine tf (v := ?_) 2 rfl (Or.inl ⟨by rfl, ?_⟩) ?_
 rotate_left
 · (intro w hSw; (try dsimp only at hSw); go_simp; try with_reducible rfl)
 (try simp only [Act.put, sA, s0, s1])
 refine tf (v := ?_) 6 rfl (Or.inl ⟨by rfl, ?_⟩) ?_
 rotate_left
 · (intro w hSw; (try dsimp only at hSw); go_simp; try with_reducible rfl)
 (try simp only [Act.put, sA, s0, s1])
 refine step_two 0 3 rfl rfl (by kernel_rfl) (fun K hK => ?_) (fun K hK => ?_)
 ·
  clear hHeld
  refine step_load_blk rfl 100 (.tmp 8) rfl w.heap.size rfl 100 (h0.map u32v) (HM.out.blk 0 rfl) 8 28 Tryz.underlying100 (cellsSt h0 HH0.out) ?_
  rw [HCS.out.1]
  refine hK.out _ _ (HM.out) (fun hHeld => ?_)
  clear hK K
  (try simp only [Act.put, sA, s0, s1])
  refine so 3 rfl fun K hK => ?_
  clear hHeld
  go_simp
  refine (MC.out _ (HM.out.arg HK.out) (HM.out.arg HD.out)).mono ?_
  rintro e wy2 ⟨Am, cm, rfl, hrm, hm1, hm2, hb⟩
  replace HM := Lib.hid (show Mem w [blkE w.heap.size 100 (h0.map u32v)] wy2 from HM.out.below hb)
  have HMS := Lib.hid (And.intro hrm (And.intro hm1 hm2))
  clear hrm hm1 hm2
  clear hb
  go_wp2_with fail
  refine hK.out _ _ (HM.out) (fun hHeld => ?_)
  clear hK K
  (try simp only [Act.put, sA, s0, s1])
  refine so 4 rfl fun K hK => ?_
  clear hHeld
  go_simp
  refine (AC.out Am cm HMS.out.2.1 HMS.out.2.2 _ (HLV.out.below HM.out.bel) HMS.out.1).mono ?_
  rintro e wy3 ⟨rfl, hb⟩
  replace HM := Lib.hid (show Mem w [blkE w.heap.size 100 (h0.map u32v)] wy3 from HM.out.below hb)
  clear HMS
  clear hb
  go_wp2_with fail
  refine hK.out _ _ (HM.out) (fun hHeld => ?_)
  clear hK K
  (try simp only [Act.put, sA, s0, s1])
  refine so 5 rfl fun K hK => ?_
  clear hHeld
  go_simp
  have hlo := HM.out.size
  refine (YC.out _).mono ?_
  rintro e wy4 ⟨g6, c6, rfl, hri, h61, h62, hb⟩
  replace HM := Lib.hid (show Mem w [blkE w.heap.size 100 (h0.map u32v)] wy4 from HM.out.below hb)
  have HRI := Lib.hid (hri.lo hlo)
  clear hlo
  have HC6 := Lib.hid (And.intro h61 h62)
  have hc6 : (size : Int) ≤ (c6 : Int) := by omega
  clear hri h61 h62
  clear hb
  go_wp2_with fail
  refine hK.out _ _ (HM.out) (fun hHeld => ?_)
  clear hK K
  (try simp only [Act.put, sA, s0, s1])
  refine tf (v := ?_) 7 rfl (Or.inl ⟨by rfl, ?_⟩) ?_
  rotate_left
  · (intro w hSw; (try dsimp only at hSw); go_simp; try with_reducible rfl)
  (try simp only [Act.put, sA, s0, s1])
  refine tf (v := ?_) 8 rfl (Or.inl ⟨by rfl, ?_⟩) ?_
  rotate_left
  · (intro w hSw; (try dsimp only at hSw); go_simp; try with_reducible rfl)
  (try simp only [Act.put, sA, s0, s1])
  refine tf (v := ?_) 9 rfl (Or.inl ⟨by rfl, ?_⟩) ?_
  rotate_left
  · (intro w hSw; (try dsimp only at hSw); go_simp; try with_reducible rfl)
  (try simp only [Act.put, sA, s0, s1])
  refine wpAnyH_done (by kernel_rfl) ?_ _
  have HF := Lib.hid (show RdIn w.heap.size wy4.heap.size (some ⟨g6, 0, none⟩) size (hashB size key data) wy4 ∧ size ≤ c6 ∧ c6 ≤ maxLen ∧ Below w.heap.size w wy4 from ⟨by rw [HE.out]; exact rdIn_take HRI.out (by omega), by have := HC6.out.1; omega, HC6.out.2, HM.out.bel⟩)
  clear HM hHeld HRI HC6 hc6
  go_wp2
  exact bodyPost_ret (results_tmp2 rfl _ _ _) rfl ⟨_, c6, rfl, HF.out.1, HF.out.2.1, HF.out.2.2.1, HF.out.2.2.2⟩
 ·
  clear hHeld
  go_simp
  refine (MC.out _ (HM.out.arg HK.out) (HM.out.arg HD.out)).mono ?_
  rintro e wy2 ⟨Am, cm, rfl, hrm, hm1, hm2, hb⟩
  replace HM := Lib.hid (show Mem w [blkE w.heap.size 100 (h0.map u32v)] wy2 from HM.out.below hb)
  have HMS := Lib.hid (And.intro hrm (And.intro hm1 hm2))
  clear hrm hm1 hm2
  clear hb
  go_wp2_with fail
  refine hK.out _ _ (HM.out) (fun hHeld => ?_)
  clear hK K
  (try simp only [Act.put, sA, s0, s1])
  refine so 0 rfl fun K hK => ?_
  clear hHeld
  refine step_load_blk rfl 100 (.tmp 8) rfl w.heap.size rfl 100 (h0.map u32v) (HM.out.blk 0 rfl) 8 28 Tryz.underlying100 (cellsSt h0 HH0.out) ?_
  rw [HCS.out.1]
  refine hK.out _ _ (HM.out) (fun hHeld => ?_)
  clear hK K
  (try simp only [Act.put, sA, s0, s1])
  refine so 4 rfl fun K hK => ?_
  clear hHeld
  go_simp
  refine (AC.out Am cm HMS.out.2.1 HMS.out.2.2 _ (HLV.out.below HM.out.bel) HMS.out.1).mono ?_
  rintro e wy3 ⟨rfl, hb⟩
  replace HM := Lib.hid (show Mem w [blkE w.heap.size 100 (h0.map u32v)] wy3 from HM.out.below hb)
  clear HMS
  clear hb
  go_wp2_with fail
  refine hK.out _ _ (HM.out) (fun hHeld => ?_)
  clear hK K
  (try simp only [Act.put, sA, s0, s1])
  refine so 5 rfl fun K hK => ?_
  clear hHeld
  go_simp
  have hlo := HM.out.size
  refine (YC.out _).mono ?_
  rintro e wy4 ⟨g6, c6, rfl, hri, h61, h62, hb⟩
  replace HM := Lib.hid (show Mem w [blkE w.heap.size 100 (h0.map u32v)] wy4 from HM.out.below hb)
  have HRI := Lib.hid (hri.lo hlo)
  clear hlo
  have HC6 := Lib.hid (And.intro h61 h62)
  have hc6 : (size : Int) ≤ (c6 : Int) := by omega
  clear hri h61 h62
  clear hb
  go_wp2_with fail
  refine hK.out _ _ (HM.out) (fun hHeld => ?_)
  clear hK K
  (try simp only [Act.put, sA, s0, s1])
  refine tf (v := ?_) 7 rfl (Or.inl ⟨by rfl, ?_⟩) ?_
  rotate_left
  · (intro w hSw; (try dsimp only at hSw); go_simp; try with_reducible rfl)
  (try simp only [Act.put, sA, s0, s1])
  refine tf (v := ?_) 8 rfl (Or.inl ⟨by rfl, ?_⟩) ?_
  rotate_left
  · (intro w hSw; (try dsimp only at hSw); go_simp; try with_reducible rfl)
  (try simp only [Act.put, sA, s0, s1])
  refine tf (v := ?_) 9 rfl (Or.inl ⟨by rfl, ?_⟩) ?_
  rotate_left
  · (intro w hSw; (try dsimp only at hSw); go_simp; try with_reducible rfl)
  (try simp only [Act.put, sA, s0, s1])
  refine wpAnyH_done (by kernel_rfl) ?_ _
  have HF := Lib.hid (show RdIn w.heap.size wy4.heap.size (some ⟨g6, 0, none⟩) size (hashB size key data) wy4 ∧ size ≤ c6 ∧ c6 ≤ maxLen ∧ Below w.heap.size w wy4 from ⟨by rw [HE.out]; exact rdIn_take HRI.out (by omega), by have := HC6.out.1; omega, HC6.out.2, HM.out.bel⟩)
  clear HM hHeld HRI HC6 hc6
  go_wp2
  exact bodyPost_ret (results_tmp2 rfl _ _ _) rfl ⟨_, c6, rfl, HF.out.1, HF.out.2.1, HF.out.2.2.1, HF.out.2.2.2⟩
set_option maxRecDepth 100000 in
set_option maxHeartbeats 8000000 in
theorem blSumC : BlSumC := by
 intro size hz1 hz2 Ak Ad nk ck nd cd key data hkc hkm hdc hdm hnk hnd w hlv hrk hrd
 have hkl : key.length = nk := hrk.1
 by_cases h1 : size < 1
 ·
  have hsb : sumB size key data = ([], 1) := by rw [sumB, if_pos (.inl h1)]
  have s1 : decide (size < 1) = true := by simpa using h1
  rw [hsb]
  have HB := Lib.hid (Below.refl w.heap.size w)
  clear hsb hrk hrd hlv
  go_enter Tryz.func54, Tryz.ntmps54
  go_wp2_with fail
  first | exact bodyPost_ret (results_tmp2 rfl _ _ _) rfl ⟨_, 0, rfl, ⟨rfl, fun h => absurd h (by simp)⟩, Nat.zero_le _, Nat.zero_le _, HB.out⟩ | exact bodyPost_ret (results_tmp2 rfl _ _ _) rfl ⟨_, 0, rfl, ⟨rfl, fun h => absurd h (by simp)⟩, Nat.zero_le _, HB.out⟩
 ·
  by_cases h2 : 32 < size
  ·
   have hsb : sumB size key data = ([], 1) := by rw [sumB, if_pos (.inr (.inl h2))]
   have s1 : decide (size < 1) = false := by simpa using h1
   have s2 : decide (size > 32) = true := by simpa using h2
   rw [hsb]
   have HB := Lib.hid (Below.refl w.heap.size w)
   clear hsb hrk hrd hlv
   go_enter Tryz.func54, Tryz.ntmps54
   go_wp2_with fail
   first | exact bodyPost_ret (results_tmp2 rfl _ _ _) rfl ⟨_, 0, rfl, ⟨rfl, fun h => absurd h (by simp)⟩, Nat.zero_le _, Nat.zero_le _, HB.out⟩ | exact bodyPost_ret (results_tmp2 rfl _ _ _) rfl ⟨_, 0, rfl, ⟨rfl, fun h => absurd h (by simp)⟩, Nat.zero_le _, HB.out⟩
  ·
   by_cases h3 : 32 < nk
   ·
    have hsb : sumB size key data = ([], 1) := by rw [sumB, if_pos (.inr (.inr (by omega)))]
    have s1 : decide (size < 1) = false := by simpa using h1
    have s2 : decide (size > 32) = false := by simpa using h2
    have s3 : decide ((nk : Int) > 32) = true := by simp; omega
    rw [hsb]
    have HB := Lib.hid (Below.refl w.heap.size w)
    clear hsb hrk hrd hlv
    go_enter Tryz.func54, Tryz.ntmps54
    go_wp2_with fail
    first | exact bodyPost_ret (results_tmp2 rfl _ _ _) rfl ⟨_, 0, rfl, ⟨rfl, fun h => absurd h (by simp)⟩, Nat.zero_le _, Nat.zero_le _, HB.out⟩ | exact bodyPost_ret (results_tmp2 rfl _ _ _) rfl ⟨_, 0, rfl, ⟨rfl, fun h => absurd h (by simp)⟩, Nat.zero_le _, HB.out⟩
   ·
    obtain ⟨n, rfl⟩ : ∃ n : Nat, size = (n : Int) := ⟨size.toNat, by omega⟩
    have hsb : sumB (n : Int) key data = (hashB n key data, 0) := by rw [sumB, if_neg (by omega)]; rfl
    rw [hsb]
    refine (bpSum_ok n (by omega) (by omega) Ak Ad nk ck nd cd key data (by omega) hdc hdm (by omega) w hlv hrk hrd).mono ?_
    rintro e w' ⟨A, c', rfl, h⟩
    have hl := hashB_length n key data (by omega)
    rw [← hl] at h
    refine ⟨A, c', ?_, ?_⟩
    ·
     dsimp only
     rw [hl]
     rfl
    ·
     dsimp only
     rw [hl] at h ⊢
     exact h
theorem putHash (dl : List UInt8) : ∃ r x, sumB 32 [] dl = (r, x) ∧ r.length ≤ 32 ∧ putL (List.replicate 32 (0 : UInt8)) 0 r = hashB 32 [] dl := by
 refine ⟨hashB 32 [] dl, 0, by rw [sumB, if_neg (by simp)]; rfl, by rw [hashB_length _ _ _ (by omega)]; omega, ?_⟩
 rw [putL, List.take_zero, List.nil_append, hashB_length _ _ _ (by omega), show (List.replicate 32 (0 : UInt8)).drop (0 + 32) = [] from rfl, List.append_nil]
set_option maxRecDepth 100000 in
set_option maxHeartbeats 4000000 in
theorem blHashC : BlHashC := by
 intro c A ps ok hpc hcm w hlv hp
 have HM := Lib.hid (show Mem w [blkE (w.heap.size + 1) 23 ((List.replicate 32 (0 : UInt8)).map u8v), blkE w.heap.size 23 (aeZ 32)] ((w.alloc (.cells zb32 23)).alloc (.cells zb32 23)) from ((Mem.nil w).alloc rfl 23 zb32 (aeZ 32) rfl).alloc (by simp) 23 zb32 ((List.replicate 32 (0 : UInt8)).map u8v) rfl)
 have HLV := Lib.hid hlv
 have hp1 : PartsRd ((w.alloc (.cells zb32 23)).alloc (.cells zb32 23)) w.heap.size A ps := fun h0 => by
  obtain ⟨g, e, hg, hc⟩ := hp h0
  exact ⟨g, e, hg, fun j hj => ⟨(World.cell?_alloc_lt _ _ _ (by simp; omega)).trans ((World.cell?_alloc_lt w _ _ hg).trans (hc j hj).1), ((hc j hj).2.alloc (Nat.le_refl _) _).alloc (by simp) _⟩⟩
 have ht := ok.2.1
 have JC := Lib.hid (coJoin_any w.heap.size c A ps (by have := ok.1; omega) (by omega) _ (by simp; omega) hp1)
 obtain ⟨dl, hdl⟩ : ∃ l, flat ps ps.length = l := ⟨_, rfl⟩
 rw [hdl] at JC ht ⊢
 clear hdl hp hp1 ok
 obtain ⟨nd, hnd⟩ : ∃ n, dl.length = n := ⟨_, rfl⟩
 rw [hnd] at JC ht
 obtain ⟨np, hnp⟩ : ∃ n, ps.length = n := ⟨_, rfl⟩
 rw [hnp] at JC hpc ⊢
 clear hnp hnd hlv
 obtain ⟨r, x, hsum, hrl, hput⟩ := putHash dl
 have HHL := Lib.hid (hashB_length 32 [] dl (by omega))
 obtain ⟨hl, hhl⟩ : ∃ l, hashB 32 [] dl = l := ⟨_, rfl⟩
 rw [hhl] at HHL hput ⊢
 have HSE := Lib.hid hsum
 have HRL := Lib.hid hrl
 have HP := Lib.hid hput
 obtain ⟨co, hco⟩ : ∃ c, (hl.map u8v).toArray = c := ⟨_, rfl⟩
 have HCO := Lib.hid hco
 rw [hco]
 clear hhl hsum hrl hput hco
 go_enter Tryz.func29, Tryz.ntmps29
 go_upto_region 2 with fail
 generalize ((w.alloc (.cells zb32 23)).alloc (.cells zb32 23)) = w1 at HM JC ⊢
 go_wp2_with fail
 refine JC.out.mono ?_
 rintro e w2 ⟨A2, c2, rfl, ho, hb⟩
 have h2 := (own_addr ho).1
 have h2m := (own_addr ho).2.1
 replace HM := Lib.hid (HM.out.callRd hb ho)
 clear ho hb JC
 go_wp2_with fail
 refine (blSumC 32 (by omega) (by omega) none A2 0 0 nd c2 [] dl (Nat.le_refl _) (Nat.zero_le _) h2 h2m (by omega) (by omega) _ (HLV.out.below HM.out.bel) (Rd.nil _ _ _) (HM.out.rd 0 rfl)).mono ?_
 rintro e w3 ⟨A3, c3, rfl, hr, _, _, hb⟩
 rw [HSE.out] at hr ⊢
 dsimp only at hr ⊢
 replace HM := Lib.hid (HM.out.below hb)
 have HR := Lib.hid (RdIn.rd hr)
 clear hr hb h2 h2m
 go_upto_region 4 with (refine wpList_copy_rd _ rfl (.tmp 12) (.tmp 13) 29 29 rfl 5 Tryz.underlying29 (by kernel_rfl) (w.heap.size + 1) 32 32 A3 r.length c3 rfl rfl (List.replicate 32 (0 : UInt8)) 23 (HM.out.blk 1 rfl) _ r HR.out HRL.out (by simp) ?_; intro w4 hb hg; rw [HP.out] at hb)
 replace HM := Lib.hid (show Mem w [rdE w1.heap.size w2.heap.size A2 nd dl, blkE (w.heap.size + 1) 23 (hl.map u8v), blkE w.heap.size 23 (aeZ 32)] w4 from HM.out.put 1 rfl _ hg hb)
 clear hb hg HP HR HRL HSE
 go_wp2_with (first | (refine wpList_load_blk rfl 23 (.tmp 3) rfl (w.heap.size + 1) rfl 23 (hl.map u8v) (HM.out.blk 1 rfl) 32 5 Tryz.underlying23 (cells32 hl HHL.out) ?_; rw [HCO.out]) | (refine wpList_store_blk rfl 23 (.tmp 2) (.tmp 15) rfl w.heap.size (hl.map u8v) rfl (by show Value.agg co = _; rw [HCO.out]) 23 (aeZ 32) (HM.out.blk 2 rfl) (cells32 hl HHL.out) (by rw [List.length_map, HHL.out]; rfl) (u8v_one _) ?_; intro w9 hb9 hg9))
 exact bodyPost_ret (results_blk rfl _ _ w.heap.size 23 (hl.map u8v) 32 5 rfl hb9 Tryz.underlying23 (cells32 hl HHL.out)) rfl ⟨by rw [HCO.out], (HM.out.put 2 rfl _ hg9 hb9).bel⟩
set_option maxRecDepth 100000 in
set_option maxHeartbeats 8000000 in
theorem derive_any (s : ByteArray) (lab : List UInt8) (hs : s.data.toList = lab) (hl : s.size = 8) (p : List UInt8) (hp : p.length = 32) (w : World) (hlv : LvBlake w) :
 Calls Tryz.prog 14 #[.string s, .agg (p.map u8v).toArray] w fun e w' => e = .returned (.agg ((hashB 32 [] (lab ++ p)).map u8v).toArray) ∧ Below w.heap.size w w' := by
 have HP := Lib.hid hp
 have HLV := Lib.hid hlv
 have HS := Lib.hid hs
 have hll : lab.length = 8 := by rw [← hs, ← hl]; exact Array.length_toList
 have HL := Lib.hid (And.intro hl hll)
 obtain ⟨cp, hcp⟩ : ∃ z, (p.map u8v).toArray = z := ⟨_, rfl⟩
 rw [hcp]
 have HM := Lib.hid (show Mem w [blkE (w.heap.size + 1) 23 ((List.replicate 32 (0 : UInt8)).map u8v), blkE w.heap.size 23 (p.map u8v)] ((w.alloc (.cells cp 23)).alloc (.cells zb32 23)) from ((Mem.nil w).alloc rfl 23 cp (p.map u8v) hcp.symm).alloc (by simp) 23 zb32 ((List.replicate 32 (0 : UInt8)).map u8v) rfl)
 clear hcp hp hlv hs hl hll
 go_enter Tryz.func14, Tryz.ntmps14
 go_upto_region 1 with fail
 generalize (w.alloc (.cells cp 23)).alloc (.cells zb32 23) = w1 at HM ⊢
 have kc := run_text
 go_wp2_with fail
 clear kc
 obtain ⟨cap, hcap⟩ : ∃ z, grownCap w1 s.size 0 5 = z := ⟨_, rfl⟩
 have HC := Lib.hid (show 8 ≤ cap ∧ cap ≤ maxLen from by rw [← hcap, HL.out.1]; exact ⟨grownCap_ge _ _ _ _, grownCap_le_maxLen _ _ _ _ (by decide)⟩)
 rw [hcap, HL.out.1]
 clear hcap
 replace HM := Lib.hid (HM.out.call (text_below w1 s) (rdE w1.heap.size (Lib.bytesWorld w1 5 s).heap.size (some ⟨w1.heap.size, 0, none⟩) 8 lab) rfl rfl (text_in w1 s lab HS.out 8 HL.out.1))
 replace HM := Lib.hid (HM.out.alloc rfl 29 #[.slice (some ⟨w1.heap.size, 0, none⟩) 8 cap, .slice (some ⟨w.heap.size, 0, none⟩) 32 32] [.slice (some ⟨w1.heap.size, 0, none⟩) 8 cap, .slice (some ⟨w.heap.size, 0, none⟩) 32 32] rfl)
 generalize (Lib.bytesWorld w1 5 s).alloc (.cells #[.slice (some ⟨w1.heap.size, 0, none⟩) 8 cap, .slice (some ⟨w.heap.size, 0, none⟩) 32 32] 29) = w3 at HM ⊢
 generalize (Lib.bytesWorld w1 5 s).heap.size = g3 at HM ⊢
 generalize w1.heap.size = g2 at HM ⊢
 have hps := parts_rd (g := g3) (t := 29) (ps := [⟨(some ⟨g2, 0, none⟩), 8, cap, lab⟩, ⟨(some ⟨w.heap.size, 0, none⟩), 32, 32, p⟩]) (HM.out.blk 0 rfl) (by
  intro x hx
  simp only [List.mem_cons, List.not_mem_nil, or_false] at hx
  rcases hx with rfl | rfl
  · exact (HM.out.rd 1 rfl)
  · exact blk_all (HM.out.blk 3 rfl) HP.out)
 have hfl : flat [⟨(some ⟨g2, 0, none⟩), 8, cap, lab⟩, ⟨(some ⟨w.heap.size, 0, none⟩), 32, 32, p⟩] 2 = lab ++ p := by simp [flat]
 have HH := blHashC 2 (some ⟨g3, 0, none⟩) [⟨(some ⟨g2, 0, none⟩), 8, cap, lab⟩, ⟨(some ⟨w.heap.size, 0, none⟩), 32, 32, p⟩] ⟨by simp, by show (flat _ 2).length ≤ _; rw [hfl, List.length_append, HP.out, HL.out.2]; decide, by
  intro x hx
  simp only [List.mem_cons, List.not_mem_nil, or_false] at hx
  rcases hx with rfl | rfl
  · exact HC.out
  · exact ⟨Nat.le_refl _, (show 32 ≤ maxLen by decide)⟩⟩ (by simp) (by decide) w3 (HLV.out.below HM.out.bel) hps
 rw [show ([⟨(some ⟨g2, 0, none⟩), 8, cap, lab⟩, ⟨(some ⟨w.heap.size, 0, none⟩), 32, 32, p⟩] : List Part).length = 2 from rfl, hfl] at HH
 have HHH := Lib.hid HH
 obtain ⟨hk, hhk⟩ : ∃ z, hashB 32 [] (lab ++ p) = z := ⟨_, rfl⟩
 have HHL := Lib.hid (show hk.length = 32 from by rw [← hhk]; exact hashB_length 32 _ _ (by omega))
 rw [hhk] at HHH
 have HHE := Lib.hid hhk
 obtain ⟨ch, hch⟩ : ∃ z, (hk.map u8v).toArray = z := ⟨_, rfl⟩
 rw [hch] at HHH
 have HCH := Lib.hid hch
 clear HH hps hfl hch hhk
 refine HHH.out.mono ?_
 rintro e w4 ⟨rfl, hb⟩
 replace HM := Lib.hid (show Mem w [blkE (w.heap.size + 1) 23 ((List.replicate 32 (0 : UInt8)).map u8v), blkE w.heap.size 23 (p.map u8v)] w4 from ((HM.out.below hb).erase 0).erase 0)
 clear hb HHH
 go_wp2_with (refine wpList_store_blk rfl 23 (.tmp 4) (.tmp 9) rfl (w.heap.size + 1) (hk.map u8v) rfl (by show Value.agg ch = _; rw [HCH.out]) 23 ((List.replicate 32 (0 : UInt8)).map u8v) (HM.out.blk 0 rfl) (cells32 hk HHL.out) (by rw [List.length_map, List.length_map, HHL.out]; rfl) (u8v_one _) ?_; intro w9 hb hg)
 exact bodyPost_ret (results_blk rfl _ _ (w.heap.size + 1) 23 (hk.map u8v) 32 5 rfl hb Tryz.underlying23 (cells32 hk HHL.out)) rfl ⟨by rw [HHE.out], (HM.out.put 0 rfl _ hg hb).bel⟩
theorem tagCells (l : List UInt8) (h : l.length = 16) : (Tryz.prog.info? 27).map (·.size) = some (l.map u8v).length := by
 rw [List.length_map, h]; kernel_rfl
def BlCodeC : Prop := ∀ (Ak : Option Addr) (nk ck : Nat) (key : List UInt8), nk ≤ ck → ck ≤ maxLen → nk ≤ 1000 → ∀ (c : Nat) (A : Option Addr) (ps : List Part), PartsOk ps → ps.length ≤ c → c ≤ maxLen → ∀ w : World, LvBlake w → Rd w w.heap.size Ak nk key → PartsRd w w.heap.size A ps →
 Calls Tryz.prog 60 #[.slice Ak nk ck, .slice A ps.length c] w fun e w' => e = .returned (.agg ((codeB key (flat ps ps.length)).map u8v).toArray) ∧ Below w.heap.size w w'
theorem putCode (key dl : List UInt8) : ∃ r x, sumB 16 key dl = (r, x) ∧ r.length ≤ 16 ∧ putL (List.replicate 16 (0 : UInt8)) 0 r = codeB key dl := by
 by_cases h : 32 < key.length
 ·
  refine ⟨[], 1, by rw [sumB, if_pos (.inr (.inr h))], by simp, ?_⟩
  rw [putL_nil, codeB, if_pos h]
 ·
  refine ⟨hashB 16 key dl, 0, by rw [sumB, if_neg (by omega)]; rfl, by rw [hashB_length _ _ _ (by omega)]; omega, ?_⟩
  rw [codeB, if_neg h, putL, List.take_zero, List.nil_append, hashB_length _ _ _ (by omega), show (List.replicate 16 (0 : UInt8)).drop (0 + 16) = [] from rfl, List.append_nil]
set_option maxRecDepth 100000 in
set_option maxHeartbeats 4000000 in
theorem blCodeC : BlCodeC := by
 intro Ak nk ck key hkc hkm hnk c A ps ok hpc hcm w hlv hrk hp
 have HM := Lib.hid (show Mem w [blkE (w.heap.size + 1) 27 ((List.replicate 16 (0 : UInt8)).map u8v), blkE w.heap.size 27 (aeZ 16)] ((w.alloc (.cells zb16 27)).alloc (.cells zb16 27)) from ((Mem.nil w).alloc rfl 27 zb16 (aeZ 16) rfl).alloc (by simp) 27 zb16 ((List.replicate 16 (0 : UInt8)).map u8v) rfl)
 have HLV := Lib.hid hlv
 have HK := Lib.hid hrk
 have hp1 : PartsRd ((w.alloc (.cells zb16 27)).alloc (.cells zb16 27)) w.heap.size A ps := fun h0 => by
  obtain ⟨g, e, hg, hc⟩ := hp h0
  exact ⟨g, e, hg, fun j hj => ⟨(World.cell?_alloc_lt _ _ _ (by simp; omega)).trans ((World.cell?_alloc_lt w _ _ hg).trans (hc j hj).1), ((hc j hj).2.alloc (Nat.le_refl _) _).alloc (by simp) _⟩⟩
 have ht := ok.2.1
 have JC := Lib.hid (coJoin_any w.heap.size c A ps (by have := ok.1; omega) (by omega) _ (by simp; omega) hp1)
 obtain ⟨dl, hdl⟩ : ∃ l, flat ps ps.length = l := ⟨_, rfl⟩
 rw [hdl] at JC ht ⊢
 clear hdl hp hp1 ok
 obtain ⟨nd, hnd⟩ : ∃ n, dl.length = n := ⟨_, rfl⟩
 rw [hnd] at JC ht
 obtain ⟨np, hnp⟩ : ∃ n, ps.length = n := ⟨_, rfl⟩
 rw [hnp] at JC hpc ⊢
 clear hnp hnd hlv hrk
 obtain ⟨r, x, hsum, hrl, hput⟩ := putCode key dl
 have HHL := Lib.hid (codeB_length key dl)
 obtain ⟨hl, hhl⟩ : ∃ l, codeB key dl = l := ⟨_, rfl⟩
 rw [hhl] at HHL hput ⊢
 have HSE := Lib.hid hsum
 have HRL := Lib.hid hrl
 have HP := Lib.hid hput
 obtain ⟨co, hco⟩ : ∃ c, (hl.map u8v).toArray = c := ⟨_, rfl⟩
 have HCO := Lib.hid hco
 rw [hco]
 clear hhl hsum hrl hput hco
 go_enter Tryz.func60, Tryz.ntmps60
 go_upto_region 2 with fail
 generalize ((w.alloc (.cells zb16 27)).alloc (.cells zb16 27)) = w1 at HM JC ⊢
 go_wp2_with fail
 refine JC.out.mono ?_
 rintro e w2 ⟨A2, c2, rfl, ho, hb⟩
 have h2 := (own_addr ho).1
 have h2m := (own_addr ho).2.1
 replace HM := Lib.hid (HM.out.callRd hb ho)
 clear ho hb JC
 go_wp2_with fail
 refine (blSumC 16 (by omega) (by omega) Ak A2 nk ck nd c2 key dl hkc hkm h2 h2m (by omega) (by omega) _ (HLV.out.below HM.out.bel) (HM.out.arg HK.out) (HM.out.rd 0 rfl)).mono ?_
 rintro e w3 ⟨A3, c3, rfl, hr, _, _, hb⟩
 rw [HSE.out] at hr ⊢
 dsimp only at hr ⊢
 replace HM := Lib.hid (HM.out.below hb)
 have HR := Lib.hid (RdIn.rd hr)
 clear hr hb h2 h2m
 go_upto_region 4 with (refine wpList_copy_rd _ rfl (.tmp 15) (.tmp 16) 29 29 rfl 5 Tryz.underlying29 (by kernel_rfl) (w.heap.size + 1) 16 16 A3 r.length c3 rfl rfl (List.replicate 16 (0 : UInt8)) 27 (HM.out.blk 1 rfl) _ r HR.out HRL.out (by simp) ?_; intro w4 hb hg; rw [HP.out] at hb)
 replace HM := Lib.hid (show Mem w [rdE w1.heap.size w2.heap.size A2 nd dl, blkE (w.heap.size + 1) 27 (hl.map u8v), blkE w.heap.size 27 (aeZ 16)] w4 from HM.out.put 1 rfl _ hg hb)
 clear hb hg HP HR HRL HSE
 go_wp2_with (first | (refine wpList_load_blk rfl 27 (.tmp 5) rfl (w.heap.size + 1) rfl 27 (hl.map u8v) (HM.out.blk 1 rfl) 16 5 Tryz.underlying27 (tagCells hl HHL.out) ?_; rw [HCO.out]) | (refine wpList_store_blk rfl 27 (.tmp 4) (.tmp 18) rfl w.heap.size (hl.map u8v) rfl (by show Value.agg co = _; rw [HCO.out]) 27 (aeZ 16) (HM.out.blk 2 rfl) (tagCells hl HHL.out) (by rw [List.length_map, HHL.out]; rfl) (u8v_one _) ?_; intro w9 hb9 hg9))
 exact bodyPost_ret (results_blk rfl _ _ w.heap.size 27 (hl.map u8v) 16 5 rfl hb9 Tryz.underlying27 (tagCells hl HHL.out)) rfl ⟨by rw [HCO.out], (HM.out.put 2 rfl _ hg9 hb9).bel⟩
set_option maxRecDepth 100000 in
set_option maxHeartbeats 8000000 in
theorem mcMac1C : McMac1C 44 := by
 intro p hp A n c part hnc hcx hn w hlv hr
 have HR := Lib.hid hr
 have HP := Lib.hid hp
 have HLV := Lib.hid hlv
 have HN := Lib.hid (And.intro hnc (And.intro hcx hn))
 obtain ⟨cp, hcp⟩ : ∃ z, (p.map u8v).toArray = z := ⟨_, rfl⟩
 rw [hcp]
 have HM := Lib.hid (show Mem w [blkE (w.heap.size + 1) 27 ((List.replicate 16 (0 : UInt8)).map u8v), blkE w.heap.size 23 (p.map u8v)] ((w.alloc (.cells cp 23)).alloc (.cells zb16 27)) from ((Mem.nil w).alloc rfl 23 cp (p.map u8v) hcp.symm).alloc (by simp) 27 zb16 ((List.replicate 16 (0 : UInt8)).map u8v) rfl)
 have HCP := Lib.hid hcp
 clear hcp hr hp hlv hnc hcx hn
 go_enter Tryz.func44, Tryz.ntmps44
 go_upto_region 1 with fail
 generalize ((w.alloc (.cells cp 23)).alloc (.cells zb16 27)) = w1 at HM ⊢
 go_wp2_with (refine wpList_load_blk rfl 23 (.tmp 2) rfl w.heap.size rfl 23 (p.map u8v) (HM.out.blk 1 rfl) 32 5 Tryz.underlying23 (cells32 p HP.out) ?_)
 have HD := derive_any ⟨#[109, 97, 99, 49, 45, 45, 45, 45]⟩ macK rfl rfl p HP.out w1 (HLV.out.below HM.out.bel)
 obtain ⟨hk, hhk⟩ : ∃ z, hashB 32 [] (macK ++ p) = z := ⟨_, rfl⟩
 have HHL := Lib.hid (show hk.length = 32 from by rw [← hhk]; exact hashB_length 32 _ _ (by omega))
 rw [hhk] at HD
 obtain ⟨ch, hch⟩ : ∃ z, (hk.map u8v).toArray = z := ⟨_, rfl⟩
 rw [hch] at HD
 have HHH := Lib.hid HD
 have HCH := Lib.hid hch
 have HMAC := Lib.hid (show mac1B p part = codeB hk part from by rw [mac1B, hhk])
 clear HD hhk hch
 refine HHH.out.mono ?_
 rintro e w4 ⟨rfl, hb⟩
 replace HM := Lib.hid (show Mem w [blkE (w.heap.size + 1) 27 ((List.replicate 16 (0 : UInt8)).map u8v), blkE w.heap.size 23 (p.map u8v)] w4 from HM.out.below hb)
 clear hb HHH
 have HA := Lib.hid (show Mem w [blkE w4.heap.size 23 ((List.replicate 32 (0 : UInt8)).map u8v), blkE (w.heap.size + 1) 27 ((List.replicate 16 (0 : UInt8)).map u8v), blkE w.heap.size 23 (p.map u8v)] (w4.alloc (.cells zb32 23)) from HM.out.alloc rfl 23 zb32 ((List.replicate 32 (0 : UInt8)).map u8v) rfl)
 go_upto_region 2 with (refine wpList_store_blk rfl 23 (.tmp 5) (.tmp 7) rfl w4.heap.size (hk.map u8v) rfl (by show Value.agg ch = _; rw [HCH.out]) 23 ((List.replicate 32 (0 : UInt8)).map u8v) (HA.out.blk 0 rfl) (cells32 hk HHL.out) (by rw [List.length_map, List.length_map, HHL.out]; rfl) (u8v_one _) ?_; intro w5 hb hg)
 (try simp only [Act.put])
 have hm5 := HA.out.put 0 rfl _ hg hb
 generalize w4.heap.size = g5 at hm5 ⊢
 replace HM := Lib.hid (show Mem w [blkE g5 23 (hk.map u8v), blkE (w.heap.size + 1) 27 ((List.replicate 16 (0 : UInt8)).map u8v), blkE w.heap.size 23 (p.map u8v)] w5 from hm5)
 clear HA hb hg hm5
 go_wp2_with fail
 replace HM := Lib.hid (HM.out.alloc rfl 29 #[.slice A n c] [.slice A n c] rfl)
 generalize w5.alloc (.cells #[.slice A n c] 29) = w6 at HM ⊢
 generalize w5.heap.size = g6 at HM ⊢
 have hps := parts_rd (g := g6) (t := 29) (ps := [⟨A, n, c, part⟩]) (HM.out.blk 0 rfl) (by
  intro x hx
  simp only [List.mem_cons, List.not_mem_nil, or_false] at hx
  rcases hx with rfl
  exact HM.out.arg HR.out)
 have hfl : flat [⟨A, n, c, part⟩] 1 = part := by simp [flat]
 have HC := blCodeC (some ⟨g5, 0, none⟩) 32 32 hk (Nat.le_refl _) (by decide) (by omega) 1 (some ⟨g6, 0, none⟩) [⟨A, n, c, part⟩] ⟨by simp, by show (flat _ 1).length ≤ _; rw [hfl, HR.out.1]; exact HN.out.2.2, by
  intro x hx
  simp only [List.mem_cons, List.not_mem_nil, or_false] at hx
  rcases hx with rfl
  exact ⟨HN.out.1, HN.out.2.1⟩⟩ (by simp) (by decide) w6 (HLV.out.below HM.out.bel) (blk_all (HM.out.blk 1 rfl) HHL.out) hps
 rw [show ([⟨A, n, c, part⟩] : List Part).length = 1 from rfl, hfl, ← HMAC.out] at HC
 obtain ⟨mt, hmt⟩ : ∃ z, mac1B p part = z := ⟨_, rfl⟩
 have HML := Lib.hid (show mt.length = 16 from by rw [← hmt]; exact codeB_length _ _)
 rw [hmt] at HC
 have HMT := Lib.hid hmt
 obtain ⟨cm, hcm⟩ : ∃ z, (mt.map u8v).toArray = z := ⟨_, rfl⟩
 rw [hcm] at HC
 have HCM := Lib.hid hcm
 have HCC := Lib.hid HC
 clear HC hps hfl hmt hcm HMAC
 refine HCC.out.mono ?_
 rintro e w7 ⟨rfl, hb⟩
 replace HM := Lib.hid (show Mem w [blkE (w.heap.size + 1) 27 ((List.replicate 16 (0 : UInt8)).map u8v), blkE w.heap.size 23 (p.map u8v)] w7 from ((HM.out.below hb).erase 0).erase 0)
 clear hb HCC
 go_wp2_with (refine wpList_store_blk rfl 27 (.tmp 4) (.tmp 11) rfl (w.heap.size + 1) (mt.map u8v) rfl (by show Value.agg cm = _; rw [HCM.out]) 27 ((List.replicate 16 (0 : UInt8)).map u8v) (HM.out.blk 0 rfl) (ae_cellsT mt HML.out) (by rw [List.length_map, List.length_map, HML.out]; rfl) (u8v_one _) ?_; intro w9 hb hg)
 exact bodyPost_ret (results_blk rfl _ _ (w.heap.size + 1) 27 (mt.map u8v) 16 5 rfl hb Tryz.underlying27 (ae_cellsT mt HML.out)) rfl ⟨by rw [HMT.out], (HM.out.put 0 rfl _ hg hb).bel⟩
set_option maxRecDepth 100000 in
set_option maxHeartbeats 8000000 in
theorem mac2_any (ck : List UInt8) (hck : ck.length = 16) (A : Option Addr) (n c : Nat) (part : List UInt8) (hnc : n ≤ c) (hcx : c ≤ maxLen) (hn : n ≤ 100000) (w : World) (hlv : LvBlake w) (hr : Rd w w.heap.size A n part) :
 Calls Tryz.prog 59 #[.agg (ck.map u8v).toArray, .slice A n c] w fun e w' => e = .returned (.agg ((codeB ck part).map u8v).toArray) ∧ Below w.heap.size w w' := by
 have HR := Lib.hid hr
 have HK := Lib.hid hck
 have HLV := Lib.hid hlv
 have HN := Lib.hid (And.intro hnc (And.intro hcx hn))
 obtain ⟨cp, hcp⟩ : ∃ z, (ck.map u8v).toArray = z := ⟨_, rfl⟩
 rw [hcp]
 have HM := Lib.hid (show Mem w [blkE (w.heap.size + 1) 27 ((List.replicate 16 (0 : UInt8)).map u8v), blkE w.heap.size 27 (ck.map u8v)] ((w.alloc (.cells cp 27)).alloc (.cells zb16 27)) from ((Mem.nil w).alloc rfl 27 cp (ck.map u8v) hcp.symm).alloc (by simp) 27 zb16 ((List.replicate 16 (0 : UInt8)).map u8v) rfl)
 have HMAC := Lib.hid (Eq.refl (codeB ck part))
 clear hcp hr hck hlv hnc hcx hn
 go_enter Tryz.func59, Tryz.ntmps59
 go_upto_region 1 with fail
 generalize ((w.alloc (.cells cp 27)).alloc (.cells zb16 27)) = w5 at HM ⊢
 go_wp2_with fail
 replace HM := Lib.hid (HM.out.alloc rfl 29 #[.slice A n c] [.slice A n c] rfl)
 generalize w5.alloc (.cells #[.slice A n c] 29) = w6 at HM ⊢
 generalize w5.heap.size = g6 at HM ⊢
 have hps := parts_rd (g := g6) (t := 29) (ps := [⟨A, n, c, part⟩]) (HM.out.blk 0 rfl) (by
  intro x hx
  simp only [List.mem_cons, List.not_mem_nil, or_false] at hx
  rcases hx with rfl
  exact HM.out.arg HR.out)
 have hfl : flat [⟨A, n, c, part⟩] 1 = part := by simp [flat]
 have HC := blCodeC (some ⟨w.heap.size, 0, none⟩) 16 16 ck (Nat.le_refl _) (by decide) (by omega) 1 (some ⟨g6, 0, none⟩) [⟨A, n, c, part⟩] ⟨by simp, by show (flat _ 1).length ≤ _; rw [hfl, HR.out.1]; exact HN.out.2.2, by
  intro x hx
  simp only [List.mem_cons, List.not_mem_nil, or_false] at hx
  rcases hx with rfl
  exact ⟨HN.out.1, HN.out.2.1⟩⟩ (by simp) (by decide) w6 (HLV.out.below HM.out.bel) (blk_all (HM.out.blk 2 rfl) HK.out) hps
 rw [show ([⟨A, n, c, part⟩] : List Part).length = 1 from rfl, hfl] at HC
 obtain ⟨mt, hmt⟩ : ∃ z, codeB ck part = z := ⟨_, rfl⟩
 have HML := Lib.hid (show mt.length = 16 from by rw [← hmt]; exact codeB_length _ _)
 rw [hmt] at HC
 have HMT := Lib.hid hmt
 obtain ⟨cm, hcm⟩ : ∃ z, (mt.map u8v).toArray = z := ⟨_, rfl⟩
 rw [hcm] at HC
 have HCM := Lib.hid hcm
 have HCC := Lib.hid HC
 clear HC hps hfl hmt hcm HMAC
 refine HCC.out.mono ?_
 rintro e w7 ⟨rfl, hb⟩
 replace HM := Lib.hid (show Mem w [blkE (w.heap.size + 1) 27 ((List.replicate 16 (0 : UInt8)).map u8v), blkE w.heap.size 27 (ck.map u8v)] w7 from (HM.out.below hb).erase 0)
 clear hb HCC
 go_wp2_with (refine wpList_store_blk rfl 27 (.tmp 4) (.tmp 8) rfl (w.heap.size + 1) (mt.map u8v) rfl (by show Value.agg cm = _; rw [HCM.out]) 27 ((List.replicate 16 (0 : UInt8)).map u8v) (HM.out.blk 0 rfl) (ae_cellsT mt HML.out) (by rw [List.length_map, List.length_map, HML.out]; rfl) (u8v_one _) ?_; intro w9 hb hg)
 exact bodyPost_ret (results_blk rfl _ _ (w.heap.size + 1) 27 (mt.map u8v) 16 5 rfl hb Tryz.underlying27 (ae_cellsT mt HML.out)) rfl ⟨by rw [HMT.out], (HM.out.put 0 rfl _ hg hb).bel⟩
set_option maxRecDepth 100000 in
theorem codePlaces_any (A : Option Addr) (n c : Nat) (hn : n ≤ 100000) (w : World) :
 Calls Tryz.prog 43 #[.slice A n c] w fun e w' => e = .returned (.tuple #[.int .i64 ((n : Int) - 32), .int .i64 ((n : Int) - 16)]) ∧ Below w.heap.size w w' := by
 have e1 : IntKind.i64.wrap ((n : Int) - 16) = (n : Int) - 16 := IntWalk.i64_in _ (by omega)
 have e2 : IntKind.i64.wrap ((n : Int) - 16 - 16) = (n : Int) - 32 := by rw [IntWalk.i64_in _ (by omega)]; omega
 go_enter Tryz.func43, Tryz.ntmps43
 go_wp2
 go_ret2
 exact ⟨rfl, Below.refl _ _⟩
theorem results_tmp_obj {P : Program} {fn : Func} {p q : Tmp} {ty : TypeId} (h : fn.results = #[.tmp q, .cell p ty]) (tmps : Array Value) (w : World) (g : Nat) (t : TypeId) (cs : List Value) (d : TypeDesc)
 (hp : tmps.getD p undef = .pointer (some ⟨g, 0, none⟩)) (hg : Blk w g t cs) (hu : P.underlying ty = some d) (hd : isObj d = true) (hi : (P.info? ty).map (·.size) = some cs.length) :
 (results fn tmps).run P w = .ok (.tuple #[tmps.getD q undef, .agg cs.toArray]) w := by
 have hp' : tmps[p]?.getD undef = .pointer (some ⟨g, 0, none⟩) := by simpa using hp
 simp [results, h, hp', asAddr, run_load_obj w g 0 ty cs hg.all d hu hd hi]
end Go.Proofs.YtlddafkikkaonaaGreatDoor
