/-
  poly.Sum gives the authenticator: what the laws of layer 3 ask of it.
-/
import Derived.Test.YtkbefhmgcodpaaaSuFinish
import Derived.Test.YtkbefhmgcodpaaaSuOps
import Derived.Test.YtkbefhmgcodpaaaSuNumber
import Derived.Test.YtkbefhmgcodpaaaPoSumC
namespace Go.Proofs.Ytkbefhmgcodpaaa
open Go.RowKit

/-- one piece more -/
theorem acc_step (a : List Nat) (k data : List UInt8) (i : Nat) (hk : k.length = 32) (ht : tight a) (hv : val5 a % primeP = accI (rN k) data i) :
    tight (mulN (addS a (numP ((data.drop (16 * i)).take 16)) 5) (facN k)) ∧ val5 (mulN (addS a (numP ((data.drop (16 * i)).take 16)) 5) (facN k)) % primeP = accI (rN k) data (i + 1) := by
  have hlen : ((data.drop (16 * i)).take 16).length ≤ 16 := List.length_take_le 16 _
  obtain ⟨p, hp⟩ : ∃ p, (data.drop (16 * i)).take 16 = p := ⟨_, rfl⟩
  have hpi : pieceN data i = numL p + 256 ^ p.length := by rw [pieceN, hp]
  rw [hp] at hlen ⊢
  refine ⟨mulN_tight _ _ (sum_le a p ht hlen) (facN_le k), ?_⟩
  rw [mulN_val, addS_val _ _ ht.1, numP_val p hlen, facN_val k (by omega), accI, hpi]
  have e1 : (val5 a + (numL p + 256 ^ p.length)) % primeP = (accI (rN k) data i + (numL p + 256 ^ p.length)) % primeP := by
    rw [Nat.add_mod, hv, Nat.add_mod_mod]
  rw [Nat.mul_mod, e1, ← Nat.mul_mod]
theorem tight_zero : tight (List.replicate 5 0) ∧ val5 (List.replicate 5 0) % primeP = 0 := by
  have h0 : ∀ i, dg (List.replicate 5 0) i = 0 := fun i => by
    simp only [dg, List.getD, List.getElem?_replicate]
    split <;> simp
  refine ⟨⟨by simp, fun i => by rw [h0]; exact Nat.zero_le _⟩, ?_⟩
  have : val5 (List.replicate 5 0) = 0 := by
    unfold val5
    rw [sumTo_congr (g := fun _ => 0) 5 (fun i _ => by rw [h0, Nat.zero_mul]), sumTo_zero]
  rw [this, Nat.zero_mod]

set_option maxRecDepth 100000 in
set_option maxHeartbeats 8000000 in
theorem sumC : SumC := by
  intro k hk D n cap l hnc hcm hn1 w hr
  have FC := factor_any k hk
  obtain ⟨fl, hfl⟩ : ∃ fl, facN k = fl := ⟨_, rfl⟩
  have hfd : ∀ i, dg fl i ≤ 67108863 := by rw [← hfl]; exact facN_le k
  have hfll : fl.length = 5 := by rw [← hfl, facN, splitN_length]
  obtain ⟨ck, hck⟩ : ∃ ck, (k.map u8v).toArray = ck := ⟨_, rfl⟩
  obtain ⟨cf, hcf⟩ : ∃ cf, (fl.map lv).toArray = cf := ⟨_, rfl⟩
  rw [hck, hfl, hcf] at FC
  have FN := fun (a : List Nat) (ht : tight a) => finish_any a k ht hk
  rw [hck] at FN
  rw [hck]
  have h0 : Blk ((w.alloc (.cells ck 23)).alloc (.cells zT.toArray 54)) w.heap.size 23 (k.map u8v) := by rw [← hck]; exact (Blk.new w _ _).alloc _
  have h1 : Blk ((w.alloc (.cells ck 23)).alloc (.cells zT.toArray 54)) (w.heap.size + 1) 54 zT := Blk.new' _ (by simp) _ _
  have h2 : Below w.heap.size w ((w.alloc (.cells ck 23)).alloc (.cells zT.toArray 54)) := ((Below.refl _ _).alloc (Nat.le_refl _) _).alloc (by simp) _
  rw [zT_arr] at h0 h1 h2
  have HFC := Lib.hid FC
  have HFN := Lib.hid FN
  have HF := Lib.hid (And.intro hfl (And.intro hfd (And.intro hfll hcf)))
  have HK := Lib.hid (And.intro hk hck)
  have HR := Lib.hid hr
  clear FC FN hfl hfd hfll hcf hk hck hr
  go_enter Try.func44, Try.ntmps44
  go_upto_region 1 with fail
  generalize ((w.alloc (.cells ck 23)).alloc (.cells #[.int .u8 0, .int .u8 0, .int .u8 0, .int .u8 0, .int .u8 0, .int .u8 0, .int .u8 0, .int .u8 0, .int .u8 0, .int .u8 0, .int .u8 0, .int .u8 0, .int .u8 0, .int .u8 0, .int .u8 0, .int .u8 0] 54)) = w1 at h0 h1 h2 ⊢
  have H1 := Lib.hid (And.intro h0 (And.intro h1 h2))
  clear h0 h1 h2
  go_wp2_with (refine wpList_load_blk rfl 23 (.tmp 2) rfl w.heap.size rfl 23 (k.map u8v) H1.out.1 32 5 Try.underlying23 (cells32 k HK.out.1) ?_; rw [HK.out.2])
  refine (HFC.out _).mono ?_
  rintro e w2 ⟨rfl, hb2⟩
  have H2 := Lib.hid (And.intro (H1.out.1.below hb2 H1.out.1.lt) (And.intro (H1.out.2.1.below hb2 H1.out.2.1.lt) (H1.out.2.2.trans (hb2.mono H1.out.2.2.size))))
  clear hb2 H1
  go_upto_region 2 with (refine wpList_store_blk rfl 76 (.tmp 5) (.tmp 10) rfl w2.heap.size (fl.map lv) rfl (by show Value.agg cf = _; rw [HF.out.2.2.2]) 76 z5 (Blk.new w2 76 z5) (cells5 fl HF.out.2.2.1) (by rw [List.length_map, HF.out.2.2.1]; rfl) (lv_one _) ?_; intro w3 hb3 hg3)
  simp only [Act.put]
  have H3 := Lib.hid (show Blk w3 w2.heap.size 76 (fl.map lv) ∧ Blk w3 w.heap.size 23 (k.map u8v) ∧ Blk w3 (w.heap.size + 1) 54 zT ∧ Below w.heap.size w w3 from ⟨hb3, (H2.out.1.alloc _).grown hg3 (by have := H2.out.1.lt; simp; omega), (H2.out.2.1.alloc _).grown hg3 (by have := H2.out.2.1.lt; simp; omega), below_blk (H2.out.2.2.alloc H2.out.2.2.size _) hg3 H2.out.2.2.size⟩)
  have hP := H2.out.2.1.lt
  clear hb3 hg3 H2
  generalize w2.heap.size = P at H3 hP ⊢
  go_upto_region 3 with fail
  have hPQ := H3.out.1.lt
  have H4 := Lib.hid (show Blk (w3.alloc (.cells z5.toArray 76)) P 76 (fl.map lv) ∧ Blk (w3.alloc (.cells z5.toArray 76)) w3.heap.size 76 z5 ∧ Blk (w3.alloc (.cells z5.toArray 76)) w.heap.size 23 (k.map u8v) ∧ Blk (w3.alloc (.cells z5.toArray 76)) (w.heap.size + 1) 54 zT ∧ Below w.heap.size w (w3.alloc (.cells z5.toArray 76)) from ⟨H3.out.1.alloc _, Blk.new w3 _ _, H3.out.2.1.alloc _, H3.out.2.2.1.alloc _, H3.out.2.2.2.alloc H3.out.2.2.2.size _⟩)
  rw [z5_arr] at H4
  generalize w3.alloc (.cells #[.int .u64 0, .int .u64 0, .int .u64 0, .int .u64 0, .int .u64 0] 76) = w4 at H4 ⊢
  generalize w3.heap.size = Q at H4 hPQ ⊢
  clear H3
  have HPQ := Lib.hid (And.intro hP hPQ)
  clear hP hPQ
  go_wp2_with fail
  go_loopw [7, 8] (fun v _ wr => ∃ (i b : Nat) (a : List Nat), Hid (b = 16 * i ∧ tight a ∧ val5 a % primeP = accI (rN k) l i) ∧ b < n + 16 ∧ v = .int .i64 (b : Int) ∧ Blk wr P 76 (fl.map lv) ∧ Blk wr Q 76 (a.map lv) ∧ Blk wr w.heap.size 23 (k.map u8v) ∧ Blk wr (w.heap.size + 1) 54 zT ∧ Below w.heap.size w wr) (fun v _ _ => n + 16 - (intOf v).toNat)
  case atStart => exact ⟨0, 0, List.replicate 5 0, Lib.hid ⟨rfl, tight_zero.1, tight_zero.2⟩, by omega, rfl, H4.out.1, H4.out.2.1, H4.out.2.2.1, H4.out.2.2.2.1, H4.out.2.2.2.2⟩
  case round =>
    clear H4
    obtain ⟨i, b, a, HI, hbn, rfl, hp, hq, hkb, hg, hbel⟩ := hrel
    have HB := Lib.hid (And.intro hp (And.intro hq (And.intro hkb (And.intro hg hbel))))
    clear hp hq hkb hg hbel
    by_cases hlt : b < n
    · have dn : decide ((b : Int) < (n : Int)) = true := by simp; omega
      obtain ⟨m, hm⟩ : ∃ m, m = min (b + 16) n := ⟨_, rfl⟩
      have hbw : IntKind.i64.wrap ((b : Int) + 16) = (b : Int) + 16 := IntWalk.i64_in _ (by omega)
      have hmv : (if (n : Int) < (b : Int) + 16 then (n : Int) else (b : Int) + 16) = (m : Int) := by split <;> omega
      have hbm : b < m := by omega
      have hm16 : m - b ≤ 16 := by omega
      have hmn : m ≤ n := by omega
      have HM := Lib.hid hm
      clear hm
      go_upto_region 7 with fail
      clear hbw dn hmv
      obtain ⟨sb, soff, rfl, hsb, hsc⟩ := HR.out.2 (by omega)
      obtain ⟨pc, hpc⟩ : ∃ pc, (l.drop (16 * i)).take 16 = pc := ⟨_, rfl⟩
      have hrd : Rd wr w.heap.size (some ⟨sb, soff + b, none⟩) (m - b) pc := by
        have h1 := ((HR.out.drop b sb soff rfl (by omega)).take (m := m - b) (by omega)).below HB.out.2.2.2.2
        have hlen := HR.out.1
        have e : (l.drop b).take (m - b) = pc := by
          rw [← hpc, ← HI.out.1]
          have h2 := HM.out
          by_cases h16 : b + 16 ≤ n
          · rw [show m - b = 16 by omega]
          · rw [List.take_of_length_le (by rw [List.length_drop]; omega), List.take_of_length_le (by rw [List.length_drop]; omega)]
        rwa [e] at h1
      have hst := acc_step a k l i HK.out.1 HI.out.2.1 HI.out.2.2
      rw [hpc, HF.out.1] at hst
      have hpl : pc.length ≤ 16 := by rw [← hpc]; exact List.length_take_le 16 _
      have N1 := fun w' h => numberOf_any (some ⟨sb, soff + b, none⟩) (m - b) (cap - b) pc (by omega) hm16 w' h
      have hsl := sum_le a pc HI.out.2.1 hpl
      have hal : ∀ i, dg a i ≤ 4611686018427387904 := fun i => by have := HI.out.2.1.2 i; split at this <;> omega
      have hnl : ∀ i, dg (numP pc) i ≤ 4611686018427387904 := fun i => by have := numP_le pc hpl i; omega
      have N2 := add_any a (numP pc) ⟨HI.out.2.1.1, hal⟩ ⟨by rw [numP, splitN_length], hnl⟩
      have hsll : (addS a (numP pc) 5).length = 5 := by rw [addS_length]; exact HI.out.2.1.1
      have N3 := multiply_any (addS a (numP pc) 5) fl hsll hsl HF.out.2.2.1 HF.out.2.1
      have hnxl := mulN_length (addS a (numP pc) 5) fl
      obtain ⟨nx, hnx⟩ : ∃ nx, mulN (addS a (numP pc) 5) fl = nx := ⟨_, rfl⟩
      rw [hnx] at N3 hst hnxl
      obtain ⟨ca, hca⟩ : ∃ ca, (a.map lv).toArray = ca := ⟨_, rfl⟩
      obtain ⟨cp, hcp⟩ : ∃ cp, ((numP pc).map lv).toArray = cp := ⟨_, rfl⟩
      obtain ⟨cs, hcs⟩ : ∃ cs, ((addS a (numP pc) 5).map lv).toArray = cs := ⟨_, rfl⟩
      obtain ⟨cx, hcx⟩ : ∃ cx, (nx.map lv).toArray = cx := ⟨_, rfl⟩
      rw [hcp] at N1
      rw [hca, hcp, hcs] at N2
      rw [hcs, HF.out.2.2.2, hcx] at N3
      have HN := Lib.hid (And.intro N1 (And.intro N2 N3))
      have HX := Lib.hid (And.intro hca (And.intro hcx hnxl))
      have HST := Lib.hid hst
      have HRD := Lib.hid hrd
      clear N1 N2 N3 hca hcp hcs hcx hnx hnxl hsl hsll hal hnl hst hrd hpl hpc hsc
      have b1 : (b : Int) ≤ (m : Int) := by omega
      have b2 : (m : Int) ≤ (cap : Int) := by omega
      have b3 : ¬ cap = b := by omega
      have b4 : (m : Int) - (b : Int) = ((m - b : Nat) : Int) := by omega
      refine wp_region_held_drew (S := fun w4 => Below w.heap.size w w4 ∧ Blk w4 P 76 (fl.map lv)) (by kernel_rfl) (⟨HB.out.2.2.2.2.drew, HB.out.1.drew⟩) (fun hHeld => ?_)
      refine take_first (v := ?_) 1 rfl (by kernel_rfl) (by kernel_rfl) (by kernel_rfl) (fun _ _ _ h => h) (Or.inl ⟨by rfl, ?_⟩) (by assumption) ?_
      rotate_left
      · (intro w hSw; (try dsimp only at hSw); go_simp; try with_reducible rfl)
      (try simp only [Act.put, List.setIfInBounds_toArray, List.set_cons_zero, List.set_cons_succ])
      refine take_first (v := ?_) 2 rfl (by kernel_rfl) (by kernel_rfl) (by kernel_rfl) (fun _ _ _ h => h) (Or.inl ⟨by rfl, ?_⟩) (by assumption) ?_
      rotate_left
      · (intro w hSw; (try dsimp only at hSw); go_simp; try with_reducible rfl)
      (try simp only [Act.put, List.setIfInBounds_toArray, List.set_cons_zero, List.set_cons_succ])
      refine take_first (v := ?_) 3 rfl (by kernel_rfl) (by kernel_rfl) (by kernel_rfl) (fun _ _ _ h => h) (Or.inl ⟨by rfl, ?_⟩) (by assumption) ?_
      rotate_left
      · (intro w hSw; (try dsimp only at hSw); go_simp; try with_reducible rfl)
      (try simp only [Act.put, List.setIfInBounds_toArray, List.set_cons_zero, List.set_cons_succ])
      refine take_first (v := ?_) 4 rfl (by kernel_rfl) (by kernel_rfl) (by kernel_rfl) (fun _ _ _ h => h) (Or.inl ⟨by rfl, ?_⟩) (by assumption) ?_
      rotate_left
      · (intro w hSw; (try dsimp only at hSw); go_simp; try with_reducible rfl)
      (try simp only [Act.put, List.setIfInBounds_toArray, List.set_cons_zero, List.set_cons_succ])
      refine take_first (v := .agg cf) 7 rfl (by kernel_rfl) (by kernel_rfl) (by kernel_rfl) (fun _ _ _ h => h) (by rw [← HF.out.2.2.2]; exact yields_load_blk (by rfl) 76 (.tmp 5) rfl P rfl 76 (fl.map lv) (fun w' hb => hb.2) 5 51 Try.underlying76 (cells5 fl HF.out.2.2.1)) (by assumption) ?_
      (try simp only [Act.put, List.setIfInBounds_toArray, List.set_cons_zero, List.set_cons_succ])
      replace HB := Lib.hid (show Blk wr.drew P 76 (fl.map lv) ∧ Blk wr.drew Q 76 (a.map lv) ∧ Blk wr.drew w.heap.size 23 (k.map u8v) ∧ Blk wr.drew (w.heap.size + 1) 54 zT ∧ Below w.heap.size w wr.drew from ⟨HB.out.1.drew, HB.out.2.1.drew, HB.out.2.2.1.drew, HB.out.2.2.2.1.drew, HB.out.2.2.2.2.drew⟩)
      replace HRD := Lib.hid HRD.out.drew
      refine step_two 0 5 rfl rfl (by kernel_rfl) (fun K hK => ?_) (fun K hK => ?_)
      · refine step_load_blk rfl 76 (.tmp 6) rfl Q rfl 76 (a.map lv) HB.out.2.1 5 51 Try.underlying76 (cells5 a HI.out.2.1.1) ?_
        rw [HX.out.1]
        refine hK.out _ _ (And.intro HB.out.2.2.2.2 HB.out.1) (fun hHeld => ?_)
        clear hK K
        (try simp only [Act.put, List.setIfInBounds_toArray, List.set_cons_zero, List.set_cons_succ])
        refine step_one 5 rfl (by kernel_rfl) (fun K hK => ?_)
        go_simp
        refine (HN.out.1 _ (HRD.out.mono HB.out.2.2.2.2.size)).mono ?_
        rintro e w5 ⟨rfl, hb5⟩
        replace HRD := Lib.hid (HRD.out.below (hb5.mono HB.out.2.2.2.2.size))
        replace HB := Lib.hid (show Blk w5 P 76 (fl.map lv) ∧ Blk w5 Q 76 (a.map lv) ∧ Blk w5 w.heap.size 23 (k.map u8v) ∧ Blk w5 (w.heap.size + 1) 54 zT ∧ Below w.heap.size w w5 from ⟨HB.out.1.below hb5 HB.out.1.lt, HB.out.2.1.below hb5 HB.out.2.1.lt, HB.out.2.2.1.below hb5 HB.out.2.2.1.lt, HB.out.2.2.2.1.below hb5 HB.out.2.2.2.1.lt, HB.out.2.2.2.2.trans (hb5.mono HB.out.2.2.2.2.size)⟩)
        clear hb5
        go_wp2_with fail
        refine hK.out _ _ (And.intro HB.out.2.2.2.2 HB.out.1) (fun hHeld => ?_)
        clear hK K
        (try simp only [Act.put, List.setIfInBounds_toArray, List.set_cons_zero, List.set_cons_succ])
        refine step_one 6 rfl (by kernel_rfl) (fun K hK => ?_)
        go_simp
        refine (HN.out.2.1 _).mono ?_
        rintro e w6 ⟨rfl, hb⟩
        replace HB := Lib.hid (show Blk w6 P 76 (fl.map lv) ∧ Blk w6 Q 76 (a.map lv) ∧ Blk w6 w.heap.size 23 (k.map u8v) ∧ Blk w6 (w.heap.size + 1) 54 zT ∧ Below w.heap.size w w6 from ⟨HB.out.1.below hb HB.out.1.lt, HB.out.2.1.below hb HB.out.2.1.lt, HB.out.2.2.1.below hb HB.out.2.2.1.lt, HB.out.2.2.2.1.below hb HB.out.2.2.2.1.lt, HB.out.2.2.2.2.trans (hb.mono HB.out.2.2.2.2.size)⟩)
        clear hb
        go_wp2_with fail
        refine hK.out _ _ (And.intro HB.out.2.2.2.2 HB.out.1) (fun hHeld => ?_)
        clear hK K
        (try simp only [Act.put, List.setIfInBounds_toArray, List.set_cons_zero, List.set_cons_succ])
        refine step_one 8 rfl (by kernel_rfl) (fun K hK => ?_)
        go_simp
        refine (HN.out.2.2 _).mono ?_
        rintro e w7 ⟨rfl, hb⟩
        replace HB := Lib.hid (show Blk w7 P 76 (fl.map lv) ∧ Blk w7 Q 76 (a.map lv) ∧ Blk w7 w.heap.size 23 (k.map u8v) ∧ Blk w7 (w.heap.size + 1) 54 zT ∧ Below w.heap.size w w7 from ⟨HB.out.1.below hb HB.out.1.lt, HB.out.2.1.below hb HB.out.2.1.lt, HB.out.2.2.1.below hb HB.out.2.2.1.lt, HB.out.2.2.2.1.below hb HB.out.2.2.2.1.lt, HB.out.2.2.2.2.trans (hb.mono HB.out.2.2.2.2.size)⟩)
        clear hb
        go_wp2_with fail
        refine hK.out _ _ (And.intro HB.out.2.2.2.2 HB.out.1) (fun hHeld => ?_)
        clear hK K
        (try simp only [Act.put, List.setIfInBounds_toArray, List.set_cons_zero, List.set_cons_succ])
        refine step_one 9 rfl (by kernel_rfl) (fun K hK => ?_)
        refine step_store_blk _ rfl 76 (.tmp 6) (.tmp 30) rfl Q (nx.map lv) rfl (by show Value.agg cx = _; rw [HX.out.2.1]) 76 (a.map lv) HB.out.2.1 (cells5 nx HX.out.2.2) (by rw [List.length_map, List.length_map, HX.out.2.2, HI.out.2.1.1]) (lv_one _) ?_
        intro w8 hb8 hg8
        have HB8 := Lib.hid (show Blk w8 P 76 (fl.map lv) ∧ Blk w8 Q 76 (nx.map lv) ∧ Blk w8 w.heap.size 23 (k.map u8v) ∧ Blk w8 (w.heap.size + 1) 54 zT ∧ Below w.heap.size w w8 from ⟨HB.out.1.grown hg8 (by have := HPQ.out.2; simp; omega), hb8, HB.out.2.2.1.grown hg8 (by have := HPQ.out; simp; omega), HB.out.2.2.2.1.grown hg8 (by have := HPQ.out; simp; omega), below_blk HB.out.2.2.2.2 hg8 (by have := HPQ.out; omega)⟩)
        clear hb8 hg8 HB
        refine hK.out _ _ (And.intro HB8.out.2.2.2.2 HB8.out.1) (fun hHeld => ?_)
        clear hK K
        (try simp only [Act.put])
        refine wpAnyH_done (by kernel_rfl) ?_ _
        clear hHeld b1 b2 b3 b4
        go_wp2_with fail
        go_roundw
        case rel => exact ⟨i + 1, b + 16, nx, Lib.hid ⟨by have := HI.out.1; omega, HST.out.1, HST.out.2⟩, by omega, by go_num, HB8.out.1, HB8.out.2.1, HB8.out.2.2.1, HB8.out.2.2.2.1, HB8.out.2.2.2.2⟩
        case measure => simp [intOf]; omega
      · go_simp
        refine (HN.out.1 _ (HRD.out.mono HB.out.2.2.2.2.size)).mono ?_
        rintro e w5 ⟨rfl, hb5⟩
        replace HRD := Lib.hid (HRD.out.below (hb5.mono HB.out.2.2.2.2.size))
        replace HB := Lib.hid (show Blk w5 P 76 (fl.map lv) ∧ Blk w5 Q 76 (a.map lv) ∧ Blk w5 w.heap.size 23 (k.map u8v) ∧ Blk w5 (w.heap.size + 1) 54 zT ∧ Below w.heap.size w w5 from ⟨HB.out.1.below hb5 HB.out.1.lt, HB.out.2.1.below hb5 HB.out.2.1.lt, HB.out.2.2.1.below hb5 HB.out.2.2.1.lt, HB.out.2.2.2.1.below hb5 HB.out.2.2.2.1.lt, HB.out.2.2.2.2.trans (hb5.mono HB.out.2.2.2.2.size)⟩)
        clear hb5
        go_wp2_with fail
        refine hK.out _ _ (And.intro HB.out.2.2.2.2 HB.out.1) (fun hHeld => ?_)
        clear hK K
        (try simp only [Act.put, List.setIfInBounds_toArray, List.set_cons_zero, List.set_cons_succ])
        refine step_one 0 rfl (by kernel_rfl) (fun K hK => ?_)
        refine step_load_blk rfl 76 (.tmp 6) rfl Q rfl 76 (a.map lv) HB.out.2.1 5 51 Try.underlying76 (cells5 a HI.out.2.1.1) ?_
        rw [HX.out.1]
        refine hK.out _ _ (And.intro HB.out.2.2.2.2 HB.out.1) (fun hHeld => ?_)
        clear hK K
        (try simp only [Act.put, List.setIfInBounds_toArray, List.set_cons_zero, List.set_cons_succ])
        refine step_one 6 rfl (by kernel_rfl) (fun K hK => ?_)
        go_simp
        refine (HN.out.2.1 _).mono ?_
        rintro e w6 ⟨rfl, hb⟩
        replace HB := Lib.hid (show Blk w6 P 76 (fl.map lv) ∧ Blk w6 Q 76 (a.map lv) ∧ Blk w6 w.heap.size 23 (k.map u8v) ∧ Blk w6 (w.heap.size + 1) 54 zT ∧ Below w.heap.size w w6 from ⟨HB.out.1.below hb HB.out.1.lt, HB.out.2.1.below hb HB.out.2.1.lt, HB.out.2.2.1.below hb HB.out.2.2.1.lt, HB.out.2.2.2.1.below hb HB.out.2.2.2.1.lt, HB.out.2.2.2.2.trans (hb.mono HB.out.2.2.2.2.size)⟩)
        clear hb
        go_wp2_with fail
        refine hK.out _ _ (And.intro HB.out.2.2.2.2 HB.out.1) (fun hHeld => ?_)
        clear hK K
        (try simp only [Act.put, List.setIfInBounds_toArray, List.set_cons_zero, List.set_cons_succ])
        refine step_one 8 rfl (by kernel_rfl) (fun K hK => ?_)
        go_simp
        refine (HN.out.2.2 _).mono ?_
        rintro e w7 ⟨rfl, hb⟩
        replace HB := Lib.hid (show Blk w7 P 76 (fl.map lv) ∧ Blk w7 Q 76 (a.map lv) ∧ Blk w7 w.heap.size 23 (k.map u8v) ∧ Blk w7 (w.heap.size + 1) 54 zT ∧ Below w.heap.size w w7 from ⟨HB.out.1.below hb HB.out.1.lt, HB.out.2.1.below hb HB.out.2.1.lt, HB.out.2.2.1.below hb HB.out.2.2.1.lt, HB.out.2.2.2.1.below hb HB.out.2.2.2.1.lt, HB.out.2.2.2.2.trans (hb.mono HB.out.2.2.2.2.size)⟩)
        clear hb
        go_wp2_with fail
        refine hK.out _ _ (And.intro HB.out.2.2.2.2 HB.out.1) (fun hHeld => ?_)
        clear hK K
        (try simp only [Act.put, List.setIfInBounds_toArray, List.set_cons_zero, List.set_cons_succ])
        refine step_one 9 rfl (by kernel_rfl) (fun K hK => ?_)
        refine step_store_blk _ rfl 76 (.tmp 6) (.tmp 30) rfl Q (nx.map lv) rfl (by show Value.agg cx = _; rw [HX.out.2.1]) 76 (a.map lv) HB.out.2.1 (cells5 nx HX.out.2.2) (by rw [List.length_map, List.length_map, HX.out.2.2, HI.out.2.1.1]) (lv_one _) ?_
        intro w8 hb8 hg8
        have HB8 := Lib.hid (show Blk w8 P 76 (fl.map lv) ∧ Blk w8 Q 76 (nx.map lv) ∧ Blk w8 w.heap.size 23 (k.map u8v) ∧ Blk w8 (w.heap.size + 1) 54 zT ∧ Below w.heap.size w w8 from ⟨HB.out.1.grown hg8 (by have := HPQ.out.2; simp; omega), hb8, HB.out.2.2.1.grown hg8 (by have := HPQ.out; simp; omega), HB.out.2.2.2.1.grown hg8 (by have := HPQ.out; simp; omega), below_blk HB.out.2.2.2.2 hg8 (by have := HPQ.out; omega)⟩)
        clear hb8 hg8 HB
        refine hK.out _ _ (And.intro HB8.out.2.2.2.2 HB8.out.1) (fun hHeld => ?_)
        clear hK K
        (try simp only [Act.put])
        refine wpAnyH_done (by kernel_rfl) ?_ _
        clear hHeld b1 b2 b3 b4
        go_wp2_with fail
        go_roundw
        case rel => exact ⟨i + 1, b + 16, nx, Lib.hid ⟨by have := HI.out.1; omega, HST.out.1, HST.out.2⟩, by omega, by go_num, HB8.out.1, HB8.out.2.1, HB8.out.2.2.1, HB8.out.2.2.2.1, HB8.out.2.2.2.2⟩
        case measure => simp [intOf]; omega
    · have dn : decide ((b : Int) < (n : Int)) = false := by simp; omega
      have hi : (l.length + 15) / 16 = i := by have := HI.out.1; have := HR.out.1; omega
      have htg : littleL (val5 a % primeP + sN k) 16 = tagL k l := by rw [tagL, tagN, hi, HI.out.2.2]
      have FN := HFN.out a HI.out.2.1
      rw [htg] at FN
      obtain ⟨lz, hlz⟩ : ∃ lz, tagL k l = lz := ⟨_, rfl⟩
      have hzl : lz.length = 16 := by rw [← hlz]; exact tagL_length k l
      rw [hlz] at FN
      obtain ⟨ca, hca⟩ : ∃ ca, (a.map lv).toArray = ca := ⟨_, rfl⟩
      obtain ⟨ct, hct⟩ : ∃ ct, (lz.map u8v).toArray = ct := ⟨_, rfl⟩
      rw [hca, hct] at FN
      have HX := Lib.hid (And.intro hca (And.intro hct (And.intro hzl hlz)))
      have HN := Lib.hid FN
      clear hca hct hzl hlz FN htg hi
      go_wp2_with (first | (refine wpList_load_blk rfl 76 (.tmp 6) rfl Q rfl 76 (a.map lv) HB.out.2.1 5 51 Try.underlying76 (cells5 a HI.out.2.1.1) ?_; rw [HX.out.1]) | (refine wpList_load_blk rfl 23 (.tmp 2) rfl w.heap.size rfl 23 (k.map u8v) HB.out.2.2.1 32 5 Try.underlying23 (cells32 k HK.out.1) ?_; rw [HK.out.2]))
      refine (HN.out _).mono ?_
      rintro e w5 ⟨rfl, hb5⟩
      have HB5 := Lib.hid (And.intro (HB.out.2.2.2.1.below hb5 HB.out.2.2.2.1.lt) (HB.out.2.2.2.2.trans (hb5.mono HB.out.2.2.2.2.size)))
      clear hb5 HB
      go_wp2_with (refine wpList_store_blk rfl 54 (.tmp 4) (.tmp 33) rfl (w.heap.size + 1) (lz.map u8v) rfl (by show Value.agg ct = _; rw [HX.out.2.1]) 54 zT HB5.out.1 (cells16T lz HX.out.2.2.1) (by rw [List.length_map, HX.out.2.2.1]; rfl) (u8v_one _) ?_; intro w9 hb9 hg9)
      exact bodyPost_ret (results_blk rfl _ _ (w.heap.size + 1) 54 (lz.map u8v) 16 5 rfl hb9 Try.underlying54 (cells16T lz HX.out.2.2.1)) rfl ⟨by rw [HX.out.2.2.2], below_blk HB5.out.2 hg9 (by omega)⟩
end Go.Proofs.Ytkbefhmgcodpaaa
