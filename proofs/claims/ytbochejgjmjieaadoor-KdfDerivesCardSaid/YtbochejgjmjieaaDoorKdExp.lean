/-
  The contract of the reference's Expand.
-/
import Derived.Test.YtbochejgjmjieaaDoorCells32
import Derived.Test.YtbochejgjmjieaaDoorKdHmac
import Derived.Test.YtbochejgjmjieaaDoorKeyRows
import Derived.RegionTactic
namespace Go.Proofs.YtbochejgjmjieaaDoor
open Go.RowKit

theorem parts_one {W : World} {g : Nat} {t : TypeId} {A : Option Addr} {n c : Nat} {l : List UInt8} (hb : Blk W g t [.slice A n c]) (h : Rd W W.heap.size A n l) : PartsRd W W.heap.size (some ⟨g, 0, none⟩) [⟨A, n, c, l⟩] :=
  parts_blk [⟨A, n, c, l⟩] hb (fun p hp => by cases List.mem_singleton.1 hp; exact h)
theorem parts_two {W : World} {g : Nat} {t : TypeId} {A A' : Option Addr} {n c n' c' : Nat} {l l' : List UInt8} (hb : Blk W g t [.slice A n c, .slice A' n' c']) (h : Rd W W.heap.size A n l) (h' : Rd W W.heap.size A' n' l') : PartsRd W W.heap.size (some ⟨g, 0, none⟩) [⟨A, n, c, l⟩, ⟨A', n', c', l'⟩] :=
  parts_blk [⟨A, n, c, l⟩, ⟨A', n', c', l'⟩] hb (fun p hp => by
    simp only [List.mem_cons, List.not_mem_nil, or_false] at hp
    rcases hp with rfl | rfl
    · exact h
    · exact h')
theorem ref_hmac_one (Ak : Option Addr) (nk ck : Nat) (key : List UInt8) (hkc : nk ≤ ck) (hkm : ck ≤ maxLen) (hk3 : nk ≤ 1000) (g : Nat) (t : TypeId) (A : Option Addr) (n c : Nat) (l : List UInt8) (hn : n ≤ 4000) (w : World) (hrk : Rd w w.heap.size Ak nk key) (hb : Blk w g t [.slice A n c]) (hr : Rd w w.heap.size A n l) :
    Calls Tryd.prog 12 #[.slice Ak nk ck, .slice (some ⟨g, 0, none⟩) 1 1] w fun e w' => e = .returned (.agg ((hmacB key l).map u8v).toArray) ∧ Below w.heap.size w w' := by
  have hf : flat ([⟨A, n, c, l⟩] : List Part) 1 = l := by simp [flat]
  have h := refHmac_any Ak nk ck key hkc hkm hk3 1 (some ⟨g, 0, none⟩) [⟨A, n, c, l⟩] (by simp) (by show (flat _ 1).length ≤ _; rw [hf, hr.1]; omega) w hrk (parts_one hb hr)
  rw [show ([⟨A, n, c, l⟩] : List Part).length = 1 from rfl, hf] at h
  exact h
theorem ref_hmac_two (Ak : Option Addr) (nk ck : Nat) (key : List UInt8) (hkc : nk ≤ ck) (hkm : ck ≤ maxLen) (hk3 : nk ≤ 1000) (g : Nat) (t : TypeId) (A A' : Option Addr) (n c n' c' : Nat) (l l' : List UInt8) (hn : n ≤ 2000) (hn' : n' ≤ 2000) (w : World) (hrk : Rd w w.heap.size Ak nk key) (hb : Blk w g t [.slice A n c, .slice A' n' c']) (hr : Rd w w.heap.size A n l) (hr' : Rd w w.heap.size A' n' l') :
    Calls Tryd.prog 12 #[.slice Ak nk ck, .slice (some ⟨g, 0, none⟩) 2 2] w fun e w' => e = .returned (.agg ((hmacB key (l ++ l')).map u8v).toArray) ∧ Below w.heap.size w w' := by
  have hf : flat ([⟨A, n, c, l⟩, ⟨A', n', c', l'⟩] : List Part) 2 = l ++ l' := by simp [flat]
  have h := refHmac_any Ak nk ck key hkc hkm hk3 2 (some ⟨g, 0, none⟩) [⟨A, n, c, l⟩, ⟨A', n', c', l'⟩] (by simp) (by show (flat _ 2).length ≤ _; rw [hf, List.length_append, hr.1, hr'.1]; omega) w hrk (parts_two hb hr hr')
  rw [show ([⟨A, n, c, l⟩, ⟨A', n', c', l'⟩] : List Part).length = 2 from rfl, hf] at h
  exact h
/-- the first j derived keys -/
def firstT (t0 : List UInt8) (j : Nat) : List (List UInt8) := (List.range j).map fun i => tB t0 (i + 1)
theorem firstT_succ (t0 : List UInt8) (j : Nat) : firstT t0 (j + 1) = firstT t0 j ++ [tB t0 (j + 1)] := by simp [firstT, List.range_succ]

set_option maxRecDepth 100000 in
set_option maxHeartbeats 16000000 in
theorem refExpand_any (Ak : Option Addr) (nk ck : Nat) (key : List UInt8) (hkc : nk ≤ ck) (hkm : ck ≤ maxLen) (hk3 : nk ≤ 1000) (Ai : Option Addr) (ni cin : Nat) (inp : List UInt8) (hni : ni ≤ 2000) (n : Int) (w : World) (hrk : Rd w w.heap.size Ak nk key) (hri : Rd w w.heap.size Ai ni inp) :
    Calls Tryd.prog 10 #[.slice Ak nk ck, .slice Ai ni cin, .int .i64 n] w fun e w' => ∃ A c', e = .returned (.slice A (expandB key inp n).length c') ∧ w'.ownsRow w.heap.size 30 32 (.slice A (expandB key inp n).length c') (expandB key inp n).length (keysV (expandB key inp n)) ∧ Below w.heap.size w w' := by
  by_cases h1 : n < 1
  · have hsb : expandB key inp n = [] := by rw [expandB, if_pos (.inl h1)]
    have s1 : decide (n < 1) = true := by simpa using h1
    rw [hsb]
    have HB := Lib.hid (Below.refl w.heap.size w)
    clear hsb hrk hri
    go_enter Tryd.func10, Tryd.ntmps10
    go_wp2_with fail
    go_ret
    exact ⟨none, 0, rfl, World.ownsRow_nil _ _ _ _, HB.out⟩
  · by_cases h2 : 255 < n
    · have hsb : expandB key inp n = [] := by rw [expandB, if_pos (.inr h2)]
      have s1 : decide (n < 1) = false := by simpa using h1
      have s2 : decide (n > 255) = true := by simpa using h2
      rw [hsb]
      have HB := Lib.hid (Below.refl w.heap.size w)
      clear hsb hrk hri
      go_enter Tryd.func10, Tryd.ntmps10
      go_wp2_with fail
      go_ret
      exact ⟨none, 0, rfl, World.ownsRow_nil _ _ _ _, HB.out⟩
    · obtain ⟨m, rfl⟩ : ∃ m : Nat, n = (m : Int) := ⟨n.toNat, by omega⟩
      have hsb : expandB key inp (m : Int) = firstT (hmacB key inp) m := by rw [expandB, if_neg (by omega)]; rfl
      have hlm : (firstT (hmacB key inp) m).length = m := by simp [firstT]
      rw [hsb, hlm]
      have m1 : 1 ≤ m := by omega
      have m2 : m ≤ 255 := by omega
      have s1 : decide ((m : Int) < 1) = false := by simpa using h1
      have s2 : decide ((m : Int) > 255) = false := by simpa using h2
      have HK := Lib.hid hrk
      have HI := Lib.hid hri
      have HM := Lib.hid (Mem.nil w)
      have HLT := Lib.hid (hmacB_length key inp)
      obtain ⟨t0, ht0⟩ : ∃ l, hmacB key inp = l := ⟨_, rfl⟩
      rw [ht0] at HLT ⊢
      have HT0 := Lib.hid ht0
      obtain ⟨ct0, hct0⟩ : ∃ c, (t0.map u8v).toArray = c := ⟨_, rfl⟩
      have HCT := Lib.hid hct0
      clear ht0 hct0 hsb hlm hrk hri h1 h2
      obtain ⟨ik, hik, hiz, his, hib⟩ := keyInfo
      have HKI := Lib.hid (And.intro hik (And.intro hiz (And.intro his hib)))
      clear hik hiz his hib
      go_enter Tryd.func10, Tryd.ntmps10
      go_wp2_with fail
      clear s1 s2
      replace HM := Lib.hid (show Mem w [blkE w.heap.size 22 [Value.slice Ai ni cin]] (w.alloc (.cells #[Value.slice Ai ni cin] 22)) from HM.out.alloc rfl 22 #[Value.slice Ai ni cin] [Value.slice Ai ni cin] rfl)
      generalize w.alloc (.cells #[Value.slice Ai ni cin] 22) = w1 at HM ⊢
      refine (ref_hmac_one Ak nk ck key hkc hkm hk3 w.heap.size 22 Ai ni cin inp (by omega) _ (HM.out.arg HK.out) (HM.out.blk 0 rfl) (HM.out.arg HI.out)).mono ?_
      rintro e w2 ⟨rfl, hb⟩
      rw [HT0.out, HCT.out]
      replace HM := Lib.hid (show Mem w [] w2 from (HM.out.below hb).erase 0)
      clear hb HT0
      have HA := Lib.hid (HM.out.alloc rfl 30 #[.int .u8 0, .int .u8 0, .int .u8 0, .int .u8 0, .int .u8 0, .int .u8 0, .int .u8 0, .int .u8 0, .int .u8 0, .int .u8 0, .int .u8 0, .int .u8 0, .int .u8 0, .int .u8 0, .int .u8 0, .int .u8 0, .int .u8 0, .int .u8 0, .int .u8 0, .int .u8 0, .int .u8 0, .int .u8 0, .int .u8 0, .int .u8 0, .int .u8 0, .int .u8 0, .int .u8 0, .int .u8 0, .int .u8 0, .int .u8 0, .int .u8 0, .int .u8 0] (aeZ 32) rfl)
      go_upto_region 4 with (refine wpList_store_blk rfl 30 (.tmp 7) (.tmp 21) rfl w2.heap.size (t0.map u8v) rfl (by show Value.agg ct0 = _; rw [HCT.out]) 30 (aeZ 32) (HA.out.blk 0 rfl) (cells32 t0 HLT.out) (by rw [List.length_map, HLT.out]; rfl) (u8v_one _) ?_; intro w3 hb3 hg3)
      replace HM := Lib.hid (show Mem w [blkE w2.heap.size 30 (t0.map u8v)] w3 from HA.out.put 0 rfl _ hg3 hb3)
      clear hb3 hg3 HA HCT
      generalize w2.heap.size = P0 at HM ⊢
      have HB := Lib.hid HM.out.fix
      obtain ⟨B, hB⟩ : ∃ B, w3.heap.size = B := ⟨_, rfl⟩
      rw [hB] at HB
      clear hB HM
      go_wp2_with fail
      go_loopw [10, 8, 9] (fun i vo vl wr => ∃ j : Nat, j ≤ m ∧ i = .int .i64 ((j : Int) + 1) ∧ wr.ownsRow B 30 32 vo j (keysV (firstT t0 j)) ∧ MemB w B [blkE P0 30 (t0.map u8v)] wr ∧ ∃ Al nl cl, vl = .slice Al nl cl ∧ nl ≤ 32 ∧ Rd wr wr.heap.size Al nl (tB t0 j) ∧ ∀ k, vo.ownBlock = some k → ∀ a, Al = some a → a.block ≠ k) (fun i _ _ _ => m + 1 - (intOf i).toNat)
      case atStart => exact ⟨0, by omega, rfl, World.ownsRow_nil _ _ _ _, HB.out, none, 0, 0, rfl, by omega, Rd.nil _ _ _, fun k h => by cases h⟩
      case round =>
        clear HB
        obtain ⟨j, hj, rfl, hown, hmb, Al, nl, cl, rfl, hnl, hrl, hne⟩ := hrel
        have HO := Lib.hid (And.intro hown hmb)
        have HL := Lib.hid (And.intro hrl hne)
        clear hown hmb hrl hne
        by_cases hlt : j < m
        · have dj : decide ((j : Int) + 1 ≤ (m : Int)) = true := by simp; omega
          obtain ⟨Y, hY⟩ : ∃ y, UInt8.ofNat (j + 1) = y := ⟨_, rfl⟩
          have hYn : Y.toNat = j + 1 := by rw [← hY, UInt8.toNat_ofNat', Nat.mod_eq_of_lt (by omega)]
          have y1 : IntKind.u8.wrap ((j : Int) + 1) = (Y.toNat : Int) := by rw [IntKind.wrap_u8, hYn]; omega
          have y2 : ((j : Int) + 1) % 256 = (Y.toNat : Int) := by rw [hYn]; omega
          have HTN := Lib.hid (show tB t0 (j + 1) = hmacB t0 (tB t0 j ++ [Y]) by rw [tB, hY])
          clear hY hYn
          go_wp2_with fail
          clear y1 y2 dj
          have own1 := (HO.out.1.alloc (.cells ([Y].map u8v).toArray 5)).alloc (.cells #[Value.slice Al nl cl, .slice (some ⟨wr.heap.size, 0, none⟩) 1 1] 22)
          have hM2 : Mem w [blkE (wr.heap.size + 1) 22 [Value.slice Al nl cl, .slice (some ⟨wr.heap.size, 0, none⟩) 1 1], blkE wr.heap.size 5 ([Y].map u8v), blkE P0 30 (t0.map u8v)] ((wr.alloc (.cells ([Y].map u8v).toArray 5)).alloc (.cells #[Value.slice Al nl cl, .slice (some ⟨wr.heap.size, 0, none⟩) 1 1] 22)) := (HO.out.2.mem.alloc rfl 5 _ ([Y].map u8v) rfl).alloc (by simp) 22 _ _ rfl
          have hbw : Below wr.heap.size wr ((wr.alloc (.cells ([Y].map u8v).toArray 5)).alloc (.cells #[Value.slice Al nl cl, .slice (some ⟨wr.heap.size, 0, none⟩) 1 1] 22)) := ((Below.refl _ _).alloc (Nat.le_refl _) _).alloc (by simp) _
          rw [show ([Y].map u8v).toArray = #[.int .u8 (Y.toNat : Int)] from rfl] at own1 hM2 hbw
          have HL2 := Lib.hid ((HL.out.1.below hbw).mono hbw.size)
          have HW := Lib.hid hbw
          have HM2 := Lib.hid hM2
          have HOW := Lib.hid own1
          clear own1 hM2 hbw
          generalize ((wr.alloc (.cells #[.int .u8 (Y.toNat : Int)] 5)).alloc (.cells #[Value.slice Al nl cl, .slice (some ⟨wr.heap.size, 0, none⟩) 1 1] 22)) = wa at HM2 HOW HL2 HW ⊢
          obtain ⟨tn, htn⟩ : ∃ l, tB t0 (j + 1) = l := ⟨_, rfl⟩
          have HLN := Lib.hid (show tn.length = 32 by rw [← htn]; exact tB_length t0 j)
          have HTE := Lib.hid htn
          rw [htn] at HTN
          clear htn
          obtain ⟨cn, hcn⟩ : ∃ c, (tn.map u8v).toArray = c := ⟨_, rfl⟩
          have HCN := Lib.hid hcn
          clear hcn
          refine (ref_hmac_two (some ⟨P0, 0, none⟩) 32 32 t0 (Nat.le_refl _) (by unfold maxLen; omega) (by omega) (wr.heap.size + 1) 22 Al (some ⟨wr.heap.size, 0, none⟩) nl cl 1 1 (tB t0 j) [Y] (by omega) (by omega) _ (blk_all (HM2.out.blk 2 rfl) HLT.out) (HM2.out.blk 0 rfl) HL2.out (blk_all (HM2.out.blk 1 rfl) rfl)).mono ?_
          rintro e wb ⟨rfl, hb⟩
          rw [← HTN.out, HCN.out]
          have HOB := Lib.hid (own_below HOW.out hb)
          have hBb : Below B wr wb := (HW.out.mono HO.out.2.2.2).trans (hb.mono (Nat.le_trans HO.out.2.2.2 HW.out.size))
          have HMB := Lib.hid (HO.out.2.below hBb)
          clear hb hBb HOW HM2 HL2 HW HTN
          have HA := Lib.hid (HMB.out.mem.alloc rfl 30 #[.int .u8 0, .int .u8 0, .int .u8 0, .int .u8 0, .int .u8 0, .int .u8 0, .int .u8 0, .int .u8 0, .int .u8 0, .int .u8 0, .int .u8 0, .int .u8 0, .int .u8 0, .int .u8 0, .int .u8 0, .int .u8 0, .int .u8 0, .int .u8 0, .int .u8 0, .int .u8 0, .int .u8 0, .int .u8 0, .int .u8 0, .int .u8 0, .int .u8 0, .int .u8 0, .int .u8 0, .int .u8 0, .int .u8 0, .int .u8 0, .int .u8 0, .int .u8 0] (aeZ 32) rfl)
          have HOA := Lib.hid (HOB.out.alloc (.cells #[.int .u8 0, .int .u8 0, .int .u8 0, .int .u8 0, .int .u8 0, .int .u8 0, .int .u8 0, .int .u8 0, .int .u8 0, .int .u8 0, .int .u8 0, .int .u8 0, .int .u8 0, .int .u8 0, .int .u8 0, .int .u8 0, .int .u8 0, .int .u8 0, .int .u8 0, .int .u8 0, .int .u8 0, .int .u8 0, .int .u8 0, .int .u8 0, .int .u8 0, .int .u8 0, .int .u8 0, .int .u8 0, .int .u8 0, .int .u8 0, .int .u8 0, .int .u8 0] 30))
          have HMA := Lib.hid (HMB.out.below ((Below.refl B wb).alloc HMB.out.2.2 (.cells #[.int .u8 0, .int .u8 0, .int .u8 0, .int .u8 0, .int .u8 0, .int .u8 0, .int .u8 0, .int .u8 0, .int .u8 0, .int .u8 0, .int .u8 0, .int .u8 0, .int .u8 0, .int .u8 0, .int .u8 0, .int .u8 0, .int .u8 0, .int .u8 0, .int .u8 0, .int .u8 0, .int .u8 0, .int .u8 0, .int .u8 0, .int .u8 0, .int .u8 0, .int .u8 0, .int .u8 0, .int .u8 0, .int .u8 0, .int .u8 0, .int .u8 0, .int .u8 0] 30)))
          go_upto_region 10 with (refine wpList_store_blk rfl 30 (.tmp 11) (.tmp 33) rfl wb.heap.size (tn.map u8v) rfl (by show Value.agg cn = _; rw [HCN.out]) 30 (aeZ 32) (HA.out.blk 0 rfl) (cells32 tn HLN.out) (by rw [List.length_map, HLN.out]; rfl) (u8v_one _) ?_; intro w4 hb4 hg4)
          have hkl := HOB.out.lt
          have HO4 := Lib.hid (show w4.ownsRow B 30 32 u8 j (keysV (firstT t0 j)) ∧ MemB w B [blkE P0 30 (t0.map u8v)] w4 ∧ Blk w4 wb.heap.size 30 (tn.map u8v) ∧ (∀ k, u8.ownBlock = some k → k < wb.heap.size) from ⟨HOA.out.kept hg4 (by
              cases e : u8.ownBlock with
              | none => exact .inl rfl
              | some k => exact .inr (fun h => by injection h with h; have := (hkl k e).2; omega)), HMA.out.below ((Below.refl B _).grown hg4 HMA.out.2.2 (fun k hk => by injection hk with hk; have := HMB.out.2.2; omega)), hb4, fun k hk => (hkl k hk).2⟩)
          clear hb4 hg4 HA HOA HMA HMB HOB hkl HO HL
          generalize wb.heap.size = P1 at HO4 ⊢
          have HLTP := Lib.hid HO4.out.2.2.1.lt
          refine wp_region_held_drew (S := fun _ => True) (by kernel_rfl) (trivial) (fun hHeld => ?_)
          refine take_first (v := ?_) 0 rfl (by kernel_rfl) (by kernel_rfl) (by kernel_rfl) (fun _ _ _ h => h) (Or.inl ⟨by rfl, ?_⟩) (by assumption) ?_
          rotate_left
          · (intro w hSw; (try dsimp only at hSw); go_simp; try with_reducible rfl)
          (try simp only [Act.put, List.setIfInBounds_toArray, List.set_cons_zero, List.set_cons_succ])
          refine take_first (v := ?_) 4 rfl (by kernel_rfl) (by kernel_rfl) (by kernel_rfl) (fun _ _ _ h => h) (Or.inl ⟨by rfl, ?_⟩) (by assumption) ?_
          rotate_left
          · (intro w hSw; (try dsimp only at hSw); go_simp; try with_reducible rfl)
          (try simp only [Act.put, List.setIfInBounds_toArray, List.set_cons_zero, List.set_cons_succ])
          refine step_one 1 rfl (by kernel_rfl) (fun K hK => ?_)
          refine step_load_blk rfl 30 (.tmp 11) rfl P1 rfl 30 (tn.map u8v) HO4.out.2.2.1.drew 32 5 Tryd.underlying30 (cells32 tn HLN.out) ?_
          rw [HCN.out]
          refine hK.out _ _ trivial (fun hHeld => ?_)
          clear hK K
          (try simp only [Act.put, List.setIfInBounds_toArray, List.set_cons_zero, List.set_cons_succ])
          refine step_one 2 rfl (by kernel_rfl) (fun K hK => ?_)
          refine step_buildOne rfl 27 30 (.tmp 35) rfl cn rfl 32 Tryd.underlying27 ik HKI.out.1 HKI.out.2.2.1 _ HKI.out.2.1 (by omega) (by omega) (by rw [← HCN.out]; simp [HLN.out]) ?_
          refine hK.out _ _ trivial (fun hHeld => ?_)
          clear hK K
          (try simp only [Act.put, List.setIfInBounds_toArray, List.set_cons_zero, List.set_cons_succ])
          have hown5 := HO4.out.1.drew.alloc (.cells cn 30)
          have hnew : Blk (w4.drew.alloc (.cells cn 30)) w4.drew.heap.size 30 (tn.map u8v) := by rw [← HCN.out]; exact Blk.new _ _ _
          have hM5 := HO4.out.2.1.below (((Below.refl B w4).drew).alloc HO4.out.2.1.2.2 (.cells cn 30))
          have hP5 := HO4.out.2.2.1.drew.alloc (.cells cn 30)
          have hsz5 : P1 < (w4.drew.alloc (.cells cn 30)).heap.size := hP5.lt
          refine step_one 3 rfl (by kernel_rfl) (fun K hK => ?_)
          refine step_append_at _ rfl (.tmp 34) (.tmp 36) 27 rfl B 30 ik _ 32 32 Tryd.underlying27 HKI.out.1 HKI.out.2.1 HKI.out.2.2.1 HKI.out.2.2.2 (by show (aeZ 32).toArray.size = 32; rfl) (by omega) u8 j (keysV (firstT t0 j)) rfl hown5 ⟨w4.drew.heap.size, 0, none⟩ 1 1 (tn.map u8v) rfl (by rw [List.length_map, HLN.out]) (fun q v hv => by rw [Go.WideShapes.add_plain, Nat.zero_add, hnew.cell]; exact hv) (u8v_one _) (by unfold maxLen; omega) (by omega) hM5.2.2 ?_
          intro v6 w6 ho6 hg6 hk6
          have HF := Lib.hid (show w6.ownsRow B 30 32 v6 (j + 1) (keysV (firstT t0 (j + 1))) ∧ MemB w B [blkE P0 30 (t0.map u8v)] w6 ∧ Rd w6 w6.heap.size (some ⟨P1, 0, none⟩) 32 (tB t0 (j + 1)) ∧ ∀ k, v6.ownBlock = some k → ∀ a, some (⟨P1, 0, none⟩ : Addr) = some a → a.block ≠ k from ⟨by
              rw [firstT_succ, keysV_append, HTE.out]; exact ho6,
            hM5.below ((Below.refl B _).grown hg6 hM5.2.2 (own_from hown5)),
            by
              rw [HTE.out]
              refine blk_all (hP5.grown hg6 (fun e => ?_)) HLN.out
              have := HO4.out.2.2.2 P1 e.symm
              omega,
            fun k hk a ha => by
              injection ha with ha
              subst ha
              show P1 ≠ k
              rcases hk6 with e | e
              · have := HO4.out.2.2.2 k (e ▸ hk); omega
              · rw [e] at hk; injection hk with hk; omega⟩)
          clear ho6 hg6 hk6 hown5 hnew hM5 hP5 hsz5
          refine hK.out _ _ trivial (fun hHeld => ?_)
          clear hK K HO4
          (try simp only [Act.put, List.setIfInBounds_toArray, List.set_cons_zero, List.set_cons_succ])
          refine take_first (v := ?_) 5 rfl (by kernel_rfl) (by kernel_rfl) (by kernel_rfl) (fun _ _ _ h => h) (Or.inl ⟨by rfl, ?_⟩) (by assumption) ?_
          rotate_left
          · (intro w hSw; (try dsimp only at hSw); go_simp; try with_reducible rfl)
          (try simp only [Act.put, List.setIfInBounds_toArray, List.set_cons_zero, List.set_cons_succ])
          refine take_first (v := ?_) 6 rfl (by kernel_rfl) (by kernel_rfl) (by kernel_rfl) (fun _ _ _ h => h) (Or.inl ⟨by rfl, ?_⟩) (by assumption) ?_
          rotate_left
          · (intro w hSw; (try dsimp only at hSw); go_simp; try with_reducible rfl)
          (try simp only [Act.put, List.setIfInBounds_toArray, List.set_cons_zero, List.set_cons_succ])
          refine wpAnyH_done (by kernel_rfl) ?_ _
          go_wp2
          go_roundw
          case rel => exact ⟨j + 1, by omega, by go_num, HF.out.1, HF.out.2.1, _, _, _, rfl, by omega, HF.out.2.2.1, HF.out.2.2.2⟩
          case measure => simp [intOf]; omega
        · obtain rfl : j = m := by omega
          obtain ⟨A9, c9, rfl⟩ : ∃ A c, u8 = .slice A j c := by
            rcases HO.out.1.2 with ⟨h, h0⟩ | ⟨g, cap, cur, h, _⟩
            · exact ⟨none, 0, by rw [h, h0]⟩
            · exact ⟨_, _, h⟩
          have dj : decide ((j : Int) + 1 ≤ (j : Int)) = false := by simp; omega
          have HF := Lib.hid (show wr.ownsRow w.heap.size 30 32 (.slice A9 j c9) j (keysV (firstT t0 j)) ∧ Below w.heap.size w wr from ⟨own_base HO.out.1 (Nat.le_trans HO.out.2.1.base (Nat.le_refl _)), HO.out.2.2.1⟩)
          clear HO HL
          go_wp2
          go_ret
          exact ⟨_, _, rfl, HF.out.1, HF.out.2⟩
end Go.Proofs.YtbochejgjmjieaaDoor
