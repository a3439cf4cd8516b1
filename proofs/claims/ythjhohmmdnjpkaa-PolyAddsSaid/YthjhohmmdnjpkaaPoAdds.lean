/-
  PolyAdds returns true for every key and data, and changes nothing that was there: the walk, over what is asked of poly.Sum.
-/
import Derived.Test.YthjhohmmdnjpkaaPoBegun
import Derived.Test.YthjhohmmdnjpkaaPoLaws2
import Derived.Test.YthjhohmmdnjpkaaCut
namespace Go.Proofs.Ythjhohmmdnjpkaa
open Go.RowKit

theorem step_two {P : Program} {md : Region.Mode} {ops : Array Oper} {Q : Exit → Act → World → Prop} {S : World → Prop} {r r' : List Oper} {o o' : Oper} {fuel : Nat} {listed : Array Bool} {a : Act} {w : World} (i j : Nat) (hi : ops.toList.drop i = o :: r) (hj : ops.toList.drop j = o' :: r')
    (hr : Region.ready md ops listed = [i, j])
    (h : ∀ K' : Act → World → Prop, Shut (∀ a w, S w → (S w → wpAnyH P md ops Q S fuel (listed.setIfInBounds i true) a w) → K' a w) → if Region.wanted o (yielded ops a.tmps) = true then Oper.wp P o a w K' Q else K' (a.put o.dst undef) w)
    (h' : ∀ K' : Act → World → Prop, Shut (∀ a w, S w → (S w → wpAnyH P md ops Q S fuel (listed.setIfInBounds j true) a w) → K' a w) → if Region.wanted o' (yielded ops a.tmps) = true then Oper.wp P o' a w K' Q else K' (a.put o'.dst undef) w) :
    wpAnyH P md ops Q S (fuel + 1) listed a w :=
  wpAnyH_ready hr (by simp) (AllReadyH.cons (getElem?_of_drop hi) h (AllReadyH.cons (getElem?_of_drop hj) h' AllReadyH.nil))
theorem step_three {P : Program} {md : Region.Mode} {ops : Array Oper} {Q : Exit → Act → World → Prop} {S : World → Prop} {r r' r'' : List Oper} {o o' o'' : Oper} {fuel : Nat} {listed : Array Bool} {a : Act} {w : World} (i j m : Nat) (hi : ops.toList.drop i = o :: r) (hj : ops.toList.drop j = o' :: r') (hm : ops.toList.drop m = o'' :: r'')
    (hr : Region.ready md ops listed = [i, j, m])
    (h : ∀ K' : Act → World → Prop, Shut (∀ a w, S w → (S w → wpAnyH P md ops Q S fuel (listed.setIfInBounds i true) a w) → K' a w) → if Region.wanted o (yielded ops a.tmps) = true then Oper.wp P o a w K' Q else K' (a.put o.dst undef) w)
    (h' : ∀ K' : Act → World → Prop, Shut (∀ a w, S w → (S w → wpAnyH P md ops Q S fuel (listed.setIfInBounds j true) a w) → K' a w) → if Region.wanted o' (yielded ops a.tmps) = true then Oper.wp P o' a w K' Q else K' (a.put o'.dst undef) w)
    (h'' : ∀ K' : Act → World → Prop, Shut (∀ a w, S w → (S w → wpAnyH P md ops Q S fuel (listed.setIfInBounds m true) a w) → K' a w) → if Region.wanted o'' (yielded ops a.tmps) = true then Oper.wp P o'' a w K' Q else K' (a.put o''.dst undef) w) :
    wpAnyH P md ops Q S (fuel + 1) listed a w :=
  wpAnyH_ready hr (by simp) (AllReadyH.cons (getElem?_of_drop hi) h (AllReadyH.cons (getElem?_of_drop hj) h' (AllReadyH.cons (getElem?_of_drop hm) h'' AllReadyH.nil)))

theorem w64 (n : Nat) (h : n < 100000) : wrap64 (n : Int) = (n : Int) := IntWalk.wrap64_in _ (by omega)
theorem i64w (n : Nat) (h : n < 100000) : IntKind.i64.wrap (n : Int) = (n : Int) := IntWalk.i64_in _ (by omega)

set_option maxRecDepth 100000 in
set_option maxHeartbeats 8000000 in
theorem adds_walk (HS : SumC) (w : World) (k : List UInt8) (A : Option Addr) (len cap : Nat) (l : List UInt8) (hk : k.length = 32) (hlc : len ≤ cap) (hcm : cap ≤ maxLen) (hr : Rd w w.heap.size A len l) :
    Calls Try.prog 6 #[.agg (k.map u8v).toArray, .slice A len cap] w fun e w' => e = .returned (.bool true) ∧ Below w.heap.size w w' := by
  have hzl : (tailRow k 32).length = 32 := tailRow_length k hk 32 (by omega) (by omega)
  obtain ⟨ck, hck⟩ : ∃ ck, (k.map u8v).toArray = ck := ⟨_, rfl⟩
  obtain ⟨cz, hcz⟩ : ∃ cz, ((tailRow k 32).map u8v).toArray = cz := ⟨_, rfl⟩
  rw [hck]
  have HB0 := Lib.hid (show Blk (w.alloc (.cells ck 23)) w.heap.size 23 (k.map u8v) by rw [← hck]; exact Blk.new w _ _)
  have HR := Lib.hid hr
  have HK := Lib.hid hk
  have HZL := Lib.hid hzl
  have HCK := Lib.hid hck
  have HCZ := Lib.hid hcz
  have HBG := Lib.hid (begun_any HS)
  have HSS := Lib.hid HS
  clear hr hk hzl hck hcz HS
  go_enter Try.func6, Try.ntmps6
  go_upto_region 1 with fail
  have hb0 : Below w.heap.size w (w.alloc (.cells ck 23)) := (Below.refl _ _).alloc (Nat.le_refl _) _
  have hs0 : (w.alloc (.cells ck 23)).heap.size = w.heap.size + 1 := by simp
  have hblk := HB0.out
  clear HB0
  generalize w.alloc (.cells ck 23) = w1 at hb0 hs0 hblk ⊢
  have H0 := Lib.hid (And.intro hblk (And.intro hb0 hs0))
  clear hb0 hs0 hblk
  go_wp2_with fail
  refine (cut_any _ A len cap 100 l hlc hcm _ ((HR.out.below H0.out.2.1).mono H0.out.2.1.size)).mono ?_
  rintro e w2 ⟨rfl, hr2, rfl⟩
  have hdl : (l.take 100).length = min len 100 := hr2.1
  obtain ⟨n, hn⟩ : ∃ n, min len 100 = n := ⟨_, rfl⟩
  obtain ⟨dl, hdle⟩ : ∃ dl, l.take 100 = dl := ⟨_, rfl⟩
  rw [hn, hdle] at hr2
  rw [hn]
  have hn100 : n ≤ 100 := by omega
  have hnc : n ≤ cap := by omega
  have HD := Lib.hid hr2
  clear hdl hn hdle hr2 HR hlc
  have hs1 := H0.out.2.2
  go_upto_region 3 with (first | (refine wpList_load_blk rfl 23 (.tmp 2) rfl w.heap.size rfl 23 (k.map u8v) H0.out.1 32 5 Try.underlying23 (cells32 k HK.out) ?_; rw [HCK.out]) | (refine wpList_store_blk rfl 23 (.tmp 6) (.tmp 15) rfl (w.heap.size + 1) (k.map u8v) rfl (by show Value.agg ck = _; rw [HCK.out]) 23 z32 (Blk.new' w1 hs1.symm 23 z32) (cells32 k HK.out) (by rw [List.length_map, HK.out]; rfl) (u8v_one _) ?_; intro w3 hb3 hg3))
  simp only [Act.put]
  have hb13 : Below w1.heap.size w1 w3 := Below.grown ((Below.refl _ _).alloc (Nat.le_refl _) (.cells z32.toArray 23)) hg3 (by simp) (by intro k hk; injection hk with hk; omega)
  have H1 := Lib.hid (show Blk w3 (w.heap.size + 1) 23 (k.map u8v) ∧ Blk w3 w.heap.size 23 (k.map u8v) ∧ Below w.heap.size w w3 ∧ w.heap.size + 2 ≤ w3.heap.size ∧ Below w1.heap.size w1 w3 from ⟨hb3, H0.out.1.below hb13 H0.out.1.lt, H0.out.2.1.trans (hb13.mono H0.out.2.1.size), by have := hg3.size; simp at this; omega, hb13⟩)
  have HS1 := Lib.hid hs1
  clear hb3 hg3 hb13 H0 hs1
  go_wp2_with fail
  go_loopw [7] (fun v wr => ∃ j : Nat, 16 ≤ j ∧ j ≤ 32 ∧ v = .int .i64 (j : Int) ∧ Blk wr (w.heap.size + 1) 23 ((tailRow k j).map u8v) ∧ Hid (Blk wr w.heap.size 23 (k.map u8v) ∧ Below w.heap.size w wr ∧ w.heap.size + 2 ≤ wr.heap.size ∧ Below w1.heap.size w1 wr)) (fun v _ => 32 - (intOf v).toNat)
  case atStart => exact ⟨16, by omega, by omega, rfl, by rw [tailRow_zero]; exact H1.out.1, Lib.hid H1.out.2⟩
  case round =>
    clear H1
    obtain ⟨j, h16, hj, rfl, hrow, HX⟩ := hrel
    by_cases hlt : j < 32
    · have d32 : decide ((j : Int) < 32) = true := by simp; omega
      have fx : ∃ u, wr.cell? ⟨w.heap.size + 1, j, none⟩ = some u := by
        rw [hrow.cell j]
        exact ⟨_, List.getElem?_eq_getElem (by rw [List.length_map, tailRow_length k HK.out j h16 hj]; omega)⟩
      obtain ⟨u, fx⟩ := fx
      have zx := hrow.frozen j
      have hset := hrow.set_ j (.int .u8 0)
      rw [show (.int .u8 0 : Value) = u8v 0 from rfl, ← List.map_set, tailRow_set k HK.out j h16 hlt, show u8v 0 = (.int .u8 0 : Value) from rfl] at hset
      have hs1 := HS1.out
      have HN := Lib.hid (show Blk (wr.setCell ⟨w.heap.size + 1, j, none⟩ (.int .u8 0)) (w.heap.size + 1) 23 ((tailRow k (j + 1)).map u8v) ∧ Blk (wr.setCell ⟨w.heap.size + 1, j, none⟩ (.int .u8 0)) w.heap.size 23 (k.map u8v) ∧ Below w.heap.size w (wr.setCell ⟨w.heap.size + 1, j, none⟩ (.int .u8 0)) ∧ w.heap.size + 2 ≤ (wr.setCell ⟨w.heap.size + 1, j, none⟩ (.int .u8 0)).heap.size ∧ Below w1.heap.size w1 (wr.setCell ⟨w.heap.size + 1, j, none⟩ (.int .u8 0)) from ⟨hset, HX.out.1.far (by simp) _, HX.out.2.1.setCell (by dsimp only; omega) _, by simpa [World.setCell] using HX.out.2.2.1, HX.out.2.2.2.setCell (by dsimp only; omega) _⟩)
      clear hrow HX hset hs1
      go_wp2_with fail
      go_roundw
      case rel => exact ⟨j + 1, by omega, by omega, by go_num, HN.out.1, Lib.hid HN.out.2⟩
      case measure => simp [intOf]; omega
    · obtain rfl : j = 32 := by omega
      have H2 := Lib.hid (And.intro hrow HX.out)
      clear hrow HX
      rw [show ((32 : Nat) : Int) = 32 from rfl]
      have hat := fun (w' : World) (h : Rd w' w'.heap.size A n dl) => HSS.out (tailRow k 32) HZL.out A n cap dl hnc hcm (by omega) w' h
      have hbt := fun (w' : World) (h : Rd w' w'.heap.size A n dl) => HSS.out k HK.out A n cap dl hnc hcm (by omega) w' h
      obtain ⟨ta, hta⟩ : ∃ t, tagL (tailRow k 32) dl = t := ⟨_, rfl⟩
      obtain ⟨tb, htb⟩ : ∃ t, tagL k dl = t := ⟨_, rfl⟩
      have HTA := Lib.hid (show ta.length = 16 ∧ ta = littleL (accI (rN k) dl ((dl.length + 15) / 16)) 16 by rw [← hta]; exact ⟨tagL_length _ _, tag_tail k HK.out dl⟩)
      have HTB := Lib.hid (show tb.length = 16 ∧ tb = littleL (accI (rN k) dl ((dl.length + 15) / 16) + sN k) 16 by rw [← htb]; exact ⟨tagL_length _ _, rfl⟩)
      rw [hta, HCZ.out] at hat
      rw [htb, HCK.out] at hbt
      obtain ⟨ca, hca⟩ : ∃ c, (ta.map u8v).toArray = c := ⟨_, rfl⟩
      obtain ⟨cb, hcb⟩ : ∃ c, (tb.map u8v).toArray = c := ⟨_, rfl⟩
      rw [hca] at hat
      rw [hcb] at hbt
      have HSA := Lib.hid hat
      have HSB := Lib.hid hbt
      have HCA := Lib.hid hca
      have HCB := Lib.hid hcb
      clear hat hbt hta htb hca hcb
      generalize accI (rN k) dl ((dl.length + 15) / 16) = N0 at HTA HTB
      go_upto_region 7 with fail
      have HDW := Lib.hid ((HD.out.below H2.out.2.2.2.2).mono H2.out.2.2.2.2.size)
      go_cut [8, 9] (fun v8 v9 wx => ∃ P Q, v8 = .pointer (some ⟨P, 0, none⟩) ∧ v9 = .pointer (some ⟨Q, 0, none⟩) ∧ Blk wx P 29 (ta.map u8v) ∧ Blk wx Q 29 (tb.map u8v) ∧ Blk wx w.heap.size 23 (k.map u8v) ∧ Below w.heap.size w wx)
      case first =>
        refine wp_region_held_drew (S := fun w' => Below wr.heap.size wr w') (by kernel_rfl) ((Below.refl wr.heap.size wr).drew) (fun hHeld => ?_)
        refine take_first (v := .agg cz) 0 rfl (by kernel_rfl) (by kernel_rfl) (by kernel_rfl) (fun _ _ _ h => h) (by rw [← HCZ.out]; exact yields_load_blk (by rfl) 23 (.tmp 6) rfl (w.heap.size + 1) rfl 23 ((tailRow k 32).map u8v) (fun w' hb => H2.out.1.below hb H2.out.1.lt) 32 5 Try.underlying23 (cells32 _ HZL.out)) (by assumption) ?_
        (try simp only [Act.put, List.setIfInBounds_toArray, List.set_cons_zero, List.set_cons_succ])
        refine take_first (v := ?_) 1 rfl (by kernel_rfl) (by kernel_rfl) (by kernel_rfl) (fun _ _ _ h => h) (Or.inl ⟨by rfl, ?_⟩) (by assumption) ?_
        rotate_left
        · (intro w hSw; (try dsimp only at hSw); go_simp; try with_reducible rfl)
        (try simp only [Act.put, List.setIfInBounds_toArray, List.set_cons_zero, List.set_cons_succ])
        refine take_first (v := .agg ck) 3 rfl (by kernel_rfl) (by kernel_rfl) (by kernel_rfl) (fun _ _ _ h => h) (by rw [← HCK.out]; exact yields_load_blk (by rfl) 23 (.tmp 2) rfl w.heap.size rfl 23 (k.map u8v) (fun w' hb => H2.out.2.1.below hb H2.out.2.1.lt) 32 5 Try.underlying23 (cells32 _ HK.out)) (by assumption) ?_
        (try simp only [Act.put, List.setIfInBounds_toArray, List.set_cons_zero, List.set_cons_succ])
        refine take_first (v := ?_) 4 rfl (by kernel_rfl) (by kernel_rfl) (by kernel_rfl) (fun _ _ _ h => h) (Or.inl ⟨by rfl, ?_⟩) (by assumption) ?_
        rotate_left
        · (intro w hSw; (try dsimp only at hSw); go_simp; try with_reducible rfl)
        (try simp only [Act.put, List.setIfInBounds_toArray, List.set_cons_zero, List.set_cons_succ])
        generalize hwd : wr.drew = wd at hHeld ⊢
        clear hwd
        refine step_three 2 6 7 rfl rfl rfl (by kernel_rfl) (fun K hK => ?_) (fun K hK => ?_) (fun K hK => ?_)
        · go_simp
          refine (HSA.out _ ((HDW.out.below hHeld).mono hHeld.size)).mono ?_
          rintro e wa ⟨rfl, hb⟩
          go_wp2_with fail
          refine hK.out _ _ (hHeld.trans (hb.mono hHeld.size)) (fun hHeld => ?_)
          clear hK K
          (try simp only [Act.put, List.setIfInBounds_toArray, List.set_cons_zero, List.set_cons_succ])
          clear hb
          refine step_three 5 6 7 rfl rfl rfl (by kernel_rfl) (fun K hK => ?_) (fun K hK => ?_) (fun K hK => ?_)
          · go_simp
            refine (HSB.out _ ((HDW.out.below hHeld).mono hHeld.size)).mono ?_
            rintro e wb ⟨rfl, hb⟩
            go_wp2_with fail
            refine hK.out _ _ (hHeld.trans (hb.mono hHeld.size)) (fun hHeld => ?_)
            clear hK K
            (try simp only [Act.put, List.setIfInBounds_toArray, List.set_cons_zero, List.set_cons_succ])
            clear hb
            refine step_two 6 7 rfl rfl (by kernel_rfl) (fun K hK => ?_) (fun K hK => ?_)
            · have HSZ := Lib.hid hHeld.size
              go_simp
              refine hK.out _ _ (hHeld.alloc hHeld.size _) (fun hHeld => ?_)
              clear hK K
              (try simp only [Act.put, List.setIfInBounds_toArray, List.set_cons_zero, List.set_cons_succ])
              have BP := Lib.hid (And.intro (show Blk ((wb).alloc (.cells zT.toArray 29)) (wb).heap.size 29 zT from Blk.new _ _ _) HSZ.out)
              rw [zT_arr] at BP
              generalize hwa : (wb).alloc (.cells #[.int .u8 0, .int .u8 0, .int .u8 0, .int .u8 0, .int .u8 0, .int .u8 0, .int .u8 0, .int .u8 0, .int .u8 0, .int .u8 0, .int .u8 0, .int .u8 0, .int .u8 0, .int .u8 0, .int .u8 0, .int .u8 0] 29) = wp at BP hHeld ⊢
              clear hwa
              generalize hX : (wb).heap.size = P at BP ⊢
              clear hX
              refine step_one 7 rfl (by kernel_rfl) (fun K hK => ?_)
              have HLT := Lib.hid BP.out.1.lt
              have HSZ := Lib.hid hHeld.size
              go_simp
              refine hK.out _ _ (hHeld.alloc hHeld.size _) (fun hHeld => ?_)
              clear hK K
              (try simp only [Act.put, List.setIfInBounds_toArray, List.set_cons_zero, List.set_cons_succ])
              replace BP := Lib.hid (And.intro (BP.out.1.below ((Below.refl _ _).alloc (Nat.le_refl _) (.cells zT.toArray 29)) BP.out.1.lt) BP.out.2)
              have BQ := Lib.hid (And.intro (show Blk ((wp).alloc (.cells zT.toArray 29)) (wp).heap.size 29 zT from Blk.new _ _ _) HSZ.out)
              rw [zT_arr] at BQ BP
              generalize hwa : (wp).alloc (.cells #[.int .u8 0, .int .u8 0, .int .u8 0, .int .u8 0, .int .u8 0, .int .u8 0, .int .u8 0, .int .u8 0, .int .u8 0, .int .u8 0, .int .u8 0, .int .u8 0, .int .u8 0, .int .u8 0, .int .u8 0, .int .u8 0] 29) = wq at BQ hHeld BP ⊢
              clear hwa
              generalize hX : (wp).heap.size = Q at BQ ⊢
              have HNE := Lib.hid (show P ≠ Q by have := HLT.out; omega)
              clear hX
              refine step_one 8 rfl (by kernel_rfl) (fun K hK => ?_)
              refine step_store_blk _ rfl 29 (.tmp 8) (.tmp 24) rfl P (ta.map u8v) rfl (by rw [HCA.out]; rfl) 29 zT BP.out.1 (cells16T ta HTA.out.1) (by rw [List.length_map, HTA.out.1]; rfl) (u8v_one _) ?_
              intro ws hbs hgs
              have hE := Below.grown hHeld hgs hHeld.size (by have := BP.out.2; intro k hk; injection hk with hk; omega)
              have BQ2 := Lib.hid (BQ.out.1.grown hgs (by have := HNE.out; simp; omega))
              have BP2 := Lib.hid hbs
              refine hK.out _ _ hE (fun hHeld => ?_)
              clear hK K hbs hgs hE
              simp only [Act.put]
              refine step_one 9 rfl (by kernel_rfl) (fun K hK => ?_)
              refine step_store_blk _ rfl 29 (.tmp 9) (.tmp 27) rfl Q (tb.map u8v) rfl (by rw [HCB.out]; rfl) 29 zT BQ2.out (cells16T tb HTB.out.1) (by rw [List.length_map, HTB.out.1]; rfl) (u8v_one _) ?_
              intro wt hbt hgt
              have hE := Below.grown hHeld hgt hHeld.size (by have := BQ.out.2; intro k hk; injection hk with hk; omega)
              have HF := Lib.hid (show Blk wt P 29 (ta.map u8v) ∧ Blk wt Q 29 (tb.map u8v) ∧ Blk wt w.heap.size 23 (k.map u8v) ∧ Below w.heap.size w wt from ⟨BP2.out.grown hgt (by have := HNE.out; simp; omega), hbt, H2.out.2.1.below hE H2.out.2.1.lt, H2.out.2.2.1.trans (hE.mono H2.out.2.2.1.size)⟩)
              refine hK.out _ _ hE (fun hHeld => ?_)
              clear hK K hbt hgt hE
              simp only [Act.put]
              refine wpAnyH_done (by kernel_rfl) ?_ _
              clear hHeld
              go_wp2
              go_meet
              exact ⟨P, Q, rfl, rfl, HF.out⟩
            · have HSZ := Lib.hid hHeld.size
              go_simp
              refine hK.out _ _ (hHeld.alloc hHeld.size _) (fun hHeld => ?_)
              clear hK K
              (try simp only [Act.put, List.setIfInBounds_toArray, List.set_cons_zero, List.set_cons_succ])
              have BQ := Lib.hid (And.intro (show Blk ((wb).alloc (.cells zT.toArray 29)) (wb).heap.size 29 zT from Blk.new _ _ _) HSZ.out)
              rw [zT_arr] at BQ
              generalize hwa : (wb).alloc (.cells #[.int .u8 0, .int .u8 0, .int .u8 0, .int .u8 0, .int .u8 0, .int .u8 0, .int .u8 0, .int .u8 0, .int .u8 0, .int .u8 0, .int .u8 0, .int .u8 0, .int .u8 0, .int .u8 0, .int .u8 0, .int .u8 0] 29) = wq at BQ hHeld ⊢
              clear hwa
              generalize hX : (wb).heap.size = Q at BQ ⊢
              clear hX
              refine step_one 6 rfl (by kernel_rfl) (fun K hK => ?_)
              have HLT := Lib.hid BQ.out.1.lt
              have HSZ := Lib.hid hHeld.size
              go_simp
              refine hK.out _ _ (hHeld.alloc hHeld.size _) (fun hHeld => ?_)
              clear hK K
              (try simp only [Act.put, List.setIfInBounds_toArray, List.set_cons_zero, List.set_cons_succ])
              replace BQ := Lib.hid (And.intro (BQ.out.1.below ((Below.refl _ _).alloc (Nat.le_refl _) (.cells zT.toArray 29)) BQ.out.1.lt) BQ.out.2)
              have BP := Lib.hid (And.intro (show Blk ((wq).alloc (.cells zT.toArray 29)) (wq).heap.size 29 zT from Blk.new _ _ _) HSZ.out)
              rw [zT_arr] at BP BQ
              generalize hwa : (wq).alloc (.cells #[.int .u8 0, .int .u8 0, .int .u8 0, .int .u8 0, .int .u8 0, .int .u8 0, .int .u8 0, .int .u8 0, .int .u8 0, .int .u8 0, .int .u8 0, .int .u8 0, .int .u8 0, .int .u8 0, .int .u8 0, .int .u8 0] 29) = wp at BP hHeld BQ ⊢
              clear hwa
              generalize hX : (wq).heap.size = P at BP ⊢
              have HNE := Lib.hid (show P ≠ Q by have := HLT.out; omega)
              clear hX
              refine step_one 8 rfl (by kernel_rfl) (fun K hK => ?_)
              refine step_store_blk _ rfl 29 (.tmp 8) (.tmp 24) rfl P (ta.map u8v) rfl (by rw [HCA.out]; rfl) 29 zT BP.out.1 (cells16T ta HTA.out.1) (by rw [List.length_map, HTA.out.1]; rfl) (u8v_one _) ?_
              intro ws hbs hgs
              have hE := Below.grown hHeld hgs hHeld.size (by have := BP.out.2; intro k hk; injection hk with hk; omega)
              have BQ2 := Lib.hid (BQ.out.1.grown hgs (by have := HNE.out; simp; omega))
              have BP2 := Lib.hid hbs
              refine hK.out _ _ hE (fun hHeld => ?_)
              clear hK K hbs hgs hE
              simp only [Act.put]
              refine step_one 9 rfl (by kernel_rfl) (fun K hK => ?_)
              refine step_store_blk _ rfl 29 (.tmp 9) (.tmp 27) rfl Q (tb.map u8v) rfl (by rw [HCB.out]; rfl) 29 zT BQ2.out (cells16T tb HTB.out.1) (by rw [List.length_map, HTB.out.1]; rfl) (u8v_one _) ?_
              intro wt hbt hgt
              have hE := Below.grown hHeld hgt hHeld.size (by have := BQ.out.2; intro k hk; injection hk with hk; omega)
              have HF := Lib.hid (show Blk wt P 29 (ta.map u8v) ∧ Blk wt Q 29 (tb.map u8v) ∧ Blk wt w.heap.size 23 (k.map u8v) ∧ Below w.heap.size w wt from ⟨BP2.out.grown hgt (by have := HNE.out; simp; omega), hbt, H2.out.2.1.below hE H2.out.2.1.lt, H2.out.2.2.1.trans (hE.mono H2.out.2.2.1.size)⟩)
              refine hK.out _ _ hE (fun hHeld => ?_)
              clear hK K hbt hgt hE
              simp only [Act.put]
              refine wpAnyH_done (by kernel_rfl) ?_ _
              clear hHeld
              go_wp2
              go_meet
              exact ⟨P, Q, rfl, rfl, HF.out⟩
          · have HSZ := Lib.hid hHeld.size
            go_simp
            refine hK.out _ _ (hHeld.alloc hHeld.size _) (fun hHeld => ?_)
            clear hK K
            (try simp only [Act.put, List.setIfInBounds_toArray, List.set_cons_zero, List.set_cons_succ])
            have BP := Lib.hid (And.intro (show Blk ((wa).alloc (.cells zT.toArray 29)) (wa).heap.size 29 zT from Blk.new _ _ _) HSZ.out)
            rw [zT_arr] at BP
            generalize hwa : (wa).alloc (.cells #[.int .u8 0, .int .u8 0, .int .u8 0, .int .u8 0, .int .u8 0, .int .u8 0, .int .u8 0, .int .u8 0, .int .u8 0, .int .u8 0, .int .u8 0, .int .u8 0, .int .u8 0, .int .u8 0, .int .u8 0, .int .u8 0] 29) = wp at BP hHeld ⊢
            clear hwa
            generalize hX : (wa).heap.size = P at BP ⊢
            clear hX
            refine step_two 5 7 rfl rfl (by kernel_rfl) (fun K hK => ?_) (fun K hK => ?_)
            · go_simp
              refine (HSB.out _ ((HDW.out.below hHeld).mono hHeld.size)).mono ?_
              rintro e wb ⟨rfl, hb⟩
              replace BP := Lib.hid (And.intro (BP.out.1.below hb BP.out.1.lt) BP.out.2)
              go_wp2_with fail
              refine hK.out _ _ (hHeld.trans (hb.mono hHeld.size)) (fun hHeld => ?_)
              clear hK K
              (try simp only [Act.put, List.setIfInBounds_toArray, List.set_cons_zero, List.set_cons_succ])
              clear hb
              refine step_one 7 rfl (by kernel_rfl) (fun K hK => ?_)
              have HLT := Lib.hid BP.out.1.lt
              have HSZ := Lib.hid hHeld.size
              go_simp
              refine hK.out _ _ (hHeld.alloc hHeld.size _) (fun hHeld => ?_)
              clear hK K
              (try simp only [Act.put, List.setIfInBounds_toArray, List.set_cons_zero, List.set_cons_succ])
              replace BP := Lib.hid (And.intro (BP.out.1.below ((Below.refl _ _).alloc (Nat.le_refl _) (.cells zT.toArray 29)) BP.out.1.lt) BP.out.2)
              have BQ := Lib.hid (And.intro (show Blk ((wb).alloc (.cells zT.toArray 29)) (wb).heap.size 29 zT from Blk.new _ _ _) HSZ.out)
              rw [zT_arr] at BQ BP
              generalize hwa : (wb).alloc (.cells #[.int .u8 0, .int .u8 0, .int .u8 0, .int .u8 0, .int .u8 0, .int .u8 0, .int .u8 0, .int .u8 0, .int .u8 0, .int .u8 0, .int .u8 0, .int .u8 0, .int .u8 0, .int .u8 0, .int .u8 0, .int .u8 0] 29) = wq at BQ hHeld BP ⊢
              clear hwa
              generalize hX : (wb).heap.size = Q at BQ ⊢
              have HNE := Lib.hid (show P ≠ Q by have := HLT.out; omega)
              clear hX
              refine step_one 8 rfl (by kernel_rfl) (fun K hK => ?_)
              refine step_store_blk _ rfl 29 (.tmp 8) (.tmp 24) rfl P (ta.map u8v) rfl (by rw [HCA.out]; rfl) 29 zT BP.out.1 (cells16T ta HTA.out.1) (by rw [List.length_map, HTA.out.1]; rfl) (u8v_one _) ?_
              intro ws hbs hgs
              have hE := Below.grown hHeld hgs hHeld.size (by have := BP.out.2; intro k hk; injection hk with hk; omega)
              have BQ2 := Lib.hid (BQ.out.1.grown hgs (by have := HNE.out; simp; omega))
              have BP2 := Lib.hid hbs
              refine hK.out _ _ hE (fun hHeld => ?_)
              clear hK K hbs hgs hE
              simp only [Act.put]
              refine step_one 9 rfl (by kernel_rfl) (fun K hK => ?_)
              refine step_store_blk _ rfl 29 (.tmp 9) (.tmp 27) rfl Q (tb.map u8v) rfl (by rw [HCB.out]; rfl) 29 zT BQ2.out (cells16T tb HTB.out.1) (by rw [List.length_map, HTB.out.1]; rfl) (u8v_one _) ?_
              intro wt hbt hgt
              have hE := Below.grown hHeld hgt hHeld.size (by have := BQ.out.2; intro k hk; injection hk with hk; omega)
              have HF := Lib.hid (show Blk wt P 29 (ta.map u8v) ∧ Blk wt Q 29 (tb.map u8v) ∧ Blk wt w.heap.size 23 (k.map u8v) ∧ Below w.heap.size w wt from ⟨BP2.out.grown hgt (by have := HNE.out; simp; omega), hbt, H2.out.2.1.below hE H2.out.2.1.lt, H2.out.2.2.1.trans (hE.mono H2.out.2.2.1.size)⟩)
              refine hK.out _ _ hE (fun hHeld => ?_)
              clear hK K hbt hgt hE
              simp only [Act.put]
              refine wpAnyH_done (by kernel_rfl) ?_ _
              clear hHeld
              go_wp2
              go_meet
              exact ⟨P, Q, rfl, rfl, HF.out⟩
            · have HLT := Lib.hid BP.out.1.lt
              have HSZ := Lib.hid hHeld.size
              go_simp
              refine hK.out _ _ (hHeld.alloc hHeld.size _) (fun hHeld => ?_)
              clear hK K
              (try simp only [Act.put, List.setIfInBounds_toArray, List.set_cons_zero, List.set_cons_succ])
              replace BP := Lib.hid (And.intro (BP.out.1.below ((Below.refl _ _).alloc (Nat.le_refl _) (.cells zT.toArray 29)) BP.out.1.lt) BP.out.2)
              have BQ := Lib.hid (And.intro (show Blk ((wp).alloc (.cells zT.toArray 29)) (wp).heap.size 29 zT from Blk.new _ _ _) HSZ.out)
              rw [zT_arr] at BQ BP
              generalize hwa : (wp).alloc (.cells #[.int .u8 0, .int .u8 0, .int .u8 0, .int .u8 0, .int .u8 0, .int .u8 0, .int .u8 0, .int .u8 0, .int .u8 0, .int .u8 0, .int .u8 0, .int .u8 0, .int .u8 0, .int .u8 0, .int .u8 0, .int .u8 0] 29) = wq at BQ hHeld BP ⊢
              clear hwa
              generalize hX : (wp).heap.size = Q at BQ ⊢
              have HNE := Lib.hid (show P ≠ Q by have := HLT.out; omega)
              clear hX
              refine step_one 5 rfl (by kernel_rfl) (fun K hK => ?_)
              go_simp
              refine (HSB.out _ ((HDW.out.below hHeld).mono hHeld.size)).mono ?_
              rintro e wb ⟨rfl, hb⟩
              replace BP := Lib.hid (And.intro (BP.out.1.below hb BP.out.1.lt) BP.out.2)
              replace BQ := Lib.hid (And.intro (BQ.out.1.below hb BQ.out.1.lt) BQ.out.2)
              go_wp2_with fail
              refine hK.out _ _ (hHeld.trans (hb.mono hHeld.size)) (fun hHeld => ?_)
              clear hK K
              (try simp only [Act.put, List.setIfInBounds_toArray, List.set_cons_zero, List.set_cons_succ])
              clear hb
              refine step_one 8 rfl (by kernel_rfl) (fun K hK => ?_)
              refine step_store_blk _ rfl 29 (.tmp 8) (.tmp 24) rfl P (ta.map u8v) rfl (by rw [HCA.out]; rfl) 29 zT BP.out.1 (cells16T ta HTA.out.1) (by rw [List.length_map, HTA.out.1]; rfl) (u8v_one _) ?_
              intro ws hbs hgs
              have hE := Below.grown hHeld hgs hHeld.size (by have := BP.out.2; intro k hk; injection hk with hk; omega)
              have BQ2 := Lib.hid (BQ.out.1.grown hgs (by have := HNE.out; simp; omega))
              have BP2 := Lib.hid hbs
              refine hK.out _ _ hE (fun hHeld => ?_)
              clear hK K hbs hgs hE
              simp only [Act.put]
              refine step_one 9 rfl (by kernel_rfl) (fun K hK => ?_)
              refine step_store_blk _ rfl 29 (.tmp 9) (.tmp 27) rfl Q (tb.map u8v) rfl (by rw [HCB.out]; rfl) 29 zT BQ2.out (cells16T tb HTB.out.1) (by rw [List.length_map, HTB.out.1]; rfl) (u8v_one _) ?_
              intro wt hbt hgt
              have hE := Below.grown hHeld hgt hHeld.size (by have := BQ.out.2; intro k hk; injection hk with hk; omega)
              have HF := Lib.hid (show Blk wt P 29 (ta.map u8v) ∧ Blk wt Q 29 (tb.map u8v) ∧ Blk wt w.heap.size 23 (k.map u8v) ∧ Below w.heap.size w wt from ⟨BP2.out.grown hgt (by have := HNE.out; simp; omega), hbt, H2.out.2.1.below hE H2.out.2.1.lt, H2.out.2.2.1.trans (hE.mono H2.out.2.2.1.size)⟩)
              refine hK.out _ _ hE (fun hHeld => ?_)
              clear hK K hbt hgt hE
              simp only [Act.put]
              refine wpAnyH_done (by kernel_rfl) ?_ _
              clear hHeld
              go_wp2
              go_meet
              exact ⟨P, Q, rfl, rfl, HF.out⟩
          · have HSZ := Lib.hid hHeld.size
            go_simp
            refine hK.out _ _ (hHeld.alloc hHeld.size _) (fun hHeld => ?_)
            clear hK K
            (try simp only [Act.put, List.setIfInBounds_toArray, List.set_cons_zero, List.set_cons_succ])
            have BQ := Lib.hid (And.intro (show Blk ((wa).alloc (.cells zT.toArray 29)) (wa).heap.size 29 zT from Blk.new _ _ _) HSZ.out)
            rw [zT_arr] at BQ
            generalize hwa : (wa).alloc (.cells #[.int .u8 0, .int .u8 0, .int .u8 0, .int .u8 0, .int .u8 0, .int .u8 0, .int .u8 0, .int .u8 0, .int .u8 0, .int .u8 0, .int .u8 0, .int .u8 0, .int .u8 0, .int .u8 0, .int .u8 0, .int .u8 0] 29) = wq at BQ hHeld ⊢
            clear hwa
            generalize hX : (wa).heap.size = Q at BQ ⊢
            clear hX
            refine step_two 5 6 rfl rfl (by kernel_rfl) (fun K hK => ?_) (fun K hK => ?_)
            · go_simp
              refine (HSB.out _ ((HDW.out.below hHeld).mono hHeld.size)).mono ?_
              rintro e wb ⟨rfl, hb⟩
              replace BQ := Lib.hid (And.intro (BQ.out.1.below hb BQ.out.1.lt) BQ.out.2)
              go_wp2_with fail
              refine hK.out _ _ (hHeld.trans (hb.mono hHeld.size)) (fun hHeld => ?_)
              clear hK K
              (try simp only [Act.put, List.setIfInBounds_toArray, List.set_cons_zero, List.set_cons_succ])
              clear hb
              refine step_one 6 rfl (by kernel_rfl) (fun K hK => ?_)
              have HLT := Lib.hid BQ.out.1.lt
              have HSZ := Lib.hid hHeld.size
              go_simp
              refine hK.out _ _ (hHeld.alloc hHeld.size _) (fun hHeld => ?_)
              clear hK K
              (try simp only [Act.put, List.setIfInBounds_toArray, List.set_cons_zero, List.set_cons_succ])
              replace BQ := Lib.hid (And.intro (BQ.out.1.below ((Below.refl _ _).alloc (Nat.le_refl _) (.cells zT.toArray 29)) BQ.out.1.lt) BQ.out.2)
              have BP := Lib.hid (And.intro (show Blk ((wb).alloc (.cells zT.toArray 29)) (wb).heap.size 29 zT from Blk.new _ _ _) HSZ.out)
              rw [zT_arr] at BP BQ
              generalize hwa : (wb).alloc (.cells #[.int .u8 0, .int .u8 0, .int .u8 0, .int .u8 0, .int .u8 0, .int .u8 0, .int .u8 0, .int .u8 0, .int .u8 0, .int .u8 0, .int .u8 0, .int .u8 0, .int .u8 0, .int .u8 0, .int .u8 0, .int .u8 0] 29) = wp at BP hHeld BQ ⊢
              clear hwa
              generalize hX : (wb).heap.size = P at BP ⊢
              have HNE := Lib.hid (show P ≠ Q by have := HLT.out; omega)
              clear hX
              refine step_one 8 rfl (by kernel_rfl) (fun K hK => ?_)
              refine step_store_blk _ rfl 29 (.tmp 8) (.tmp 24) rfl P (ta.map u8v) rfl (by rw [HCA.out]; rfl) 29 zT BP.out.1 (cells16T ta HTA.out.1) (by rw [List.length_map, HTA.out.1]; rfl) (u8v_one _) ?_
              intro ws hbs hgs
              have hE := Below.grown hHeld hgs hHeld.size (by have := BP.out.2; intro k hk; injection hk with hk; omega)
              have BQ2 := Lib.hid (BQ.out.1.grown hgs (by have := HNE.out; simp; omega))
              have BP2 := Lib.hid hbs
              refine hK.out _ _ hE (fun hHeld => ?_)
              clear hK K hbs hgs hE
              simp only [Act.put]
              refine step_one 9 rfl (by kernel_rfl) (fun K hK => ?_)
              refine step_store_blk _ rfl 29 (.tmp 9) (.tmp 27) rfl Q (tb.map u8v) rfl (by rw [HCB.out]; rfl) 29 zT BQ2.out (cells16T tb HTB.out.1) (by rw [List.length_map, HTB.out.1]; rfl) (u8v_one _) ?_
              intro wt hbt hgt
              have hE := Below.grown hHeld hgt hHeld.size (by have := BQ.out.2; intro k hk; injection hk with hk; omega)
              have HF := Lib.hid (show Blk wt P 29 (ta.map u8v) ∧ Blk wt Q 29 (tb.map u8v) ∧ Blk wt w.heap.size 23 (k.map u8v) ∧ Below w.heap.size w wt from ⟨BP2.out.grown hgt (by have := HNE.out; simp; omega), hbt, H2.out.2.1.below hE H2.out.2.1.lt, H2.out.2.2.1.trans (hE.mono H2.out.2.2.1.size)⟩)
              refine hK.out _ _ hE (fun hHeld => ?_)
              clear hK K hbt hgt hE
              simp only [Act.put]
              refine wpAnyH_done (by kernel_rfl) ?_ _
              clear hHeld
              go_wp2
              go_meet
              exact ⟨P, Q, rfl, rfl, HF.out⟩
            · have HLT := Lib.hid BQ.out.1.lt
              have HSZ := Lib.hid hHeld.size
              go_simp
              refine hK.out _ _ (hHeld.alloc hHeld.size _) (fun hHeld => ?_)
              clear hK K
              (try simp only [Act.put, List.setIfInBounds_toArray, List.set_cons_zero, List.set_cons_succ])
              replace BQ := Lib.hid (And.intro (BQ.out.1.below ((Below.refl _ _).alloc (Nat.le_refl _) (.cells zT.toArray 29)) BQ.out.1.lt) BQ.out.2)
              have BP := Lib.hid (And.intro (show Blk ((wq).alloc (.cells zT.toArray 29)) (wq).heap.size 29 zT from Blk.new _ _ _) HSZ.out)
              rw [zT_arr] at BP BQ
              generalize hwa : (wq).alloc (.cells #[.int .u8 0, .int .u8 0, .int .u8 0, .int .u8 0, .int .u8 0, .int .u8 0, .int .u8 0, .int .u8 0, .int .u8 0, .int .u8 0, .int .u8 0, .int .u8 0, .int .u8 0, .int .u8 0, .int .u8 0, .int .u8 0] 29) = wp at BP hHeld BQ ⊢
              clear hwa
              generalize hX : (wq).heap.size = P at BP ⊢
              have HNE := Lib.hid (show P ≠ Q by have := HLT.out; omega)
              clear hX
              refine step_one 5 rfl (by kernel_rfl) (fun K hK => ?_)
              go_simp
              refine (HSB.out _ ((HDW.out.below hHeld).mono hHeld.size)).mono ?_
              rintro e wb ⟨rfl, hb⟩
              replace BP := Lib.hid (And.intro (BP.out.1.below hb BP.out.1.lt) BP.out.2)
              replace BQ := Lib.hid (And.intro (BQ.out.1.below hb BQ.out.1.lt) BQ.out.2)
              go_wp2_with fail
              refine hK.out _ _ (hHeld.trans (hb.mono hHeld.size)) (fun hHeld => ?_)
              clear hK K
              (try simp only [Act.put, List.setIfInBounds_toArray, List.set_cons_zero, List.set_cons_succ])
              clear hb
              refine step_one 8 rfl (by kernel_rfl) (fun K hK => ?_)
              refine step_store_blk _ rfl 29 (.tmp 8) (.tmp 24) rfl P (ta.map u8v) rfl (by rw [HCA.out]; rfl) 29 zT BP.out.1 (cells16T ta HTA.out.1) (by rw [List.length_map, HTA.out.1]; rfl) (u8v_one _) ?_
              intro ws hbs hgs
              have hE := Below.grown hHeld hgs hHeld.size (by have := BP.out.2; intro k hk; injection hk with hk; omega)
              have BQ2 := Lib.hid (BQ.out.1.grown hgs (by have := HNE.out; simp; omega))
              have BP2 := Lib.hid hbs
              refine hK.out _ _ hE (fun hHeld => ?_)
              clear hK K hbs hgs hE
              simp only [Act.put]
              refine step_one 9 rfl (by kernel_rfl) (fun K hK => ?_)
              refine step_store_blk _ rfl 29 (.tmp 9) (.tmp 27) rfl Q (tb.map u8v) rfl (by rw [HCB.out]; rfl) 29 zT BQ2.out (cells16T tb HTB.out.1) (by rw [List.length_map, HTB.out.1]; rfl) (u8v_one _) ?_
              intro wt hbt hgt
              have hE := Below.grown hHeld hgt hHeld.size (by have := BQ.out.2; intro k hk; injection hk with hk; omega)
              have HF := Lib.hid (show Blk wt P 29 (ta.map u8v) ∧ Blk wt Q 29 (tb.map u8v) ∧ Blk wt w.heap.size 23 (k.map u8v) ∧ Below w.heap.size w wt from ⟨BP2.out.grown hgt (by have := HNE.out; simp; omega), hbt, H2.out.2.1.below hE H2.out.2.1.lt, H2.out.2.2.1.trans (hE.mono H2.out.2.2.1.size)⟩)
              refine hK.out _ _ hE (fun hHeld => ?_)
              clear hK K hbt hgt hE
              simp only [Act.put]
              refine wpAnyH_done (by kernel_rfl) ?_ _
              clear hHeld
              go_wp2
              go_meet
              exact ⟨P, Q, rfl, rfl, HF.out⟩
        · have HSZ := Lib.hid hHeld.size
          go_simp
          refine hK.out _ _ (hHeld.alloc hHeld.size _) (fun hHeld => ?_)
          clear hK K
          (try simp only [Act.put, List.setIfInBounds_toArray, List.set_cons_zero, List.set_cons_succ])
          have BP := Lib.hid (And.intro (show Blk ((wd).alloc (.cells zT.toArray 29)) (wd).heap.size 29 zT from Blk.new _ _ _) HSZ.out)
          rw [zT_arr] at BP
          generalize hwa : (wd).alloc (.cells #[.int .u8 0, .int .u8 0, .int .u8 0, .int .u8 0, .int .u8 0, .int .u8 0, .int .u8 0, .int .u8 0, .int .u8 0, .int .u8 0, .int .u8 0, .int .u8 0, .int .u8 0, .int .u8 0, .int .u8 0, .int .u8 0] 29) = wp at BP hHeld ⊢
          clear hwa
          generalize hX : (wd).heap.size = P at BP ⊢
          clear hX
          refine step_two 2 7 rfl rfl (by kernel_rfl) (fun K hK => ?_) (fun K hK => ?_)
          · go_simp
            refine (HSA.out _ ((HDW.out.below hHeld).mono hHeld.size)).mono ?_
            rintro e wa ⟨rfl, hb⟩
            replace BP := Lib.hid (And.intro (BP.out.1.below hb BP.out.1.lt) BP.out.2)
            go_wp2_with fail
            refine hK.out _ _ (hHeld.trans (hb.mono hHeld.size)) (fun hHeld => ?_)
            clear hK K
            (try simp only [Act.put, List.setIfInBounds_toArray, List.set_cons_zero, List.set_cons_succ])
            clear hb
            refine step_two 5 7 rfl rfl (by kernel_rfl) (fun K hK => ?_) (fun K hK => ?_)
            · go_simp
              refine (HSB.out _ ((HDW.out.below hHeld).mono hHeld.size)).mono ?_
              rintro e wb ⟨rfl, hb⟩
              replace BP := Lib.hid (And.intro (BP.out.1.below hb BP.out.1.lt) BP.out.2)
              go_wp2_with fail
              refine hK.out _ _ (hHeld.trans (hb.mono hHeld.size)) (fun hHeld => ?_)
              clear hK K
              (try simp only [Act.put, List.setIfInBounds_toArray, List.set_cons_zero, List.set_cons_succ])
              clear hb
              refine step_one 7 rfl (by kernel_rfl) (fun K hK => ?_)
              have HLT := Lib.hid BP.out.1.lt
              have HSZ := Lib.hid hHeld.size
              go_simp
              refine hK.out _ _ (hHeld.alloc hHeld.size _) (fun hHeld => ?_)
              clear hK K
              (try simp only [Act.put, List.setIfInBounds_toArray, List.set_cons_zero, List.set_cons_succ])
              replace BP := Lib.hid (And.intro (BP.out.1.below ((Below.refl _ _).alloc (Nat.le_refl _) (.cells zT.toArray 29)) BP.out.1.lt) BP.out.2)
              have BQ := Lib.hid (And.intro (show Blk ((wb).alloc (.cells zT.toArray 29)) (wb).heap.size 29 zT from Blk.new _ _ _) HSZ.out)
              rw [zT_arr] at BQ BP
              generalize hwa : (wb).alloc (.cells #[.int .u8 0, .int .u8 0, .int .u8 0, .int .u8 0, .int .u8 0, .int .u8 0, .int .u8 0, .int .u8 0, .int .u8 0, .int .u8 0, .int .u8 0, .int .u8 0, .int .u8 0, .int .u8 0, .int .u8 0, .int .u8 0] 29) = wq at BQ hHeld BP ⊢
              clear hwa
              generalize hX : (wb).heap.size = Q at BQ ⊢
              have HNE := Lib.hid (show P ≠ Q by have := HLT.out; omega)
              clear hX
              refine step_one 8 rfl (by kernel_rfl) (fun K hK => ?_)
              refine step_store_blk _ rfl 29 (.tmp 8) (.tmp 24) rfl P (ta.map u8v) rfl (by rw [HCA.out]; rfl) 29 zT BP.out.1 (cells16T ta HTA.out.1) (by rw [List.length_map, HTA.out.1]; rfl) (u8v_one _) ?_
              intro ws hbs hgs
              have hE := Below.grown hHeld hgs hHeld.size (by have := BP.out.2; intro k hk; injection hk with hk; omega)
              have BQ2 := Lib.hid (BQ.out.1.grown hgs (by have := HNE.out; simp; omega))
              have BP2 := Lib.hid hbs
              refine hK.out _ _ hE (fun hHeld => ?_)
              clear hK K hbs hgs hE
              simp only [Act.put]
              refine step_one 9 rfl (by kernel_rfl) (fun K hK => ?_)
              refine step_store_blk _ rfl 29 (.tmp 9) (.tmp 27) rfl Q (tb.map u8v) rfl (by rw [HCB.out]; rfl) 29 zT BQ2.out (cells16T tb HTB.out.1) (by rw [List.length_map, HTB.out.1]; rfl) (u8v_one _) ?_
              intro wt hbt hgt
              have hE := Below.grown hHeld hgt hHeld.size (by have := BQ.out.2; intro k hk; injection hk with hk; omega)
              have HF := Lib.hid (show Blk wt P 29 (ta.map u8v) ∧ Blk wt Q 29 (tb.map u8v) ∧ Blk wt w.heap.size 23 (k.map u8v) ∧ Below w.heap.size w wt from ⟨BP2.out.grown hgt (by have := HNE.out; simp; omega), hbt, H2.out.2.1.below hE H2.out.2.1.lt, H2.out.2.2.1.trans (hE.mono H2.out.2.2.1.size)⟩)
              refine hK.out _ _ hE (fun hHeld => ?_)
              clear hK K hbt hgt hE
              simp only [Act.put]
              refine wpAnyH_done (by kernel_rfl) ?_ _
              clear hHeld
              go_wp2
              go_meet
              exact ⟨P, Q, rfl, rfl, HF.out⟩
            · have HLT := Lib.hid BP.out.1.lt
              have HSZ := Lib.hid hHeld.size
              go_simp
              refine hK.out _ _ (hHeld.alloc hHeld.size _) (fun hHeld => ?_)
              clear hK K
              (try simp only [Act.put, List.setIfInBounds_toArray, List.set_cons_zero, List.set_cons_succ])
              replace BP := Lib.hid (And.intro (BP.out.1.below ((Below.refl _ _).alloc (Nat.le_refl _) (.cells zT.toArray 29)) BP.out.1.lt) BP.out.2)
              have BQ := Lib.hid (And.intro (show Blk ((wa).alloc (.cells zT.toArray 29)) (wa).heap.size 29 zT from Blk.new _ _ _) HSZ.out)
              rw [zT_arr] at BQ BP
              generalize hwa : (wa).alloc (.cells #[.int .u8 0, .int .u8 0, .int .u8 0, .int .u8 0, .int .u8 0, .int .u8 0, .int .u8 0, .int .u8 0, .int .u8 0, .int .u8 0, .int .u8 0, .int .u8 0, .int .u8 0, .int .u8 0, .int .u8 0, .int .u8 0] 29) = wq at BQ hHeld BP ⊢
              clear hwa
              generalize hX : (wa).heap.size = Q at BQ ⊢
              have HNE := Lib.hid (show P ≠ Q by have := HLT.out; omega)
              clear hX
              refine step_one 5 rfl (by kernel_rfl) (fun K hK => ?_)
              go_simp
              refine (HSB.out _ ((HDW.out.below hHeld).mono hHeld.size)).mono ?_
              rintro e wb ⟨rfl, hb⟩
              replace BP := Lib.hid (And.intro (BP.out.1.below hb BP.out.1.lt) BP.out.2)
              replace BQ := Lib.hid (And.intro (BQ.out.1.below hb BQ.out.1.lt) BQ.out.2)
              go_wp2_with fail
              refine hK.out _ _ (hHeld.trans (hb.mono hHeld.size)) (fun hHeld => ?_)
              clear hK K
              (try simp only [Act.put, List.setIfInBounds_toArray, List.set_cons_zero, List.set_cons_succ])
              clear hb
              refine step_one 8 rfl (by kernel_rfl) (fun K hK => ?_)
              refine step_store_blk _ rfl 29 (.tmp 8) (.tmp 24) rfl P (ta.map u8v) rfl (by rw [HCA.out]; rfl) 29 zT BP.out.1 (cells16T ta HTA.out.1) (by rw [List.length_map, HTA.out.1]; rfl) (u8v_one _) ?_
              intro ws hbs hgs
              have hE := Below.grown hHeld hgs hHeld.size (by have := BP.out.2; intro k hk; injection hk with hk; omega)
              have BQ2 := Lib.hid (BQ.out.1.grown hgs (by have := HNE.out; simp; omega))
              have BP2 := Lib.hid hbs
              refine hK.out _ _ hE (fun hHeld => ?_)
              clear hK K hbs hgs hE
              simp only [Act.put]
              refine step_one 9 rfl (by kernel_rfl) (fun K hK => ?_)
              refine step_store_blk _ rfl 29 (.tmp 9) (.tmp 27) rfl Q (tb.map u8v) rfl (by rw [HCB.out]; rfl) 29 zT BQ2.out (cells16T tb HTB.out.1) (by rw [List.length_map, HTB.out.1]; rfl) (u8v_one _) ?_
              intro wt hbt hgt
              have hE := Below.grown hHeld hgt hHeld.size (by have := BQ.out.2; intro k hk; injection hk with hk; omega)
              have HF := Lib.hid (show Blk wt P 29 (ta.map u8v) ∧ Blk wt Q 29 (tb.map u8v) ∧ Blk wt w.heap.size 23 (k.map u8v) ∧ Below w.heap.size w wt from ⟨BP2.out.grown hgt (by have := HNE.out; simp; omega), hbt, H2.out.2.1.below hE H2.out.2.1.lt, H2.out.2.2.1.trans (hE.mono H2.out.2.2.1.size)⟩)
              refine hK.out _ _ hE (fun hHeld => ?_)
              clear hK K hbt hgt hE
              simp only [Act.put]
              refine wpAnyH_done (by kernel_rfl) ?_ _
              clear hHeld
              go_wp2
              go_meet
              exact ⟨P, Q, rfl, rfl, HF.out⟩
          · have HLT := Lib.hid BP.out.1.lt
            have HSZ := Lib.hid hHeld.size
            go_simp
            refine hK.out _ _ (hHeld.alloc hHeld.size _) (fun hHeld => ?_)
            clear hK K
            (try simp only [Act.put, List.setIfInBounds_toArray, List.set_cons_zero, List.set_cons_succ])
            replace BP := Lib.hid (And.intro (BP.out.1.below ((Below.refl _ _).alloc (Nat.le_refl _) (.cells zT.toArray 29)) BP.out.1.lt) BP.out.2)
            have BQ := Lib.hid (And.intro (show Blk ((wp).alloc (.cells zT.toArray 29)) (wp).heap.size 29 zT from Blk.new _ _ _) HSZ.out)
            rw [zT_arr] at BQ BP
            generalize hwa : (wp).alloc (.cells #[.int .u8 0, .int .u8 0, .int .u8 0, .int .u8 0, .int .u8 0, .int .u8 0, .int .u8 0, .int .u8 0, .int .u8 0, .int .u8 0, .int .u8 0, .int .u8 0, .int .u8 0, .int .u8 0, .int .u8 0, .int .u8 0] 29) = wq at BQ hHeld BP ⊢
            clear hwa
            generalize hX : (wp).heap.size = Q at BQ ⊢
            have HNE := Lib.hid (show P ≠ Q by have := HLT.out; omega)
            clear hX
            refine step_one 2 rfl (by kernel_rfl) (fun K hK => ?_)
            go_simp
            refine (HSA.out _ ((HDW.out.below hHeld).mono hHeld.size)).mono ?_
            rintro e wa ⟨rfl, hb⟩
            replace BP := Lib.hid (And.intro (BP.out.1.below hb BP.out.1.lt) BP.out.2)
            replace BQ := Lib.hid (And.intro (BQ.out.1.below hb BQ.out.1.lt) BQ.out.2)
            go_wp2_with fail
            refine hK.out _ _ (hHeld.trans (hb.mono hHeld.size)) (fun hHeld => ?_)
            clear hK K
            (try simp only [Act.put, List.setIfInBounds_toArray, List.set_cons_zero, List.set_cons_succ])
            clear hb
            refine step_one 5 rfl (by kernel_rfl) (fun K hK => ?_)
            go_simp
            refine (HSB.out _ ((HDW.out.below hHeld).mono hHeld.size)).mono ?_
            rintro e wb ⟨rfl, hb⟩
            replace BP := Lib.hid (And.intro (BP.out.1.below hb BP.out.1.lt) BP.out.2)
            replace BQ := Lib.hid (And.intro (BQ.out.1.below hb BQ.out.1.lt) BQ.out.2)
            go_wp2_with fail
            refine hK.out _ _ (hHeld.trans (hb.mono hHeld.size)) (fun hHeld => ?_)
            clear hK K
            (try simp only [Act.put, List.setIfInBounds_toArray, List.set_cons_zero, List.set_cons_succ])
            clear hb
            refine step_one 8 rfl (by kernel_rfl) (fun K hK => ?_)
            refine step_store_blk _ rfl 29 (.tmp 8) (.tmp 24) rfl P (ta.map u8v) rfl (by rw [HCA.out]; rfl) 29 zT BP.out.1 (cells16T ta HTA.out.1) (by rw [List.length_map, HTA.out.1]; rfl) (u8v_one _) ?_
            intro ws hbs hgs
            have hE := Below.grown hHeld hgs hHeld.size (by have := BP.out.2; intro k hk; injection hk with hk; omega)
            have BQ2 := Lib.hid (BQ.out.1.grown hgs (by have := HNE.out; simp; omega))
            have BP2 := Lib.hid hbs
            refine hK.out _ _ hE (fun hHeld => ?_)
            clear hK K hbs hgs hE
            simp only [Act.put]
            refine step_one 9 rfl (by kernel_rfl) (fun K hK => ?_)
            refine step_store_blk _ rfl 29 (.tmp 9) (.tmp 27) rfl Q (tb.map u8v) rfl (by rw [HCB.out]; rfl) 29 zT BQ2.out (cells16T tb HTB.out.1) (by rw [List.length_map, HTB.out.1]; rfl) (u8v_one _) ?_
            intro wt hbt hgt
            have hE := Below.grown hHeld hgt hHeld.size (by have := BQ.out.2; intro k hk; injection hk with hk; omega)
            have HF := Lib.hid (show Blk wt P 29 (ta.map u8v) ∧ Blk wt Q 29 (tb.map u8v) ∧ Blk wt w.heap.size 23 (k.map u8v) ∧ Below w.heap.size w wt from ⟨BP2.out.grown hgt (by have := HNE.out; simp; omega), hbt, H2.out.2.1.below hE H2.out.2.1.lt, H2.out.2.2.1.trans (hE.mono H2.out.2.2.1.size)⟩)
            refine hK.out _ _ hE (fun hHeld => ?_)
            clear hK K hbt hgt hE
            simp only [Act.put]
            refine wpAnyH_done (by kernel_rfl) ?_ _
            clear hHeld
            go_wp2
            go_meet
            exact ⟨P, Q, rfl, rfl, HF.out⟩
        · have HSZ := Lib.hid hHeld.size
          go_simp
          refine hK.out _ _ (hHeld.alloc hHeld.size _) (fun hHeld => ?_)
          clear hK K
          (try simp only [Act.put, List.setIfInBounds_toArray, List.set_cons_zero, List.set_cons_succ])
          have BQ := Lib.hid (And.intro (show Blk ((wd).alloc (.cells zT.toArray 29)) (wd).heap.size 29 zT from Blk.new _ _ _) HSZ.out)
          rw [zT_arr] at BQ
          generalize hwa : (wd).alloc (.cells #[.int .u8 0, .int .u8 0, .int .u8 0, .int .u8 0, .int .u8 0, .int .u8 0, .int .u8 0, .int .u8 0, .int .u8 0, .int .u8 0, .int .u8 0, .int .u8 0, .int .u8 0, .int .u8 0, .int .u8 0, .int .u8 0] 29) = wq at BQ hHeld ⊢
          clear hwa
          generalize hX : (wd).heap.size = Q at BQ ⊢
          clear hX
          refine step_two 2 6 rfl rfl (by kernel_rfl) (fun K hK => ?_) (fun K hK => ?_)
          · go_simp
            refine (HSA.out _ ((HDW.out.below hHeld).mono hHeld.size)).mono ?_
            rintro e wa ⟨rfl, hb⟩
            replace BQ := Lib.hid (And.intro (BQ.out.1.below hb BQ.out.1.lt) BQ.out.2)
            go_wp2_with fail
            refine hK.out _ _ (hHeld.trans (hb.mono hHeld.size)) (fun hHeld => ?_)
            clear hK K
            (try simp only [Act.put, List.setIfInBounds_toArray, List.set_cons_zero, List.set_cons_succ])
            clear hb
            refine step_two 5 6 rfl rfl (by kernel_rfl) (fun K hK => ?_) (fun K hK => ?_)
            · go_simp
              refine (HSB.out _ ((HDW.out.below hHeld).mono hHeld.size)).mono ?_
              rintro e wb ⟨rfl, hb⟩
              replace BQ := Lib.hid (And.intro (BQ.out.1.below hb BQ.out.1.lt) BQ.out.2)
              go_wp2_with fail
              refine hK.out _ _ (hHeld.trans (hb.mono hHeld.size)) (fun hHeld => ?_)
              clear hK K
              (try simp only [Act.put, List.setIfInBounds_toArray, List.set_cons_zero, List.set_cons_succ])
              clear hb
              refine step_one 6 rfl (by kernel_rfl) (fun K hK => ?_)
              have HLT := Lib.hid BQ.out.1.lt
              have HSZ := Lib.hid hHeld.size
              go_simp
              refine hK.out _ _ (hHeld.alloc hHeld.size _) (fun hHeld => ?_)
              clear hK K
              (try simp only [Act.put, List.setIfInBounds_toArray, List.set_cons_zero, List.set_cons_succ])
              replace BQ := Lib.hid (And.intro (BQ.out.1.below ((Below.refl _ _).alloc (Nat.le_refl _) (.cells zT.toArray 29)) BQ.out.1.lt) BQ.out.2)
              have BP := Lib.hid (And.intro (show Blk ((wb).alloc (.cells zT.toArray 29)) (wb).heap.size 29 zT from Blk.new _ _ _) HSZ.out)
              rw [zT_arr] at BP BQ
              generalize hwa : (wb).alloc (.cells #[.int .u8 0, .int .u8 0, .int .u8 0, .int .u8 0, .int .u8 0, .int .u8 0, .int .u8 0, .int .u8 0, .int .u8 0, .int .u8 0, .int .u8 0, .int .u8 0, .int .u8 0, .int .u8 0, .int .u8 0, .int .u8 0] 29) = wp at BP hHeld BQ ⊢
              clear hwa
              generalize hX : (wb).heap.size = P at BP ⊢
              have HNE := Lib.hid (show P ≠ Q by have := HLT.out; omega)
              clear hX
              refine step_one 8 rfl (by kernel_rfl) (fun K hK => ?_)
              refine step_store_blk _ rfl 29 (.tmp 8) (.tmp 24) rfl P (ta.map u8v) rfl (by rw [HCA.out]; rfl) 29 zT BP.out.1 (cells16T ta HTA.out.1) (by rw [List.length_map, HTA.out.1]; rfl) (u8v_one _) ?_
              intro ws hbs hgs
              have hE := Below.grown hHeld hgs hHeld.size (by have := BP.out.2; intro k hk; injection hk with hk; omega)
              have BQ2 := Lib.hid (BQ.out.1.grown hgs (by have := HNE.out; simp; omega))
              have BP2 := Lib.hid hbs
              refine hK.out _ _ hE (fun hHeld => ?_)
              clear hK K hbs hgs hE
              simp only [Act.put]
              refine step_one 9 rfl (by kernel_rfl) (fun K hK => ?_)
              refine step_store_blk _ rfl 29 (.tmp 9) (.tmp 27) rfl Q (tb.map u8v) rfl (by rw [HCB.out]; rfl) 29 zT BQ2.out (cells16T tb HTB.out.1) (by rw [List.length_map, HTB.out.1]; rfl) (u8v_one _) ?_
              intro wt hbt hgt
              have hE := Below.grown hHeld hgt hHeld.size (by have := BQ.out.2; intro k hk; injection hk with hk; omega)
              have HF := Lib.hid (show Blk wt P 29 (ta.map u8v) ∧ Blk wt Q 29 (tb.map u8v) ∧ Blk wt w.heap.size 23 (k.map u8v) ∧ Below w.heap.size w wt from ⟨BP2.out.grown hgt (by have := HNE.out; simp; omega), hbt, H2.out.2.1.below hE H2.out.2.1.lt, H2.out.2.2.1.trans (hE.mono H2.out.2.2.1.size)⟩)
              refine hK.out _ _ hE (fun hHeld => ?_)
              clear hK K hbt hgt hE
              simp only [Act.put]
              refine wpAnyH_done (by kernel_rfl) ?_ _
              clear hHeld
              go_wp2
              go_meet
              exact ⟨P, Q, rfl, rfl, HF.out⟩
            · have HLT := Lib.hid BQ.out.1.lt
              have HSZ := Lib.hid hHeld.size
              go_simp
              refine hK.out _ _ (hHeld.alloc hHeld.size _) (fun hHeld => ?_)
              clear hK K
              (try simp only [Act.put, List.setIfInBounds_toArray, List.set_cons_zero, List.set_cons_succ])
              replace BQ := Lib.hid (And.intro (BQ.out.1.below ((Below.refl _ _).alloc (Nat.le_refl _) (.cells zT.toArray 29)) BQ.out.1.lt) BQ.out.2)
              have BP := Lib.hid (And.intro (show Blk ((wa).alloc (.cells zT.toArray 29)) (wa).heap.size 29 zT from Blk.new _ _ _) HSZ.out)
              rw [zT_arr] at BP BQ
              generalize hwa : (wa).alloc (.cells #[.int .u8 0, .int .u8 0, .int .u8 0, .int .u8 0, .int .u8 0, .int .u8 0, .int .u8 0, .int .u8 0, .int .u8 0, .int .u8 0, .int .u8 0, .int .u8 0, .int .u8 0, .int .u8 0, .int .u8 0, .int .u8 0] 29) = wp at BP hHeld BQ ⊢
              clear hwa
              generalize hX : (wa).heap.size = P at BP ⊢
              have HNE := Lib.hid (show P ≠ Q by have := HLT.out; omega)
              clear hX
              refine step_one 5 rfl (by kernel_rfl) (fun K hK => ?_)
              go_simp
              refine (HSB.out _ ((HDW.out.below hHeld).mono hHeld.size)).mono ?_
              rintro e wb ⟨rfl, hb⟩
              replace BP := Lib.hid (And.intro (BP.out.1.below hb BP.out.1.lt) BP.out.2)
              replace BQ := Lib.hid (And.intro (BQ.out.1.below hb BQ.out.1.lt) BQ.out.2)
              go_wp2_with fail
              refine hK.out _ _ (hHeld.trans (hb.mono hHeld.size)) (fun hHeld => ?_)
              clear hK K
              (try simp only [Act.put, List.setIfInBounds_toArray, List.set_cons_zero, List.set_cons_succ])
              clear hb
              refine step_one 8 rfl (by kernel_rfl) (fun K hK => ?_)
              refine step_store_blk _ rfl 29 (.tmp 8) (.tmp 24) rfl P (ta.map u8v) rfl (by rw [HCA.out]; rfl) 29 zT BP.out.1 (cells16T ta HTA.out.1) (by rw [List.length_map, HTA.out.1]; rfl) (u8v_one _) ?_
              intro ws hbs hgs
              have hE := Below.grown hHeld hgs hHeld.size (by have := BP.out.2; intro k hk; injection hk with hk; omega)
              have BQ2 := Lib.hid (BQ.out.1.grown hgs (by have := HNE.out; simp; omega))
              have BP2 := Lib.hid hbs
              refine hK.out _ _ hE (fun hHeld => ?_)
              clear hK K hbs hgs hE
              simp only [Act.put]
              refine step_one 9 rfl (by kernel_rfl) (fun K hK => ?_)
              refine step_store_blk _ rfl 29 (.tmp 9) (.tmp 27) rfl Q (tb.map u8v) rfl (by rw [HCB.out]; rfl) 29 zT BQ2.out (cells16T tb HTB.out.1) (by rw [List.length_map, HTB.out.1]; rfl) (u8v_one _) ?_
              intro wt hbt hgt
              have hE := Below.grown hHeld hgt hHeld.size (by have := BQ.out.2; intro k hk; injection hk with hk; omega)
              have HF := Lib.hid (show Blk wt P 29 (ta.map u8v) ∧ Blk wt Q 29 (tb.map u8v) ∧ Blk wt w.heap.size 23 (k.map u8v) ∧ Below w.heap.size w wt from ⟨BP2.out.grown hgt (by have := HNE.out; simp; omega), hbt, H2.out.2.1.below hE H2.out.2.1.lt, H2.out.2.2.1.trans (hE.mono H2.out.2.2.1.size)⟩)
              refine hK.out _ _ hE (fun hHeld => ?_)
              clear hK K hbt hgt hE
              simp only [Act.put]
              refine wpAnyH_done (by kernel_rfl) ?_ _
              clear hHeld
              go_wp2
              go_meet
              exact ⟨P, Q, rfl, rfl, HF.out⟩
          · have HLT := Lib.hid BQ.out.1.lt
            have HSZ := Lib.hid hHeld.size
            go_simp
            refine hK.out _ _ (hHeld.alloc hHeld.size _) (fun hHeld => ?_)
            clear hK K
            (try simp only [Act.put, List.setIfInBounds_toArray, List.set_cons_zero, List.set_cons_succ])
            replace BQ := Lib.hid (And.intro (BQ.out.1.below ((Below.refl _ _).alloc (Nat.le_refl _) (.cells zT.toArray 29)) BQ.out.1.lt) BQ.out.2)
            have BP := Lib.hid (And.intro (show Blk ((wq).alloc (.cells zT.toArray 29)) (wq).heap.size 29 zT from Blk.new _ _ _) HSZ.out)
            rw [zT_arr] at BP BQ
            generalize hwa : (wq).alloc (.cells #[.int .u8 0, .int .u8 0, .int .u8 0, .int .u8 0, .int .u8 0, .int .u8 0, .int .u8 0, .int .u8 0, .int .u8 0, .int .u8 0, .int .u8 0, .int .u8 0, .int .u8 0, .int .u8 0, .int .u8 0, .int .u8 0] 29) = wp at BP hHeld BQ ⊢
            clear hwa
            generalize hX : (wq).heap.size = P at BP ⊢
            have HNE := Lib.hid (show P ≠ Q by have := HLT.out; omega)
            clear hX
            refine step_one 2 rfl (by kernel_rfl) (fun K hK => ?_)
            go_simp
            refine (HSA.out _ ((HDW.out.below hHeld).mono hHeld.size)).mono ?_
            rintro e wa ⟨rfl, hb⟩
            replace BP := Lib.hid (And.intro (BP.out.1.below hb BP.out.1.lt) BP.out.2)
            replace BQ := Lib.hid (And.intro (BQ.out.1.below hb BQ.out.1.lt) BQ.out.2)
            go_wp2_with fail
            refine hK.out _ _ (hHeld.trans (hb.mono hHeld.size)) (fun hHeld => ?_)
            clear hK K
            (try simp only [Act.put, List.setIfInBounds_toArray, List.set_cons_zero, List.set_cons_succ])
            clear hb
            refine step_one 5 rfl (by kernel_rfl) (fun K hK => ?_)
            go_simp
            refine (HSB.out _ ((HDW.out.below hHeld).mono hHeld.size)).mono ?_
            rintro e wb ⟨rfl, hb⟩
            replace BP := Lib.hid (And.intro (BP.out.1.below hb BP.out.1.lt) BP.out.2)
            replace BQ := Lib.hid (And.intro (BQ.out.1.below hb BQ.out.1.lt) BQ.out.2)
            go_wp2_with fail
            refine hK.out _ _ (hHeld.trans (hb.mono hHeld.size)) (fun hHeld => ?_)
            clear hK K
            (try simp only [Act.put, List.setIfInBounds_toArray, List.set_cons_zero, List.set_cons_succ])
            clear hb
            refine step_one 8 rfl (by kernel_rfl) (fun K hK => ?_)
            refine step_store_blk _ rfl 29 (.tmp 8) (.tmp 24) rfl P (ta.map u8v) rfl (by rw [HCA.out]; rfl) 29 zT BP.out.1 (cells16T ta HTA.out.1) (by rw [List.length_map, HTA.out.1]; rfl) (u8v_one _) ?_
            intro ws hbs hgs
            have hE := Below.grown hHeld hgs hHeld.size (by have := BP.out.2; intro k hk; injection hk with hk; omega)
            have BQ2 := Lib.hid (BQ.out.1.grown hgs (by have := HNE.out; simp; omega))
            have BP2 := Lib.hid hbs
            refine hK.out _ _ hE (fun hHeld => ?_)
            clear hK K hbs hgs hE
            simp only [Act.put]
            refine step_one 9 rfl (by kernel_rfl) (fun K hK => ?_)
            refine step_store_blk _ rfl 29 (.tmp 9) (.tmp 27) rfl Q (tb.map u8v) rfl (by rw [HCB.out]; rfl) 29 zT BQ2.out (cells16T tb HTB.out.1) (by rw [List.length_map, HTB.out.1]; rfl) (u8v_one _) ?_
            intro wt hbt hgt
            have hE := Below.grown hHeld hgt hHeld.size (by have := BQ.out.2; intro k hk; injection hk with hk; omega)
            have HF := Lib.hid (show Blk wt P 29 (ta.map u8v) ∧ Blk wt Q 29 (tb.map u8v) ∧ Blk wt w.heap.size 23 (k.map u8v) ∧ Below w.heap.size w wt from ⟨BP2.out.grown hgt (by have := HNE.out; simp; omega), hbt, H2.out.2.1.below hE H2.out.2.1.lt, H2.out.2.2.1.trans (hE.mono H2.out.2.2.1.size)⟩)
            refine hK.out _ _ hE (fun hHeld => ?_)
            clear hK K hbt hgt hE
            simp only [Act.put]
            refine wpAnyH_done (by kernel_rfl) ?_ _
            clear hHeld
            go_wp2
            go_meet
            exact ⟨P, Q, rfl, rfl, HF.out⟩
      case rest =>
        obtain ⟨P, Q, rfl, rfl, hcut⟩ := hcut
        have H3 := Lib.hid hcut
        clear hcut H2 HDW
        go_wp2_with fail
        go_loopw [10, 28, 11, 12] (fun cv iv _ _ wr => ∃ j : Nat, j ≤ 16 ∧ iv = .int .i64 (j : Int) ∧ cv = .int .i64 (cy N0 (sN k) j : Int) ∧ Blk wr P 29 (ta.map u8v) ∧ Blk wr Q 29 (tb.map u8v) ∧ Blk wr w.heap.size 23 (k.map u8v) ∧ Below w.heap.size w wr) (fun _ iv _ _ _ => 16 - (intOf iv).toNat)
        case atStart => exact ⟨0, by omega, rfl, by rw [cy_zero]; rfl, H3.out.1, H3.out.2.1, H3.out.2.2.1, H3.out.2.2.2⟩
        case round =>
          clear H3
          obtain ⟨j, hj, rfl, rfl, ha, hb, hk, hbel⟩ := hrel
          by_cases hlt : j < 16
          · have d16 : decide ((j : Int) < 16) = true := by simp; omega
            have fa := ha.key j (by rw [HTA.out.1]; omega)
            have fb := hb.key j (by rw [HTB.out.1]; omega)
            have fk := hk.key (16 + j) (by rw [HK.out]; omega)
            have ea : kb ta j = N0 / 256 ^ j % 256 := by
              rw [HTA.out.2, ← byte_div]
              simp [kb, List.getD, littleL, hlt]
            have eb : kb tb j = (N0 + sN k) / 256 ^ j % 256 := by
              rw [HTB.out.2, ← byte_div]
              simp [kb, List.getD, littleL, hlt]
            have ek := sN_digit k HK.out j hlt
            have hd := cy_digit N0 (sN k) j
            have hsu := cy_succ N0 (sN k) j
            have hcl := cy_le N0 (sN k) j
            rw [← eb, ← ea, ek] at hd
            rw [← ea, ek] at hsu
            have ha256 : kb ta j < 256 := (ta.getD j 0).toNat_lt
            have hk256 : kb k (16 + j) < 256 := (k.getD (16 + j) 0).toNat_lt
            have HN := Lib.hid (And.intro ha (And.intro hb (And.intro hk hbel)))
            clear ha hb hk hbel ea eb ek
            generalize kb ta j = x at fa hd hsu ha256
            generalize kb k (16 + j) = y at fk hd hsu hk256
            generalize kb tb j = b at fb hd
            generalize cy N0 (sN k) j = c at hd hsu hcl ⊢
            obtain ⟨c', hc'⟩ : ∃ c', cy N0 (sN k) (j + 1) = c' := ⟨_, rfl⟩
            rw [hc'] at hsu
            have HC := Lib.hid hc'
            obtain ⟨z, hz⟩ : ∃ z, x + y = z := ⟨_, rfl⟩
            obtain ⟨m, hm⟩ : ∃ m, z + c = m := ⟨_, rfl⟩
            have hbm : (m : Int) % 256 = (b : Int) := by omega
            have hcm' : (m : Int) / 256 = (c' : Int) := by omega
            clear hd hsu hc'
            have z1 : (x : Int) + (y : Int) = (z : Int) := by rw [← hz, Int.natCast_add]
            have m1 : (z : Int) + (c : Int) = (m : Int) := by rw [← hm, Int.natCast_add]
            have hx5 : x < 100000 := Nat.lt_of_lt_of_le ha256 (by decide)
            have hy5 : y < 100000 := Nat.lt_of_lt_of_le hk256 (by decide)
            have hz5 : z < 1000 := by rw [← hz]; exact Nat.lt_of_lt_of_le (Nat.add_lt_add ha256 hk256) (by decide)
            have hm5 : m < 100000 := by rw [← hm]; exact Nat.lt_of_lt_of_le (Nat.add_lt_add_of_lt_of_le hz5 hcl) (by decide)
            have zw : IntKind.i64.wrap ((x : Int) + (y : Int)) = (z : Int) := by rw [z1]; exact i64w z (Nat.lt_of_lt_of_le hz5 (by decide))
            have mw : IntKind.i64.wrap ((z : Int) + (c : Int)) = (m : Int) := by rw [m1]; exact i64w m hm5
            have HWS := Lib.hid (And.intro (w64 x hx5) (And.intro (w64 y hy5) (And.intro (show wrap64 ((x : Int) + (y : Int)) = (z : Int) by rw [z1]; exact w64 z (Nat.lt_of_lt_of_le hz5 (by decide))) (show wrap64 ((z : Int) + (c : Int)) = (m : Int) by rw [m1]; exact w64 m hm5))))
            have jw : IntKind.i64.wrap (16 + (j : Int)) = 16 + (j : Int) := IntWalk.i64_in _ (by omega)
            have b16 : (16 : Int) + (j : Int) < 32 := by omega
            clear hcl ha256 hk256 hz hm hx5 hy5 hz5 hm5
            go_upto_region 12 with fail
            clear d16
            go_region
            simp only [HWS.out.1, HWS.out.2.1, HWS.out.2.2.1, HWS.out.2.2.2]
            clear fa fk jw
            go_wp2_with fail
            go_roundw
            case rel => exact ⟨j + 1, by omega, by go_num, by rw [HC.out], HN.out.1.drew, HN.out.2.1.drew, HN.out.2.2.1.drew, HN.out.2.2.2.drew⟩
            case measure => simp [intOf]; omega
          · obtain rfl : j = 16 := by omega
            have HF := Lib.hid hbel
            clear hbel ha hb hk
            rw [show ((16 : Nat) : Int) = 16 from rfl]
            go_wp2_with fail
            refine (HBG.out _).mono ?_
            rintro e w8 ⟨rfl, hb8⟩
            have HE := Lib.hid (HF.out.trans (hb8.mono HF.out.size))
            clear hb8
            go_wp2_with fail
            go_ret
            exact ⟨rfl, HE.out⟩
end Go.Proofs.Ythjhohmmdnjpkaa
