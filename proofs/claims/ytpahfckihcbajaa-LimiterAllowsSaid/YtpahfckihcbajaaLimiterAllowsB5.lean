/-
  The contract of slices.Delete of one element at a slice of buckets of the call's own. The contract of the program's withRoom. The builtin max of two numbers. The contracts of slices.Clone, slices.IndexFunc and slices.DeleteFunc at a slice of int64 numbers. The contracts of the program's Note and Loaded. The contract of the program's filled. The contract of slices.Clone at a slice of structs. The contract of the program's Allow. LimiterAllows returns true for every input, by what the landed functions give. No statement is proved here.
-/
import Derived.RegionTactic
import Derived.Deep.DeepCutAuto
import Derived.Laws.Cover3
import Derived.Shelf.Abstract
import Derived.Test.YtpahfckihcbajaaLimiterAllowsB4
namespace Go.Proofs.Ytpahfckihcbajaa
open Go.RowKit

section
variable {P : Program} {t e : TypeId} {k : Nat}
theorem objs_lh (ht : P.underlying t = some (.slice e)) (hk : (P.info? e).map (·.size) = some k) (A : Option Addr) (n c i j : Nat) (h1 : i ≤ j) (h2 : j ≤ c) (w : World) : (Instr.sliceAt t (.slice A n c) (some (.int .i64 (i : Int))) (some (.int .i64 (j : Int))) none).run P w = .ok (.slice (addrK A i c k) (j - i) (c - i)) w := by
  obtain ⟨hu, hs⟩ := objs_size ht hk w
  rw [run_sliceAt_slice (P := P) (w := w) t _ _ _ _ hu, run_slice_lh (P := P) (w := w) t A n c hu .i64 .i64 i j (by omega) (by omega) (by omega), hs]
  simp only [Result.andThen, sliced, Int.toNat_natCast]
  rfl
theorem objs_lhm (ht : P.underlying t = some (.slice e)) (hk : (P.info? e).map (·.size) = some k) (A : Option Addr) (n c i j m : Nat) (h1 : i ≤ j) (h2 : j ≤ m) (h3 : m ≤ c) (w : World) : (Instr.sliceAt t (.slice A n c) (some (.int .i64 (i : Int))) (some (.int .i64 (j : Int))) (some (.int .i64 (m : Int)))).run P w = .ok (.slice (addrK A i m k) (j - i) (m - i)) w := by
  obtain ⟨hu, hs⟩ := objs_size ht hk w
  rw [run_sliceAt_slice (P := P) (w := w) t _ _ _ _ hu, run_slice_lhm (P := P) (w := w) t A n c hu .i64 .i64 .i64 i j m (by omega) (by omega) (by omega) (by omega), hs]
  simp only [Result.andThen, sliced, Int.toNat_natCast]
  rfl
end
/-- the builtin append of objects to a slice whose block has room for them -/
theorem step_append_room {P : Program} (w : World) {ops : Array Oper} {o : Oper} {a : Act} {K : Act → World → Prop} {Q : Exit → Act → World → Prop} {E : Prop} (hgd : o.guard = none) (s x : Operand) (t : TypeId)
    (ho : o.op = .call { callee := .builtin .append, args := #[s, x], argTypes := #[t, t] })
    (e : TypeId) (i : TypeInfo) (ht : P.underlying t = some (.slice e)) (hi : P.info? e = some i) (size : Nat) (hsize : i.size = size)
    (g n cap : Nat) (hs : a.eval s = .slice (some ⟨g, 0, none⟩) n cap) (cur : List Value) (hg : Blk w g e cur) (ad : Addr) (m c : Nat) (hx : a.eval x = .slice (some ad) m c) (news : List Value) (hl : news.length = m * size) (hnews : ∀ j u, news[j]? = some u → w.cell? (ad.add j) = some u) (h1 : ∀ u ∈ news, u.oneCell' = true)
    (hroom : n + m ≤ cap) (hfit : n * size + news.length ≤ cur.length)
    (h : ∀ w', Blk w' g e (setL cur (n * size) news) → w.grownBy w' (some g) → K (a.put o.dst (.slice (some ⟨g, 0, none⟩) (n + m) cap)) w') : if Region.wanted o (yielded ops a.tmps) = true then Oper.wp P o a w K Q else E := by
  have hw : Region.wanted o (yielded ops a.tmps) = true := by simp [Region.wanted, hgd]
  rw [if_pos hw]
  subst hsize
  have hr := run_append_room (P := P) w t o.type e i ht hi g n cap cur.toArray hg ad m c news hl hnews h1 hroom (by simpa using hfit)
  unfold Oper.wp execOp
  simp only [ho, resolve, invoke, builtin, Sem.run_bind, Sem.run_pure, Result.andThen_ok, List.map_toArray, List.map_cons, List.map_nil, hs, hx, hr]
  exact h _ (setRow_heap w g cur.toArray _ e _ hg) ⟨rfl, rfl, rfl, by simp, fun k _ hk => setRow_other w g k _ (fun e => hk (by simp [e]))⟩
set_option maxRecDepth 100000 in
set_option maxHeartbeats 16000000 in
theorem bkDelete_any (base : Nat) (A : Option Addr) (n c i : Nat) (os : List (List Value)) (hn : n ≤ 1000) (hi : i < n) (hl : os.length = n) (hk : ∀ x ∈ os, x.length = 19) (h1 : ∀ x ∈ os, ∀ v ∈ x, v.oneCell' = true) (w : World) (hbase : base ≤ w.heap.size) (hown : w.ownsRow base 44 19 (.slice A n c) n os.flatten) :
    Calls Try.prog 39 #[.slice A n c, .int .i64 (i : Int), .int .i64 ((i + 1 : Nat) : Int)] w fun e w' => ∃ A' c', e = .returned (.slice A' (n - 1) c') ∧ w'.ownsRow base 44 19 (.slice A' (n - 1) c') (n - 1) (os.take i ++ os.drop (i + 1)).flatten ∧ Below base w w' := by
  obtain ⟨ik, hik, hiz, his, hib⟩ := bucketInfo
  have HKI := Lib.hid (And.intro hik (And.intro hiz (And.intro his hib)))
  have hsz : (Try.prog.info? 44).map (·.size) = some 19 := by rw [hik, Option.map_some, his]
  clear hik hiz his hib
  have HBS := Lib.hid hbase
  rcases hown.2 with ⟨_, h0⟩ | ⟨g, cap, cur0, hvv, hbg, hg, hnc, hcm, hcs, hcr⟩
  · omega
  injection hvv with hA _ hcc
  subst hA hcc
  obtain ⟨i1, hi1⟩ : ∃ z, i + 1 = z := ⟨_, rfl⟩
  rw [hi1]
  obtain ⟨cur, hcur⟩ : ∃ z, cur0.toList = z := ⟨_, rfl⟩
  have hblk : Blk w g 44 cur := by
    unfold Blk
    rw [← hcur, Array.toArray_toList]
    exact hg
  rw [hcur] at hcr
  have hlen : cur.length = c * 19 := by rw [← hcur, Array.length_toList, hcs]
  have hfl := flat_length hk
  rw [hl] at hfl
  have hdl : (os.drop i1).flatten.length = (n - i1) * 19 := by rw [flat_length (fun o ho => hk o (List.mem_of_mem_drop ho)), List.length_drop, hl]
  have htl : (os.take i).flatten.length = i * 19 := by rw [flat_length (fun o ho => hk o (List.mem_of_mem_take ho)), List.length_take, hl, Nat.min_eq_left (by omega)]
  have hti : cur.take (i * 19) = (os.take i).flatten := by
    have h := congrArg (List.take (i * 19)) hcr
    rw [List.take_take, Nat.min_eq_left (by omega)] at h
    rw [h, ← flat_take i hk]
  have hds : ∀ (j : Nat) v, (os.drop i1).flatten[j]? = some v → cur[i1 * 19 + j]? = some v := by
    intro j v hj
    have hjl := (List.getElem?_eq_some_iff.1 hj).1
    rw [hdl] at hjl
    have e : (cur.take (n * 19))[i1 * 19 + j]? = some v := by
      rw [hcr, ← List.getElem?_drop, ← flat_drop i1 hk]
      exact hj
    rw [List.getElem?_take] at e
    split at e
    · exact e
    · cases e
  have HBL := Lib.hid hblk
  have HBG := Lib.hid hbg
  have HCM := Lib.hid (And.intro hnc (And.intro hcm hlen))
  have HTI := Lib.hid (And.intro hti htl)
  have HDL := Lib.hid hdl
  have HNL := Lib.hid hdl
  have HD1 := Lib.hid (fun u hu => one_flat (fun o ho => h1 o (List.mem_of_mem_drop ho)) u hu : ∀ u ∈ (os.drop i1).flatten, u.oneCell' = true)
  have HRM := Lib.hid (show i + (n - i1) ≤ c by omega)
  have HFI := Lib.hid (show i * 19 + (os.drop i1).flatten.length ≤ cur.length by rw [hdl, hlen]; omega)
  obtain ⟨ad, had, hds2⟩ : ∃ ad : Addr, addrK (some ⟨g, 0, none⟩) i1 c 19 = some ad ∧ ∃ off, ad = ⟨g, off, none⟩ ∧ ∀ (j : Nat) v, (os.drop i1).flatten[j]? = some v → cur[off + j]? = some v := by
    rcases Nat.lt_or_ge i1 c with h | h
    · exact ⟨⟨g, i1 * 19, none⟩, by rw [addrK_some h, Nat.zero_add], i1 * 19, rfl, hds⟩
    · refine ⟨⟨g, 0, none⟩, by unfold addrK; rw [if_pos (by omega)], 0, rfl, fun j v hj => ?_⟩
      have hjl := (List.getElem?_eq_some_iff.1 hj).1
      rw [hdl] at hjl
      omega
  obtain ⟨off, rfl, hds3⟩ := hds2
  have HDS := Lib.hid hds3
  obtain ⟨ad, hadd⟩ : ∃ z : Addr, z = ⟨g, off, none⟩ := ⟨_, rfl⟩
  have hs0 := objs_lhm Try.underlying32 hsz (some ⟨g, 0, none⟩) n c i i1 n (by omega) (by omega) hnc
  rw [addrK_some (show i < n by omega), Nat.zero_add] at hs0
  obtain ⟨s0, hs0v⟩ : ∃ z, Value.slice (some ⟨g, i * 19, none⟩) (i1 - i) (n - i) = z := ⟨_, rfl⟩
  rw [hs0v] at hs0
  have hs1 := objs_h Try.underlying32 hsz (n := n) (some ⟨g, 0, none⟩) c i (by omega) hnc
  rw [addrK_zero_some] at hs1
  have hs2 := objs_l Try.underlying32 hsz (some ⟨g, 0, none⟩) n c i1 (by omega)
  rw [had, ← hadd] at hs2
  obtain ⟨n1, hn1⟩ : ∃ z, n - 1 = z := ⟨_, rfl⟩
  have en1 : i + (n - i1) = n1 := by omega
  have hs3 := objs_lh Try.underlying32 hsz (some ⟨g, 0, none⟩) n1 c n1 n (by omega) (by omega)
  rw [addrK_some (show n1 < c by omega), Nat.zero_add, show n - n1 = 1 by omega] at hs3
  rw [hn1]
  have HS1 := Lib.hid hs1
  have HS2 := Lib.hid hs2
  have HS3 := Lib.hid hs3
  have HAD := Lib.hid hadd
  have HN1 := Lib.hid (And.intro hn1 en1)
  have HI1 := Lib.hid hi1
  have e0 : ((i : Int) == (i1 : Int)) = false := by rw [beq_eq_false_iff_ne]; omega
  clear hown hbg hg hnc hcm hcs hcr hcur hlen hfl hdl htl hti hds hblk had hds3 hs0v hs1 hs2 hs3 hadd hn1 en1 hi1 hsz h1 hk hbase
  go_enter Try.func39, Try.ntmps39
  go_upto_region 5 with fail
  refine wp_region_held_drew (S := fun _ => True) (by kernel_rfl) (trivial) (fun hHeld => ?_)
  have hF : Blk w.drew g 44 cur ∧ Below base w w.drew := ⟨HBL.out, ((Below.refl _ _).mono HBS.out).drew⟩
  generalize w.drew = wd1 at hF ⊢
  refine take_first (v := ?_) 0 rfl (by kernel_rfl) (by kernel_rfl) (by kernel_rfl) (fun _ _ _ h => h) (Or.inl ⟨by rfl, ?_⟩) (by assumption) ?_
  rotate_left
  · (intro w hSw; (try dsimp only at hSw); go_simp; try with_reducible rfl)
  (try simp only [Act.put, List.setIfInBounds_toArray, List.set_cons_zero, List.set_cons_succ])
  refine take_first (v := ?_) 1 rfl (by kernel_rfl) (by kernel_rfl) (by kernel_rfl) (fun _ _ _ h => h) (Or.inl ⟨by rfl, ?_⟩) (by assumption) ?_
  rotate_left
  · (intro w hSw; (try dsimp only at hSw); go_simp; try with_reducible rfl)
  (try simp only [Act.put, List.setIfInBounds_toArray, List.set_cons_zero, List.set_cons_succ])
  refine take_first (v := ?_) 2 rfl (by kernel_rfl) (by kernel_rfl) (by kernel_rfl) (fun _ _ _ h => h) (Or.inl ⟨by rfl, ?_⟩) (by assumption) ?_
  rotate_left
  · (intro w hSw; (try dsimp only at hSw); have s := HS1.out w; go_simp; try with_reducible rfl)
  (try simp only [Act.put, List.setIfInBounds_toArray, List.set_cons_zero, List.set_cons_succ])
  refine take_first (v := ?_) 3 rfl (by kernel_rfl) (by kernel_rfl) (by kernel_rfl) (fun _ _ _ h => h) (Or.inl ⟨by rfl, ?_⟩) (by assumption) ?_
  rotate_left
  · (intro w hSw; (try dsimp only at hSw); go_simp; try with_reducible rfl)
  (try simp only [Act.put, List.setIfInBounds_toArray, List.set_cons_zero, List.set_cons_succ])
  refine take_first (v := ?_) 4 rfl (by kernel_rfl) (by kernel_rfl) (by kernel_rfl) (fun _ _ _ h => h) (Or.inl ⟨by rfl, ?_⟩) (by assumption) ?_
  rotate_left
  · (intro w hSw; (try dsimp only at hSw); go_simp; try with_reducible rfl)
  (try simp only [Act.put, List.setIfInBounds_toArray, List.set_cons_zero, List.set_cons_succ])
  refine take_first (v := ?_) 5 rfl (by kernel_rfl) (by kernel_rfl) (by kernel_rfl) (fun _ _ _ h => h) (Or.inl ⟨by rfl, ?_⟩) (by assumption) ?_
  rotate_left
  · (intro w hSw; (try dsimp only at hSw); have s := HS2.out w; go_simp; try with_reducible rfl)
  (try simp only [Act.put, List.setIfInBounds_toArray, List.set_cons_zero, List.set_cons_succ])
  refine step_one 6 rfl (by kernel_rfl) (fun K hK => ?_)
  refine step_append_room _ rfl (.tmp 22) (.tmp 25) 32 rfl 44 ik Try.underlying32 HKI.out.1 19 HKI.out.2.2.1 g i c rfl cur hF.1 ad (n - i1) (c - i1) rfl (os.drop i1).flatten HNL.out (by rw [HAD.out]; exact blk_seg hF.1 HDS.out) HD1.out HRM.out HFI.out ?_
  intro w4 hb4 hg4
  refine hK.out _ _ trivial (fun _ => ?_)
  clear hK K
  (try simp only [Act.put, List.setIfInBounds_toArray, List.set_cons_zero, List.set_cons_succ])
  refine take_first (v := ?_) 7 rfl (by kernel_rfl) (by kernel_rfl) (by kernel_rfl) (fun _ _ _ h => h) (Or.inl ⟨by rfl, ?_⟩) (by assumption) ?_
  rotate_left
  · (intro w hSw; (try dsimp only at hSw); go_simp; try with_reducible rfl)
  (try simp only [Act.put, List.setIfInBounds_toArray, List.set_cons_zero])
  refine wpAnyH_done (by kernel_rfl) ?_ _
  rw [HN1.out.2]
  have HX4 := Lib.hid (And.intro hb4 (hF.2.grown hg4 (Nat.le_trans HBS.out hF.2.size) (fun q hq => by injection hq with hq; have := HBG.out; omega)))
  clear hb4 hg4 hF
  have HL4 := Lib.hid (show (setL cur (i * 19) (os.drop i1).flatten).length = c * 19 from by
    have h1 := HFI.out
    have h2 := HCM.out
    simp only [setL, List.length_append, List.length_take, List.length_drop]
    omega)
  have HT4 := Lib.hid (show (setL cur (i * 19) (os.drop i1).flatten).take (n1 * 19) = (os.take i ++ os.drop i1).flatten from by
    rw [setL, HTI.out.1, List.flatten_append]
    refine List.take_left' ?_
    rw [List.length_append, HTI.out.2, HDL.out]
    have := HN1.out
    have := HI1.out
    omega)
  obtain ⟨cur4, hc4⟩ : ∃ z, setL cur (i * 19) (os.drop i1).flatten = z := ⟨_, rfl⟩
  rw [hc4] at HX4 HL4 HT4
  have hs3 := HS3.out
  have HFIT := Lib.hid (show n1 * 19 + 1 * (Value.agg bucketZ.toArray).cells.size ≤ cur4.length from by
    rw [HL4.out, show (Value.agg bucketZ.toArray).cells.size = 19 from rfl]
    have := HN1.out
    have := HCM.out
    omega)
  obtain ⟨cm, hcm⟩ : ∃ x, c - n1 = x := ⟨_, rfl⟩
  rw [hcm] at hs3
  clear hcm hc4
  go_wp2_with (refine wpList_clear_objs _ rfl (.tmp 31) 32 44 rfl Try.underlying32 (.agg bucketZ.toArray) bk_zero (by decide) g (n1 * 19) 1 cm rfl 44 cur4 HX4.out.1 HFIT.out (by omega) ?_; intro w7 hb7 hg7)
  go_ret
  refine ⟨some ⟨g, 0, none⟩, c, rfl, own_of_blk hb7 HBG.out (by have := HN1.out; have := HCM.out; omega) HCM.out.2.1 ?_ ?_, HX4.out.2.grown hg7 (Nat.le_trans HBS.out HX4.out.2.size) (fun q hq => by injection hq with hq; have := HBG.out; omega)⟩
  · have h1 := HFIT.out
    have h2 := HL4.out
    have h3 : (Builtin.zeroCells (Value.agg bucketZ.toArray).cells 1).toList.length = 1 * (Value.agg bucketZ.toArray).cells.size := by simp [Builtin.zeroCells]
    simp only [setL, List.length_append, List.length_take, List.length_drop, h3]
    omega
  · rw [setL, List.append_assoc, List.take_append_of_le_length (by rw [List.length_take]; have := HFIT.out; omega), List.take_take, Nat.min_self]
    rw [← List.flatten_append]
    exact HT4.out
end Go.Proofs.Ytpahfckihcbajaa
namespace Go.Proofs.Ytpahfckihcbajaa
open Go.RowKit
set_option maxRecDepth 100000 in
set_option maxHeartbeats 8000000 in
theorem pRoom_any (base : Nat) (A : Option Addr) (n c : Nat) (l : List BucketM) (hn : n ≤ 1000) (hln : l.length = n) (hok : ∀ s ∈ l, s.ok) (w : World) (hbase : base ≤ w.heap.size) (hown : w.ownsRow base 44 19 (.slice A n c) n (bksV l).flatten) :
    Calls Try.prog 30 #[.slice A n c] w fun e w' => ∃ A' c', e = .returned (.slice A' (roomM l).length c') ∧ w'.ownsRow base 44 19 (.slice A' (roomM l).length c') (roomM l).length (bksV (roomM l)).flatten ∧ Below base w w' := by
  rcases Nat.lt_or_ge n 16 with hs | hs
  · have hrm : roomM l = l := by unfold roomM; rw [if_neg (by omega)]
    rw [hrm, hln]
    have d0 : decide ((n : Int) < 16) = true := by simp; omega
    have HO := Lib.hid hown
    clear hown
    go_enter Try.func30, Try.ntmps30
    go_wp2
    go_ret
    exact ⟨A, c, rfl, HO.out, (Below.refl _ _).mono hbase⟩
  have d0 : decide ((n : Int) < 16) = false := by simp; omega
  have hr : BkRd w w.heap.size A n l := BkRd.of_own hln hok hown
  have HOWN := Lib.hid hown
  have HBASE := Lib.hid hbase
  have HOKS := Lib.hid hok
  have HRM := Lib.hid (show roomM l = l.take (oldestM l) ++ l.drop (oldestM l + 1) from by unfold roomM; rw [if_pos (by omega), List.eraseIdx_eq_take_drop_succ])
  clear hown hbase hok hln
  have HR := Lib.hid hr
  have HLN := Lib.hid hr.len
  clear hr
  go_enter Try.func30, Try.ntmps30
  go_wp2_with fail
  go_loopw [3, 12] (fun b i wr => ∃ j : Nat, j ≤ n ∧ i = .int .i64 (j : Int) ∧ b = .int .i64 (((List.range j).foldl (oldestS l) 0 : Nat) : Int) ∧ Below w.heap.size w wr) (fun _ i _ => n - (intOf i).toNat)
  case atStart => exact ⟨0, Nat.zero_le _, rfl, rfl, Below.refl _ _⟩
  case round =>
    obtain ⟨j, hj, rfl, rfl, hb⟩ := hrel
    have HB := Lib.hid hb
    clear hb
    by_cases hjn : j < n
    · have d1 : decide ((j : Int) < (n : Int)) = true := by simp; omega
      obtain ⟨b, off, rfl⟩ := HR.out.addr (by omega)
      obtain ⟨r, hr⟩ : ∃ r, l[j]? = some r := ⟨l[j]'(by rw [HLN.out]; exact hjn), List.getElem?_eq_getElem _⟩
      have hol := old_lt l (n := n) (by omega) j hj
      have hst := old_step l j
      obtain ⟨o, ho⟩ : ∃ o, (List.range j).foldl (oldestS l) 0 = o := ⟨_, rfl⟩
      rw [ho] at hol hst ⊢
      obtain ⟨q, hq⟩ : ∃ q, l[o]? = some q := ⟨l[o]'(by rw [HLN.out]; exact hol), List.getElem?_eq_getElem _⟩
      rw [oldestS, hr, hq] at hst
      have HOK := Lib.hid (HR.out.ok hr)
      have HQK := Lib.hid (HR.out.ok hq)
      have HAT := Lib.hid ((HR.out.at j r hr).2.mono HB.out (HR.out.at j r hr).1)
      have HQT := Lib.hid (show At wr b (off + o * 19) q.cells ∧ b < wr.heap.size from ⟨(HR.out.at o q hq).2.mono HB.out (HR.out.at o q hq).1, Nat.lt_of_lt_of_le (HR.out.at o q hq).1 HB.out.size⟩)
      have HST := Lib.hid hst
      obtain ⟨rc, hrc⟩ : ∃ z, r.cells.toArray = z := ⟨_, rfl⟩
      have HRC := Lib.hid hrc
      obtain ⟨zs, hzs⟩ : ∃ z, (#[.bool false, .int .u8 0, .int .u8 0, .int .u8 0, .int .u8 0, .int .u8 0, .int .u8 0, .int .u8 0, .int .u8 0, .int .u8 0, .int .u8 0, .int .u8 0, .int .u8 0, .int .u8 0, .int .u8 0, .int .u8 0, .int .u8 0, .int .i64 0, .int .i64 0] : Array Value).toList = z := ⟨_, rfl⟩
      have HZL := Lib.hid (show zs.length = 19 from by rw [← hzs]; rfl)
      have HZB := Lib.hid (show Blk (wr.alloc (.cells #[.bool false, .int .u8 0, .int .u8 0, .int .u8 0, .int .u8 0, .int .u8 0, .int .u8 0, .int .u8 0, .int .u8 0, .int .u8 0, .int .u8 0, .int .u8 0, .int .u8 0, .int .u8 0, .int .u8 0, .int .u8 0, .int .u8 0, .int .i64 0, .int .i64 0] 44)) wr.heap.size 44 zs from by rw [← hzs]; exact Blk.new wr 44 _)
      clear hrc hzs hr hq hst ho
      go_upto_region 7 with (first | ((with_reducible refine at_op (.load 44 (.tmp 15)) rfl ?_); refine wpList_load_obj rfl 44 (.tmp 15) rfl b _ rfl _ (HAT.out) _ Try.underlying44 rfl (bk_cellsOf r HOK.out) ?_; rw [HRC.out]) | ((with_reducible refine at_op (.store 44 (.tmp 5) (.tmp 16)) rfl ?_); refine wpList_store_obj rfl 44 (.tmp 5) (.tmp 16) rfl wr.heap.size 0 r.cells rfl (by show Value.agg rc = _; rw [HRC.out]) 44 zs HZB.out (bk_cellsOf r HOK.out) (by rw [BucketM.cells_length HOK.out, HZL.out]; decide) (bk_one r) ?_; intro w2 hb9 hg9))
      rw [setL_all zs _ (by rw [BucketM.cells_length HOK.out, HZL.out])] at hb9
      have hbl : Below wr.heap.size wr w2 := ((Below.refl _ _).alloc (Nat.le_refl _) _).grown hg9 (by simp) (by intro k hk; injection hk with hk; omega)
      have HF1 := Lib.hid (show ∀ W, Below w2.heap.size w2 W → W.cell? ⟨wr.heap.size, 18, none⟩ = some (.int .i64 r.tm) from fun W hW => by have h := bk_tm_at ((hb9.below hW hb9.lt).all) HOK.out; rwa [Nat.zero_add] at h)
      have HF2 := Lib.hid (show ∀ W, Below w2.heap.size w2 W → W.cell? ⟨b, off + o * 19 + 18, none⟩ = some (.int .i64 q.tm) from fun W hW => bk_tm_at ((HQT.out.1.mono hbl HQT.out.2).mono hW (Nat.lt_of_lt_of_le HQT.out.2 hbl.size)) HQK.out)
      have HB2 := Lib.hid (HB.out.trans (hbl.mono HB.out.size))
      obtain ⟨y, hy⟩ : ∃ y, decide (r.tm < q.tm) = y := ⟨_, rfl⟩
      have HY := Lib.hid hy
      have HOL := Lib.hid hol
      have o1 : (0 : Int) ≤ (o : Int) := by omega
      have o2 : (o : Int) < (n : Int) := by omega
      clear hb9 hg9 hbl HZB HAT HQT HRC d1
      refine wp_region_held_drew (S := fun W' => Below w2.heap.size w2 W') (by kernel_rfl) ((Below.refl _ _).drew) (fun hHeld => ?_)
      refine take_first (v := ?_) 0 rfl (by kernel_rfl) (by kernel_rfl) (by kernel_rfl) (fun _ _ _ h => h) (Or.inl ⟨by rfl, ?_⟩) (by assumption) ?_
      rotate_left
      · (intro w hSw; (try dsimp only at hSw); go_simp; try with_reducible rfl)
      (try simp only [Act.put, List.setIfInBounds_toArray, List.set_cons_zero, List.set_cons_succ])
      refine take_first (v := ?_) 1 rfl (by kernel_rfl) (by kernel_rfl) (by kernel_rfl) (fun _ _ _ h => h) (Or.inl ⟨by rfl, ?_⟩) (by assumption) ?_
      rotate_left
      · (intro w hSw; (try dsimp only at hSw); (have fx := HF1.out w hSw; go_simp; try with_reducible rfl))
      (try simp only [Act.put, List.setIfInBounds_toArray, List.set_cons_zero, List.set_cons_succ])
      refine take_first (v := ?_) 2 rfl (by kernel_rfl) (by kernel_rfl) (by kernel_rfl) (fun _ _ _ h => h) (Or.inl ⟨by rfl, ?_⟩) (by assumption) ?_
      rotate_left
      · (intro w hSw; (try dsimp only at hSw); go_simp; try with_reducible rfl)
      (try simp only [Act.put, List.setIfInBounds_toArray, List.set_cons_zero, List.set_cons_succ])
      refine take_first (v := ?_) 3 rfl (by kernel_rfl) (by kernel_rfl) (by kernel_rfl) (fun _ _ _ h => h) (Or.inl ⟨by rfl, ?_⟩) (by assumption) ?_
      rotate_left
      · (intro w hSw; (try dsimp only at hSw); go_simp; try with_reducible rfl)
      (try simp only [Act.put, List.setIfInBounds_toArray, List.set_cons_zero, List.set_cons_succ])
      refine take_first (v := ?_) 4 rfl (by kernel_rfl) (by kernel_rfl) (by kernel_rfl) (fun _ _ _ h => h) (Or.inl ⟨by rfl, ?_⟩) (by assumption) ?_
      rotate_left
      · (intro w hSw; (try dsimp only at hSw); go_simp; try with_reducible rfl)
      (try simp only [Act.put, List.setIfInBounds_toArray, List.set_cons_zero, List.set_cons_succ])
      refine take_first (v := ?_) 5 rfl (by kernel_rfl) (by kernel_rfl) (by kernel_rfl) (fun _ _ _ h => h) (Or.inl ⟨by rfl, ?_⟩) (by assumption) ?_
      rotate_left
      · (intro w hSw; (try dsimp only at hSw); go_simp; try with_reducible rfl)
      (try simp only [Act.put, List.setIfInBounds_toArray, List.set_cons_zero, List.set_cons_succ])
      refine take_first (v := ?_) 6 rfl (by kernel_rfl) (by kernel_rfl) (by kernel_rfl) (fun _ _ _ h => h) (Or.inl ⟨by rfl, ?_⟩) (by assumption) ?_
      rotate_left
      · (intro w hSw; (try dsimp only at hSw); (have fx := HF2.out w hSw; go_simp; try with_reducible rfl))
      (try simp only [Act.put, List.setIfInBounds_toArray, List.set_cons_zero, List.set_cons_succ])
      refine take_first (v := ?_) 7 rfl (by kernel_rfl) (by kernel_rfl) (by kernel_rfl) (fun _ _ _ h => h) (Or.inl ⟨by rfl, ?_⟩) (by assumption) ?_
      rotate_left
      · (intro w hSw; (try dsimp only at hSw); go_simp; try with_reducible rfl)
      (try simp only [Act.put, List.setIfInBounds_toArray, List.set_cons_zero, List.set_cons_succ])
      refine wpAnyH_done (by kernel_rfl) ?_ _
      have HB3 := Lib.hid (HB2.out.drew)
      obtain ⟨j2, hj2⟩ : ∃ z, j + 1 = z := ⟨_, rfl⟩
      have e8 : (j : Int) + 1 = (j2 : Int) := by omega
      have w8' : IntKind.i64.wrap (j2 : Int) = (j2 : Int) := by rw [IntKind.wrap_i64]; omega
      have HJ2 := Lib.hid (show j2 ≤ n ∧ n - j2 < n - j from by omega)
      rw [hj2] at HST
      clear hj2 hj hjn hol
      cases y with
      | true =>
        have HE := Lib.hid (show (List.range j2).foldl (oldestS l) 0 = j from by rw [HST.out]; exact if_pos (of_decide_eq_true HY.out))
        clear hy o1 o2
        go_wp2_with fail
        go_roundw
        case rel => exact ⟨j2, HJ2.out.1, rfl, by rw [HE.out], HB3.out⟩
        case measure => simp [intOf]; exact HJ2.out.2
      | false =>
        have HE := Lib.hid (show (List.range j2).foldl (oldestS l) 0 = o from by rw [HST.out]; exact if_neg (of_decide_eq_false HY.out))
        clear hy o1 o2
        go_wp2_with fail
        go_roundw
        case rel => exact ⟨j2, HJ2.out.1, rfl, by rw [HE.out], HB3.out⟩
        case measure => simp [intOf]; exact HJ2.out.2
    · obtain rfl : j = n := by omega
      have d1 : decide ((j : Int) < (j : Int)) = false := by simp
      have HE := Lib.hid (show oldestM l = (List.range j).foldl (oldestS l) 0 from by rw [oldestM, HLN.out])
      have hol := old_lt l (n := j) (by omega) j hj
      rw [← HE.out] at hol ⊢
      have hd := bkDelete_any base A j c (oldestM l) (bksV l) hn hol (by rw [bksV_len, HLN.out]) (bksV_size HOKS.out) (fun x hx v hv => bksV_one l v (List.mem_flatten.2 ⟨x, hx, hv⟩)) wr (Nat.le_trans HBASE.out HB.out.size) (own_below HOWN.out HB.out)
      obtain ⟨o, ho⟩ : ∃ o, oldestM l = o := ⟨_, rfl⟩
      have HRL := Lib.hid (show (roomM l).length = j - 1 ∧ (bksV (roomM l)) = (bksV l).take o ++ (bksV l).drop (o + 1) from by
        have h1 := HLN.out
        have h2 := HRM.out
        rw [ho] at h2 hol
        rw [h2]
        refine ⟨?_, ?_⟩
        · rw [List.length_append, List.length_take, List.length_drop, h1]
          omega
        · simp only [bksV, List.map_append, List.map_take, List.map_drop])
      rw [ho] at hol hd ⊢
      have e9 : (o : Int) + 1 = ((o + 1 : Nat) : Int) := by omega
      have w9' : IntKind.i64.wrap ((o + 1 : Nat) : Int) = ((o + 1 : Nat) : Int) := by rw [IntKind.wrap_i64]; omega
      have HD := Lib.hid hd
      clear hd ho hol hj
      generalize o + 1 = o1 at e9 w9' HD HRL
      go_wp2_with fail
      refine HD.out.mono ?_
      rintro e w9 ⟨A9, c9, rfl, hown, hb9⟩
      have HO9 := Lib.hid hown
      have HB9 := Lib.hid ((HB.out.mono HBASE.out).trans hb9)
      clear hown hb9 HD
      go_wp2
      go_ret
      exact ⟨A9, c9, by rw [HRL.out.1]; rfl, by rw [HRL.out.1, HRL.out.2]; exact HO9.out, HB9.out⟩
end Go.Proofs.Ytpahfckihcbajaa
namespace Go.Proofs.Ytpahfckihcbajaa
open Go.RowKit

end Go.Proofs.Ytpahfckihcbajaa
namespace Go.Proofs.Ytpahfckihcbajaa
open Go.RowKit

theorem Blk.setCell {w : World} {g : Nat} {t : TypeId} {cs : List Value} (h : Blk w g t cs) (j : Nat) (u : Value) : Blk (w.setCell ⟨g, j, none⟩ u) g t (cs.set j u) := h.set_ j u
end Go.Proofs.Ytpahfckihcbajaa
namespace Go.Proofs.Ytpahfckihcbajaa
open Go.RowKit

set_option maxRecDepth 100000 in
set_option maxHeartbeats 8000000 in
theorem pSince_any (t now : Int) (w : World) :
    Calls Try.prog 38 #[.int .i64 t, .int .i64 now] w fun e w' => e = .returned (.int .u64 (IntKind.u64.wrap (IntKind.u64.wrap now - IntKind.u64.wrap t))) ∧ w' = w := by
  obtain ⟨un, hun⟩ : ∃ z, IntKind.u64.wrap now = z := ⟨_, rfl⟩
  obtain ⟨ut, hut⟩ : ∃ z, IntKind.u64.wrap t = z := ⟨_, rfl⟩
  rw [hun, hut]
  obtain ⟨ud, hud⟩ : ∃ z, IntKind.u64.wrap (un - ut) = z := ⟨_, rfl⟩
  rw [hud]
  go_enter Try.func38, Try.ntmps38
  go_wp2
  go_ret
  exact ⟨rfl, rfl⟩
theorem since_is {t now : Int} (ht : inI64 t) (hn : inI64 now) (h : t ≤ now) : IntKind.u64.wrap (IntKind.u64.wrap now - IntKind.u64.wrap t) = now - t := by
  obtain ⟨un, hun⟩ : ∃ z, IntKind.u64.wrap now = z := ⟨_, rfl⟩
  obtain ⟨ut, hut⟩ : ∃ z, IntKind.u64.wrap t = z := ⟨_, rfl⟩
  rw [hun, hut]
  rw [IntKind.wrap_u64] at hun hut ⊢
  have := ht.1
  have := hn.2
  omega
end Go.Proofs.Ytpahfckihcbajaa
namespace Go.Proofs.Ytpahfckihcbajaa
open Go.RowKit
set_option maxRecDepth 100000 in
set_option maxHeartbeats 8000000 in
theorem pFilled_any (b : BucketM) (now : Int) (hb : b.ok) (hn : inI64 now) (h0 : 0 ≤ b.tok) (h5 : b.tok ≤ 5000) (w : World) :
    Calls Try.prog 29 #[.agg b.cells.toArray, .int .i64 now] w fun e w' => e = .returned (.agg (filledM b now).cells.toArray) ∧ Below w.heap.size w w' := by
  have HO := Lib.hid hb
  obtain ⟨cb, hcb⟩ : ∃ z, b.cells.toArray = z := ⟨_, rfl⟩
  rw [hcb]
  have HCB := Lib.hid hcb
  obtain ⟨zs, hzs⟩ : ∃ z, (#[.bool false, .int .u8 0, .int .u8 0, .int .u8 0, .int .u8 0, .int .u8 0, .int .u8 0, .int .u8 0, .int .u8 0, .int .u8 0, .int .u8 0, .int .u8 0, .int .u8 0, .int .u8 0, .int .u8 0, .int .u8 0, .int .u8 0, .int .i64 0, .int .i64 0] : Array Value).toList = z := ⟨_, rfl⟩
  have HZL := Lib.hid (show zs.length = 19 from by rw [← hzs]; rfl)
  have HM := Lib.hid (show Mem w [blkE (w.heap.size + 1) 44 zs, blkE w.heap.size 44 b.cells] ((w.alloc (.cells cb 44)).alloc (.cells #[.bool false, .int .u8 0, .int .u8 0, .int .u8 0, .int .u8 0, .int .u8 0, .int .u8 0, .int .u8 0, .int .u8 0, .int .u8 0, .int .u8 0, .int .u8 0, .int .u8 0, .int .u8 0, .int .u8 0, .int .u8 0, .int .u8 0, .int .i64 0, .int .i64 0] 44)) from ((Mem.nil w).alloc rfl 44 cb _ hcb.symm).alloc (by simp) 44 _ zs (by rw [← hzs]))
  have hfo := (filled_ok hb hn h0 h5).1
  obtain ⟨r, hr⟩ : ∃ r, filledM b now = r := ⟨_, rfl⟩
  rw [hr] at hfo ⊢
  have HFO := Lib.hid hfo
  have HRR := Lib.hid hr
  clear hb hcb hzs hfo hr
  go_enter Try.func29, Try.ntmps29
  go_upto_region 1 with fail
  generalize (w.alloc (.cells cb 44)).alloc (.cells #[.bool false, .int .u8 0, .int .u8 0, .int .u8 0, .int .u8 0, .int .u8 0, .int .u8 0, .int .u8 0, .int .u8 0, .int .u8 0, .int .u8 0, .int .u8 0, .int .u8 0, .int .u8 0, .int .u8 0, .int .u8 0, .int .u8 0, .int .i64 0, .int .i64 0] 44) = w1 at HM ⊢
  have ftm := bk_tm_at (HM.out.blk 1 rfl).all HO.out
  have ftk := bk_tok_at (HM.out.blk 1 rfl).all HO.out
  obtain ⟨t, ht⟩ : ∃ t, b.tm = t := ⟨_, rfl⟩
  obtain ⟨k, hk⟩ : ∃ k, b.tok = k := ⟨_, rfl⟩
  rw [ht] at ftm
  rw [hk] at ftk h0 h5
  have HTT := Lib.hid (show inI64 t from by rw [← ht]; exact HO.out.2.2)
  have HRT := Lib.hid (show r = { b with tok := if t < now then min 5000 (k + 20 * min (now - t) 250) else k, tm := now } from by rw [← HRR.out, filledM, ht, hk])
  obtain ⟨k2, hk2⟩ : ∃ z, (if t < now then min 5000 (k + 20 * min (now - t) 250) else k) = z := ⟨_, rfl⟩
  rw [hk2] at HRT
  have zz := (HM.out.blk 1 rfl).frozen 17
  by_cases hl : t < now
  · have d1 : decide (t < now) = true := decide_eq_true hl
    have hs := fun W => pSince_any t now W
    simp only [since_is HTT.out hn (show t ≤ now by omega)] at hs
    obtain ⟨d, hd⟩ : ∃ z, now - t = z := ⟨_, rfl⟩
    simp only [hd] at hs
    rw [if_pos hl, hd] at hk2
    have HS := Lib.hid hs
    obtain ⟨e, he⟩ : ∃ z, min d 250 = z := ⟨_, rfl⟩
    rw [he] at hk2
    have HE := Lib.hid he
    have hee : 0 ≤ e ∧ e ≤ 250 := by omega
    obtain ⟨f, hf⟩ : ∃ z, e * 20 = z := ⟨_, rfl⟩
    rw [Int.mul_comm 20 e, hf] at hk2
    have w1' : IntKind.u64.wrap f = f := by rw [IntKind.wrap_u64]; omega
    have w2' : IntKind.i64.wrap f = f := by rw [IntKind.wrap_i64]; omega
    obtain ⟨s, hs⟩ : ∃ z, k + f = z := ⟨_, rfl⟩
    rw [hs] at hk2
    have w3' : IntKind.i64.wrap s = s := by rw [IntKind.wrap_i64]; omega
    have HK2 := Lib.hid (show min s 5000 = k2 by omega)
    clear hl hd he hee hn hk2
    go_upto_region 2 with fail
    go_wp2_with fail
    refine (HS.out _).mono ?_
    rintro e9 w9 ⟨rfl, rfl⟩
    clear HS
    go_upto_region 4 with (first | (refine wpList_min_k rfl (.tmp 13) (.const (.int .u64 250)) _ rfl .u64 d 250 e rfl rfl HE.out ?_) | (refine wpList_min_k rfl (.tmp 20) (.const (.int .i64 5000)) _ rfl .i64 s 5000 k2 rfl rfl HK2.out ?_))
    have hm0 := HM.out.setCell 1 rfl 17 (.int .i64 k2)
    rw [bk_tok_set HO.out] at hm0
    generalize w9.setCell ⟨w.heap.size, 17, none⟩ (.int .i64 k2) = w2 at hm0 ⊢
    replace HM := Lib.hid hm0
    clear hm0 ftm ftk zz hk ht d1 w1' hf w2' hs w3'
    have hko : BucketM.ok { b with tok := k2 } := by
      have h := HFO.out
      rw [HRT.out] at h
      exact ⟨HO.out.1, h.2.1, HO.out.2.2⟩
    have HKO := Lib.hid hko
    clear hko
    have ftm := bk_tm_at (HM.out.blk 1 rfl).all HKO.out
    have zz := (HM.out.blk 1 rfl).frozen 18
    go_upto_region 5 with fail
    have hm := HM.out.setCell 1 rfl 18 (.int .i64 now)
    rw [bk_tm_set HKO.out] at hm
    rw [show ({ ({ b with tok := k2 } : BucketM) with tm := now } : BucketM) = r from HRT.out.symm] at hm
    clear ftm zz
    have hm9 := hm
    generalize w2.setCell ⟨w.heap.size, 18, none⟩ (.int .i64 now) = w8 at hm9 ⊢
    obtain ⟨rc, hrc⟩ : ∃ z, r.cells.toArray = z := ⟨_, rfl⟩
    have HRC := Lib.hid hrc
    clear hrc hm
    have HF := Lib.hid hm9
    clear hm9
    go_wp2_with (first | ((with_reducible refine at_op (.load 44 (.tmp 2)) rfl ?_); refine wpList_load_obj rfl 44 (.tmp 2) rfl w.heap.size 0 rfl _ (HF.out.blk 1 rfl).all _ Try.underlying44 rfl (bk_cellsOf r HFO.out) ?_; rw [HRC.out]) | ((with_reducible refine at_op (.store 44 (.tmp 4) (.tmp 25)) rfl ?_); refine wpList_store_obj rfl 44 (.tmp 4) (.tmp 25) rfl (w.heap.size + 1) 0 r.cells rfl (by show Value.agg rc = _; rw [HRC.out]) 44 zs (HF.out.blk 0 rfl) (bk_cellsOf r HFO.out) (by rw [BucketM.cells_length HFO.out, HZL.out]; decide) (bk_one r) ?_; intro w9 hb9 hg9))
    rw [setL_all zs _ (by rw [BucketM.cells_length HFO.out, HZL.out])] at hb9
    exact bodyPost_ret (results_obj rfl _ _ (w.heap.size + 1) 44 r.cells _ rfl hb9 Try.underlying44 rfl (bk_cellsOf r HFO.out)) rfl ⟨rfl, (HF.out.put 0 rfl _ hg9 hb9).bel⟩
  · have d1 : decide (t < now) = false := decide_eq_false hl
    rw [if_neg hl] at hk2
    have HB := Lib.hid (show ({ b with tok := k2 } : BucketM) = b from by rw [← hk2, ← hk])
    clear hl hn
    go_upto_region 4 with fail
    replace HM := Lib.hid (show Mem w [blkE (w.heap.size + 1) 44 zs, blkE w.heap.size 44 (BucketM.cells { b with tok := k2 })] w1 from by rw [HB.out]; exact HM.out)
    clear ftm ftk zz hk ht d1 hk2
    have hko : BucketM.ok { b with tok := k2 } := by
      have h := HFO.out
      rw [HRT.out] at h
      exact ⟨HO.out.1, h.2.1, HO.out.2.2⟩
    have HKO := Lib.hid hko
    clear hko
    have ftm := bk_tm_at (HM.out.blk 1 rfl).all HKO.out
    have zz := (HM.out.blk 1 rfl).frozen 18
    go_upto_region 5 with fail
    have hm := HM.out.setCell 1 rfl 18 (.int .i64 now)
    rw [bk_tm_set HKO.out] at hm
    rw [show ({ ({ b with tok := k2 } : BucketM) with tm := now } : BucketM) = r from HRT.out.symm] at hm
    clear ftm zz
    have hm9 := hm
    generalize w1.setCell ⟨w.heap.size, 18, none⟩ (.int .i64 now) = w8 at hm9 ⊢
    obtain ⟨rc, hrc⟩ : ∃ z, r.cells.toArray = z := ⟨_, rfl⟩
    have HRC := Lib.hid hrc
    clear hrc hm
    have HF := Lib.hid hm9
    clear hm9
    go_wp2_with (first | ((with_reducible refine at_op (.load 44 (.tmp 2)) rfl ?_); refine wpList_load_obj rfl 44 (.tmp 2) rfl w.heap.size 0 rfl _ (HF.out.blk 1 rfl).all _ Try.underlying44 rfl (bk_cellsOf r HFO.out) ?_; rw [HRC.out]) | ((with_reducible refine at_op (.store 44 (.tmp 4) (.tmp 25)) rfl ?_); refine wpList_store_obj rfl 44 (.tmp 4) (.tmp 25) rfl (w.heap.size + 1) 0 r.cells rfl (by show Value.agg rc = _; rw [HRC.out]) 44 zs (HF.out.blk 0 rfl) (bk_cellsOf r HFO.out) (by rw [BucketM.cells_length HFO.out, HZL.out]; decide) (bk_one r) ?_; intro w9 hb9 hg9))
    rw [setL_all zs _ (by rw [BucketM.cells_length HFO.out, HZL.out])] at hb9
    exact bodyPost_ret (results_obj rfl _ _ (w.heap.size + 1) 44 r.cells _ rfl hb9 Try.underlying44 rfl (bk_cellsOf r HFO.out)) rfl ⟨rfl, (HF.out.put 0 rfl _ hg9 hb9).bel⟩
end Go.Proofs.Ytpahfckihcbajaa
namespace Go.Proofs.Ytpahfckihcbajaa
open Go.RowKit

theorem bk_eql_nil (A : Option Addr) (n c : Nat) (w : World) : (binOp .eql 32 (.slice A n c) (.slice none 0 0)).run Try.prog w = .ok (.bool A.isNone) w := by
  have h := run_equal_slice_nil (P := Try.prog) w 32 44 A n c Try.underlying32
  simp [binOp, h, Result.andThen]
set_option maxRecDepth 100000 in
set_option maxHeartbeats 16000000 in
theorem bkClone_any (A : Option Addr) (n c : Nat) (os : List (List Value)) (hn : n ≤ 1000) (h1 : ∀ o ∈ os, ∀ v ∈ o, v.oneCell' = true) (w : World) (hr : RdRow w w.heap.size A 19 n os) :
    Calls Try.prog 26 #[.slice A n c] w fun e w' => ∃ A' c', e = .returned (.slice A' n c') ∧ w'.ownsRow w.heap.size 44 19 (.slice A' n c') n os.flatten ∧ Below w.heap.size w w' := by
  have HR := Lib.hid hr
  have H1 := Lib.hid (one_flat h1)
  obtain ⟨ik, hik, hiz, his, hib⟩ := bucketInfo
  have HKI := Lib.hid (And.intro hik (And.intro hiz (And.intro his hib)))
  clear hik hiz his hib
  clear h1
  cases A with
  | none =>
    have hn0 : n = 0 := by
      rcases Nat.eq_zero_or_pos n with h | h
      · exact h
      · obtain ⟨b, off, e⟩ := hr.addr h
        cases e
    subst hn0
    clear hr
    have hen := bk_eql_nil none 0 c
    simp only [Option.isNone_none] at hen
    go_enter Try.func26, Try.ntmps26
    go_wp2
    go_ret
    have hl0 : os = [] := List.eq_nil_of_length_eq_zero HR.out.1
    subst hl0
    exact ⟨none, 0, rfl, World.ownsRow_nil _ _ _ _, Below.refl _ _⟩
  | some ad =>
    have HB := Lib.hid (show Mem w [blkE w.heap.size 44 []] (w.alloc (.cells #[] 44)) from (Mem.nil w).alloc rfl 44 #[] [] rfl)
    have hown0 := World.ownsRow_lit (base := w.heap.size) (e := 44) (size := 19) w #[] 0 (Nat.le_refl _) (by simp) rfl
    have HO := Lib.hid hown0
    clear hr hown0
    have hen := bk_eql_nil (some ad) n c
    simp only [Option.isNone_some] at hen
    go_enter Try.func26, Try.ntmps26
    go_wp2_with (refine wpList_append_rows _ rfl (.tmp 5) (.tmp 6) 32 rfl w.heap.size 44 ik _ 19 40 Try.underlying32 HKI.out.1 HKI.out.2.1 HKI.out.2.2.1 HKI.out.2.2.2 (by rfl) (by omega) (.slice (some ⟨w.heap.size, 0, none⟩) 0 0) 0 [] rfl HO.out _ (some ad) n c os rfl ((HR.out.below HB.out.bel).mono HB.out.size) H1.out (by unfold maxLen; omega) (by omega) HB.out.size ?_; intro v1 w3 hown1 hg1 _)
    rw [Nat.zero_add, List.nil_append] at hown1
    obtain ⟨A5, c5, rfl, _⟩ := own_sliceK hown1
    have HF := Lib.hid (HB.out.bel.grown hg1 HB.out.bel.size (fun k hk => own_from HO.out k hk))
    go_ret
    exact ⟨A5, c5, rfl, hown1, HF.out⟩
end Go.Proofs.Ytpahfckihcbajaa
namespace Go.Proofs.Ytpahfckihcbajaa
open Go.RowKit

theorem bks_one2 (l : List BucketM) : ∀ x ∈ bksV l, ∀ v ∈ x, v.oneCell' = true := fun x hx v hv => bksV_one l v (List.mem_flatten.2 ⟨x, hx, hv⟩)
set_option maxRecDepth 100000 in
set_option maxHeartbeats 8000000 in
theorem pAllow_any : LmAllowC 17 := by
  intro A n c l a now w hnc hcm hn1 hr ht ha hnow
  obtain ⟨ik, hk1, hk2, hk3, hk4⟩ := bkInfo
  have HKI := Lib.hid (And.intro hk1 (And.intro hk2 (And.intro hk3 hk4)))
  have HA := Lib.hid ha
  have HNOW := Lib.hid hnow
  have HT := Lib.hid ht
  have HLN := Lib.hid hr.len
  have HOKS := Lib.hid hr.2
  have HBK := Lib.hid (fun (tt : Int) (h : inI64 tt) => bk_built ⟨a, 5000, tt⟩ ⟨ha, (show inI64 5000 from by unfold inI64; omega), h⟩)
  obtain ⟨ac, hac⟩ : ∃ z, a.cells.toArray = z := ⟨_, rfl⟩
  rw [hac]
  have HAC := Lib.hid hac
  have HM := Lib.hid (show Mem w [blkE w.heap.size 35 a.cells] (w.alloc (.cells ac 35)) from (Mem.nil w).alloc rfl 35 ac _ hac.symm)
  have HR1 := Lib.hid (show BkRd (w.alloc (.cells ac 35)) (w.alloc (.cells ac 35)).heap.size A n l from (hr.below HM.out.bel).mono HM.out.size)
  obtain ⟨al, hal⟩ : ∃ z, allowM l a now = z := ⟨_, rfl⟩
  have HAL := Lib.hid hal
  rw [hal]
  clear hk1 hk2 hk3 hk4 ha hnow ht hr hac hal hnc hcm
  go_enter Try.func17, Try.ntmps17
  go_upto_region 1 with fail
  generalize w.alloc (.cells ac 35) = w1 at HM HR1 ⊢
  have HG := Lib.hid (show w.heap.size < w1.heap.size from (HM.out.blk 0 rfl).lt)
  go_wp2_with fail
  refine (bkClone_any A n c (bksV l) hn1 (bks_one2 l) w1 HR1.out.1).mono ?_
  rintro e w2 ⟨A2, c2, rfl, hown, hb⟩
  have HAB := Lib.hid (fun (W : World) (h : Below w1.heap.size w1 W) => (show Blk W w.heap.size 35 a.cells from (HM.out.blk 0 rfl).below h HG.out))
  have HD := Lib.hid (bkFirst_any A2 n c2 (bksV l) (by omega) (bks_one2 l) 28 #[.pointer (some ⟨w.heap.size, 0, none⟩)] (enters_of Try.func28 (by kernel_rfl) rfl) (cellsB fun b => decide (b.a = a)) w1.heap.size w2 hb.size (BkRd.of_own HLN.out HOKS.out hown).1 (by
    intro o ho W hW
    obtain ⟨s, hs, _, rfl⟩ := bks_mem HOKS.out ho
    rw [cellsB_is _ hs]
    exact isPred_any a HA.out s hs _ W (HAB.out W (hb.trans hW))))
  rw [firstM_bks _ HOKS.out] at HD
  have HO := Lib.hid hown
  have HB := Lib.hid hb
  have HBW := Lib.hid (show Below w.heap.size w w1 from HM.out.bel)
  clear hown hb HM HR1
  go_upto_region 2 with fail
  go_wp2_with fail
  refine HD.out.mono ?_
  rintro e w3 ⟨rfl, hb⟩
  have HO3 := Lib.hid (own_below HO.out hb)
  have HB3 := Lib.hid (HB.out.trans (hb.mono HB.out.size))
  clear hb HD HO HB
  obtain ⟨q, hq⟩ : ∃ q, (l.findIdx? fun b => decide (b.a = a)).getD l.length = q := ⟨_, rfl⟩
  rw [hq]
  have HQ := Lib.hid hq
  clear hq
  obtain ⟨bq, hbq⟩ : ∃ b, decide ((q : Int) < (n : Int)) = b := ⟨_, rfl⟩
  have HBQ := Lib.hid hbq
  have HSZ := Lib.hid (And.intro HG.out HB3.out.size)
  have HFW := Lib.hid (show Below w.heap.size w w3 from HBW.out.trans (HB3.out.mono (Nat.le_of_lt HG.out)))
  generalize w1.heap.size = B1 at HO3 HB3 HSZ HAB HG
  go_upto_region 3 with fail
  have hbq2 : decide (q < n) = bq := by rw [← hbq]; simp
  go_cut [18] (fun v18 wx => v18 = .bool bq ∧ wx = w3)
  case first =>
    go_wp2_with fail
    go_meet
    exact ⟨rfl, rfl⟩
  obtain ⟨rfl, hw3⟩ := hcut
  subst hw3
  obtain ⟨w3, rfl⟩ : ∃ z, z = wc := ⟨wc, rfl⟩
  clear hbq hbq2
  go_upto_if 18 with fail
  go_cut [8, 9] (fun v8 v9 wx => ∃ (A3 : Option Addr) (c3 : Nat) (G : List BucketM) (p : Nat), v8 = .slice A3 G.length c3 ∧ v9 = .int .i64 (p : Int) ∧ givenM l a now = (G, p) ∧ p < G.length ∧ (∀ s ∈ G, s.ok) ∧ wx.ownsRow B1 44 19 (.slice A3 G.length c3) G.length (bksV G).flatten ∧ Below w.heap.size w wx)
  case first =>
    cases bq with
    | true =>
      have hqn : q < n := by have := of_decide_eq_true HBQ.out; omega
      obtain ⟨b, hb0, hgv⟩ : ∃ b, l[q]? = some b ∧ givenM l a now = (l.set q (filledM b now), q) := by
        have hq := HQ.out
        cases hf : l.findIdx? fun b => decide (b.a = a) with
        | none =>
          rw [hf] at hq
          have h2 := HLN.out
          simp only [Option.getD_none] at hq
          omega
        | some i =>
          rw [hf] at hq
          obtain rfl : i = q := hq
          obtain ⟨hi, _, _⟩ := List.findIdx?_eq_some_iff_getElem.1 hf
          refine ⟨l[i], List.getElem?_eq_getElem hi, ?_⟩
          rw [givenM, hf]
          show (l.modify i fun b => filledM b now, i) = _
          rw [modify_set (List.getElem?_eq_getElem hi)]
      have HOK := Lib.hid (HOKS.out b (List.mem_of_getElem? hb0))
      have htk := HT.out b (List.mem_of_getElem? hb0)
      have hfo := (filled_ok HOK.out HNOW.out htk.1 htk.2).1
      have hfl := fun W => pFilled_any b now HOK.out HNOW.out htk.1 htk.2 W
      obtain ⟨bc, hbc⟩ : ∃ z, b.cells.toArray = z := ⟨_, rfl⟩
      obtain ⟨fb, hfb⟩ : ∃ z, filledM b now = z := ⟨_, rfl⟩
      obtain ⟨fc, hfc⟩ : ∃ z, fb.cells.toArray = z := ⟨_, rfl⟩
      simp only [hbc, hfb, hfc] at hfl
      rw [hfb] at hfo hgv
      have HFL := Lib.hid hfl
      have HFO := Lib.hid hfo
      have HBC := Lib.hid hbc
      have HFC := Lib.hid hfc
      have HGV := Lib.hid hgv
      obtain ⟨g, rest, hA2, hbg, hblk, hrl, hnc2, hcm2⟩ := bkOwn_blk HO3.out (by omega)
      subst hA2
      have HBL := Lib.hid hblk
      have HAT := Lib.hid (bk_row_at hblk HOKS.out hb0)
      have HRL := Lib.hid (And.intro hbg (And.intro hrl (And.intro hnc2 hcm2)))
      have HQL := Lib.hid (show q < l.length from by rw [HLN.out]; exact hqn)
      have e2 : (q : Int) < (n : Int) := by omega
      have d2 : decide ((q : Int) < (n : Int)) = true := decide_eq_true e2
      have d3 : decide (q < n) = true := decide_eq_true hqn
      clear hb0 htk hfo hfl hbc hfb hfc hgv hblk hbg hrl hnc2 hcm2 HO3
      go_wp2_with ((with_reducible refine at_op (.load 44 (.tmp 23)) rfl ?_); refine wpList_load_obj rfl 44 (.tmp 23) rfl g _ rfl b.cells HAT.out _ Try.underlying44 rfl (bk_cellsOf b HOK.out) ?_; rw [HBC.out])
      refine (HFL.out _).mono ?_
      rintro e w4 ⟨rfl, hb4⟩
      have HBL4 := Lib.hid (show Blk w4 g 44 ((bksV l).flatten ++ rest) from HBL.out.below hb4 HBL.out.lt)
      have HF4 := Lib.hid (And.intro (HFW.out.trans (hb4.mono HFW.out.size)) (Nat.le_trans (Nat.le_trans HG.out HSZ.out.2) hb4.size))
      clear hb4 HFL HBL
      go_wp2_with ((with_reducible refine at_op (.store 44 (.tmp 27) (.tmp 26)) rfl ?_); refine wpList_store_obj rfl 44 (.tmp 27) (.tmp 26) rfl g (q * 19) fb.cells rfl (by show Value.agg fc = _; rw [HFC.out]) 44 ((bksV l).flatten ++ rest) HBL4.out (bk_cellsOf fb HFO.out) (by rw [List.length_append, flat_length (bksV_size HOKS.out), bksV_len, HLN.out, BucketM.cells_length HFO.out]; have := Nat.mul_le_mul_right 19 (show q + 1 ≤ n from hqn); omega) (bk_one fb) ?_; intro w5 hb5 hg5)
      go_meet
      rw [bk_row_set HOKS.out HQL.out HFO.out] at hb5
      have hln : (l.set q fb).length = n := by rw [List.length_set, HLN.out]
      exact ⟨some ⟨g, 0, none⟩, c2, l.set q fb, q, by rw [hln], rfl, HGV.out, by rw [hln]; exact hqn, bks_set_ok HOKS.out HFO.out, by rw [hln]; exact bkBlk_own hb5 hln (bks_set_ok HOKS.out HFO.out) HRL.out.1 HRL.out.2.1 HRL.out.2.2.1 HRL.out.2.2.2, HF4.out.1.grown hg5 HF4.out.1.size (fun k hk => by injection hk with hk; have := HRL.out.1; have := HG.out; omega)⟩
    | false =>
      have hqn : n ≤ q := by have := of_decide_eq_false HBQ.out; omega
      have hgv : givenM l a now = ((roomM l).take (aheadB a (roomM l)) ++ newM a now :: (roomM l).drop (aheadB a (roomM l)), aheadB a (roomM l)) := by
        have hq := HQ.out
        cases hf : l.findIdx? fun b => decide (b.a = a) with
        | none => rw [givenM, hf]
        | some i =>
          rw [hf] at hq
          obtain rfl : i = q := hq
          obtain ⟨hi, _, _⟩ := List.findIdx?_eq_some_iff_getElem.1 hf
          have h2 := HLN.out
          omega
      have hlr : (roomM l).length ≤ n := by
        rw [← HLN.out]
        unfold roomM
        split
        · rw [List.length_eraseIdx]
          split <;> omega
        · exact Nat.le_refl _
      have hokr : ∀ s ∈ roomM l, s.ok := fun s hs => by
        unfold roomM at hs
        split at hs
        · exact HOKS.out s (List.mem_of_mem_eraseIdx hs)
        · exact HOKS.out s hs
      have hroom := pRoom_any B1 A2 n c2 l hn1 HLN.out HOKS.out w3 HSZ.out.2 HO3.out
      obtain ⟨R, hR⟩ : ∃ z, roomM l = z := ⟨_, rfl⟩
      rw [hR] at hgv hlr hokr hroom
      obtain ⟨m, hm⟩ : ∃ z, R.length = z := ⟨_, rfl⟩
      rw [hm] at hlr hroom
      have HM := Lib.hid hm
      have HGV := Lib.hid hgv
      have HOKR := Lib.hid hokr
      have HROOM := Lib.hid hroom
      clear hgv hokr hroom hR hm HO3
      go_wp2_with fail
      refine HROOM.out.mono ?_
      rintro e w4 ⟨A4, c4, rfl, hown, hb⟩
      have hlt4 := fun (g : Nat) (hA : A4 = some ⟨g, 0, none⟩) => (hown.lt g (by rw [hA]; rfl)).2
      have HO4 := Lib.hid hown
      have HB4 := Lib.hid (HB3.out.trans hb)
      have HF4 := Lib.hid (And.intro (HFW.out.trans (hb.mono (Nat.le_of_lt HG.out))) (Nat.le_trans HSZ.out.2 hb.size))
      have HD := Lib.hid (bkFirst_any A4 m c4 (bksV R) (by omega) (bks_one2 R) 31 #[.pointer (some ⟨w.heap.size, 0, none⟩)] (enters_of Try.func31 (by kernel_rfl) rfl) (cellsB fun b => lessM a b.a) w4.heap.size w4 (Nat.le_refl _) (BkRd.of_own HM.out HOKR.out hown).1 (by
        intro o ho W hW
        obtain ⟨s, hs, _, rfl⟩ := bks_mem HOKR.out ho
        rw [cellsB_is _ hs]
        exact aheadPred_any a HA.out s hs _ W (HAB.out W (HB4.out.trans (hW.mono HF4.out.2)))))
      rw [firstM_bks _ HOKR.out] at HD
      have HLT := Lib.hid hlt4
      clear hown hb HROOM hlt4
      go_wp2_with fail
      refine HD.out.mono ?_
      rintro e w5 ⟨rfl, hb⟩
      obtain ⟨p, hp⟩ : ∃ z, aheadB a R = z := ⟨_, rfl⟩
      have hpm : p ≤ m := by rw [← hp, ← HM.out]; exact ahead_le a R
      have hp2 : (R.findIdx? fun b => lessM a b.a).getD R.length = p := hp
      rw [hp2]
      rw [hp] at HGV
      have HO5 := Lib.hid (own_below HO4.out hb)
      have HB5 := Lib.hid (HB4.out.trans (hb.mono HF4.out.2))
      have HF5 := Lib.hid (And.intro (HF4.out.1.trans (hb.mono HF4.out.1.size)) (And.intro (Nat.le_trans HF4.out.2 hb.size) hb.size))
      have HAT := Lib.hid (HAB.out w5 HB5.out)
      clear hb HD HB4 HO4 hp hp2
      obtain ⟨nc, hnb⟩ : ∃ z, (newM a now).cells.toArray = z := ⟨_, rfl⟩
      have hbt := HBK.out now HNOW.out
      rw [show (⟨a, 5000, now⟩ : BucketM) = newM a now from rfl, hnb, HAC.out] at hbt
      have HBT := Lib.hid hbt
      have HNB := Lib.hid hnb
      have HNK := Lib.hid (show (newM a now).ok from ⟨HA.out, (show inI64 5000 from by unfold inI64; omega), HNOW.out⟩)
      clear hnb hbt
      go_wp2_with (first | ((with_reducible refine at_op (.load 35 (.tmp 4)) rfl ?_); refine wpList_load_obj rfl 35 (.tmp 4) rfl w.heap.size 0 rfl a.cells HAT.out.all _ Try.underlying35 rfl (addr_cellsOf a HA.out) ?_; rw [HAC.out]) | (refine wpList_build_as rfl 44 [(0, .tmp 35), (1, .const (.int .i64 5000)), (2, .tmp 36)] rfl nc ?_ ?_; exact HBT.out) | (refine wpList_buildOne rfl 32 44 (.tmp 37) rfl nc rfl 19 Try.underlying32 ik HKI.out.1 HKI.out.2.2.1 _ HKI.out.2.1 (by omega) (by omega) (by rw [← HNB.out, List.size_toArray, BucketM.cells_length HNK.out]) ?_))
      have HI := Lib.hid (bkIns_any B1 A4 m c4 p (bksV R) (newM a now).cells (by omega) hpm (by rw [bksV_len]; exact HM.out) (bksV_size HOKR.out) (bks_one2 R) (BucketM.cells_length HNK.out) (bk_one _) w5.heap.size (w5.alloc (.cells nc 44)) (Nat.le_trans HF5.out.2.1 (by simp)) (HO5.out.alloc _) (by rw [← HNB.out]; exact Blk.new w5 44 _) (fun ad h => by
        have h2 := HF5.out.2.2
        rcases HO5.out.2 with ⟨h3, _⟩ | ⟨g, cap, cur, h3, _⟩
        · injection h3 with h3
          rw [h3] at h
          cases h
        · injection h3 with h3
          have h4 := HLT.out g h3
          rw [h3] at h
          injection h with h
          subst h
          show g ≠ _
          omega))
      have HF6 := Lib.hid (show Below w.heap.size w (w5.alloc (.cells nc 44)) from HF5.out.1.alloc HF5.out.1.size _)
      generalize w5.alloc (.cells nc 44) = w6 at HI HF6 ⊢
      refine HI.out.mono ?_
      rintro e w7 ⟨v7, rfl, ho7, hb7⟩
      obtain ⟨A7, c7, rfl, _⟩ := own_sliceK ho7
      have HO7 := Lib.hid ho7
      have HF7 := Lib.hid (HF6.out.trans (hb7.mono (Nat.le_of_lt HG.out)))
      clear ho7 hb7 HI
      go_wp2_with fail
      go_meet
      have hln : (R.take p ++ newM a now :: R.drop p).length = m + 1 := by rw [List.length_append, List.length_cons, List.length_take, List.length_drop, HM.out]; omega
      exact ⟨A7, c7, R.take p ++ newM a now :: R.drop p, p, by rw [hln], rfl, HGV.out, by rw [hln]; omega, fun s hs => by
        rcases List.mem_append.1 hs with hs | hs
        · exact HOKR.out s (List.mem_of_mem_take hs)
        · rcases List.mem_cons.1 hs with rfl | hs
          · exact HNK.out
          · exact HOKR.out s (List.mem_of_mem_drop hs), by
        rw [hln]
        have h := HO7.out
        rw [bksV_take, bksV_drop, show bksV (R.take p) ++ (newM a now).cells :: bksV (R.drop p) = bksV (R.take p ++ newM a now :: R.drop p) from by simp [bksV]] at h
        exact h, HF7.out⟩
  obtain ⟨A3, c3, G, p, rfl, rfl, hgv, hpg, hokg, hown, hbw⟩ := hcut
  obtain ⟨b, hb0⟩ : ∃ b, G[p]? = some b := ⟨G[p], List.getElem?_eq_getElem hpg⟩
  have hgl := given_len hgv
  obtain ⟨m, hm⟩ : ∃ z, G.length = z := ⟨_, rfl⟩
  rw [hm] at hpg hown hgl ⊢
  have hml : m ≤ 1001 := by have := HLN.out; omega
  obtain ⟨g, rest, hA3, hbg, hblk, hrl, hnc3, hcm3⟩ := bkOwn_blk hown (by omega)
  subst hA3
  have HAT := Lib.hid (bk_row_at hblk hokg hb0)
  have HOK := Lib.hid (hokg b (List.mem_of_getElem? hb0))
  have ftk := bk_tok_at HAT.out HOK.out
  have zz := hblk.frozen (p * 19 + 17)
  have HTK := Lib.hid (show inI64 b.tok from HOK.out.2.1)
  obtain ⟨t, ht⟩ : ∃ z, b.tok = z := ⟨_, rfl⟩
  rw [ht] at ftk HTK
  have HLO := Lib.hid (fun (h : t < 1000) => (show al = (G, false) from by rw [← HAL.out, allowM, hgv]; exact takeB_low hb0 (by rw [ht]; exact h)))
  have HHI := Lib.hid (fun (h : ¬ t < 1000) => (show al = (G.set p { b with tok := t - 1000 }, true) from by rw [← HAL.out, allowM, hgv, ← ht]; exact takeB_high hb0 (by rw [ht]; exact h)))
  have HRT := Lib.hid (fun v => bk_row_tok (rest := rest) hokg hb0 v)
  have HBL := Lib.hid hblk
  have HOKG := Lib.hid hokg
  have HRL := Lib.hid (And.intro hbg (And.intro hrl (And.intro hnc3 hcm3)))
  have HMM := Lib.hid hm
  have HOWN := Lib.hid hown
  have HBW := Lib.hid hbw
  have e2 : (p : Int) < (m : Int) := by omega
  have d2 : decide ((p : Int) < (m : Int)) = true := decide_eq_true e2
  have d3 : decide (p < m) = true := decide_eq_true hpg
  clear hgv hokg hown hbw hb0 hblk hbg hrl hnc3 hcm3 hm hgl HAT ht HBQ HQ
  by_cases hl : t < 1000
  · have d1 : decide (t < 1000) = true := decide_eq_true hl
    have HE := Lib.hid (HLO.out hl)
    clear hl
    go_wp2_with fail
    go_ret2
    exact ⟨some ⟨g, 0, none⟩, m, c3, by rw [HE.out]; rfl, HRL.out.2.2.1, HRL.out.2.2.2, by rw [HE.out]; exact BkRd.of_own HMM.out HOKG.out HOWN.out, HBW.out⟩
  · have d1 : decide (t < 1000) = false := decide_eq_false hl
    have HE := Lib.hid (HHI.out hl)
    have hk := HTK.out
    have w1' : IntKind.i64.wrap (t - 1000) = t - 1000 := by rw [IntKind.wrap_i64]; have := hk.1; have := hk.2; omega
    have HNO := Lib.hid (show BucketM.ok { b with tok := t - 1000 } from ⟨HOK.out.1, ⟨by show -9223372036854775808 ≤ t - 1000; omega, by show t - 1000 ≤ 9223372036854775807; have := hk.2; omega⟩, HOK.out.2.2⟩)
    obtain ⟨t2, ht2⟩ : ∃ z, t - 1000 = z := ⟨_, rfl⟩
    rw [ht2] at w1' HE HNO
    have hs2 : decide (t - 1000 = t2) = true := decide_eq_true ht2
    clear hl hk hs2
    go_wp2_with fail
    go_ret2
    have hb9 := HBL.out.setCell (p * 19 + 17) (.int .i64 t2)
    rw [HRT.out] at hb9
    have hln : (G.set p { b with tok := t2 }).length = m := by rw [List.length_set]; exact HMM.out
    have hok9 := bks_set_ok HOKG.out HNO.out (p := p)
    exact ⟨some ⟨g, 0, none⟩, m, c3, by rw [HE.out]; rfl, HRL.out.2.2.1, HRL.out.2.2.2, by rw [HE.out]; exact BkRd.of_own hln hok9 (bkBlk_own hb9 hln hok9 HRL.out.1 HRL.out.2.1 HRL.out.2.2.1 HRL.out.2.2.2), HBW.out.setCell (p := ⟨g, p * 19 + 17, none⟩) (by have := HRL.out.1; have := HG.out; show _ ≤ g; omega) _⟩
end Go.Proofs.Ytpahfckihcbajaa
namespace Go.Proofs.Ytpahfckihcbajaa
open Go.RowKit

theorem lm_allows_walk_all (w : World) (A0 : Option Addr) (n0 c0 : Nat) (cl : List UInt8) (A1 : Option Addr) (n1 c1 : Nat) (raw : List BucketM) (xa : AddrM) (now : Int) (hnc0 : n0 ≤ c0) (hcm0 : c0 ≤ maxLen) (hr0 : Rd w w.heap.size A0 n0 cl) (hc1 : n1 ≤ c1 ∧ c1 ≤ maxLen) (hr1 : BkRd w w.heap.size A1 n1 raw) (hxa : xa.ok) (hnow : -9223372036854775808 ≤ now ∧ now ≤ 9223372036854775807) :
    Calls Try.prog 5 #[.slice A0 n0 c0, .slice A1 n1 c1, .agg xa.cells.toArray, .int .i64 now] w fun e w' => e = .returned (.bool true) ∧ Below w.heap.size w w' :=
  lm_allows_walk pAllow_any w A0 n0 c0 cl A1 n1 c1 raw xa now hnc0 hcm0 hr0 hc1 hr1 hxa hnow
end Go.Proofs.Ytpahfckihcbajaa
