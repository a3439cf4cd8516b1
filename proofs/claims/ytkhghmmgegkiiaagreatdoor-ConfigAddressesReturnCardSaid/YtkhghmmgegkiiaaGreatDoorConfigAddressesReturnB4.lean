/-
  The mathematics of what layer 13's functions make of the library's answers. No function of the program is named here. The contract of the reference's group. The contract of the reference's FormatAddr. The contracts of the reference's FormatEndpoint and FormatPrefix. The contract of the reference's four. The contract of the reference's six. The contract of the reference's ParseAddr. The contract of the reference's ParsePrefix. The contract of the reference's last. The contract of the reference's ParseEndpoint. The contracts of codec.hexValue and codec.ParseHex: the bytes of a text of hexadecimal digits in either case, or the error. The contracts of config's number, hexNumber, validPort and unwrap. The contract of config's formatFour. strconv.FormatUint at base 16, for numbers of 16 bits: the library's own text walked. One round of reading a number: bits joined. The contract of codec.ReadBig: the number of bytes, the most significant one first. The contract of config's formatSix. The contracts of inner's size and first: how many bits an address has, and an address without the bits behind the first ones. The contracts of inner's size, first and address. No statement is proved here.
-/
import Derived.Laws.BitsAllLaws
import Derived.Outline
import Derived.Deep.DeepCutAuto
import Derived.Laws.Bits64
import Derived.RegionTactic
import Derived.Test.YtkhghmmgegkiiaaGreatDoorConfigAddressesReturnB3
namespace Go.Proofs.YtkhghmmgegkiiaaGreatDoor
open Go.RowKit

theorem all_mem {p : List UInt8 → Bool} {ls : List (List UInt8)} {z : List UInt8} (hz : z ∈ ls) (hp : p z = false) : ¬ ls.all p = true := fun ha => by
  have := List.all_eq_true.1 ha z hz
  rw [hp] at this
  cases this
theorem numP_not {z : List UInt8} {c : UInt8} (k : Nat) (hc : c ∈ z) (hd : isDig c = false) : numP z k = (0, false) := by
  rw [numP, if_neg]
  rintro ⟨_, ha⟩
  have := List.all_eq_true.1 ha c hc
  rw [hd] at this
  cases this
theorem fourOk_not {z : List UInt8} {c : UInt8} (hc : c ∈ z) (hd : isDig c = false) : fourOk z = false := by
  rw [fourOk, numP_not 3 hc hd]
  rfl
theorem hxsOk_not {z : List UInt8} {c : UInt8} (hc : c ∈ z) (hd : hexVal c = 16) : hxsOk z = false := by
  rw [hxsOk, Bool.and_eq_false_iff]
  refine .inr ?_
  cases ha : z.all fun c => decide (hexVal c ≤ 15) with
  | false => rfl
  | true =>
    have h1 := of_decide_eq_true (List.all_eq_true.1 ha c hc)
    omega
theorem addrP_six (l : List UInt8) (h : (58 : UInt8) ∈ l) : addrP l = if (partsN 58 8 l).length = 8 then sixP (partsN 58 8 l) else (addr0, 5) := by
  rw [addrP]
  by_cases h4 : (splitB 46 l).length = 4
  · rw [if_pos h4]
    obtain ⟨z, hz, hc⟩ := split_mem (c := 46) (x := 58) (by decide) l h
    have hf : fourP (splitB 46 l) = (addr0, 5) := by rw [fourP, if_neg (all_mem hz (fourOk_not hc rfl))]
    rw [hf]
    have h46 : (46 : UInt8) ∈ l := Classical.byContradiction fun hn => by
      rw [split_none hn] at h4
      simp at h4
    by_cases h8 : (partsN 58 8 l).length = 8
    · rw [if_pos h8, sixP, if_neg]
      rcases partsN_cases 58 8 (by omega) l with ⟨h1, _⟩ | ⟨_, _, y, hy, hd⟩
      · obtain ⟨y, hy, hd⟩ := split_mem (c := 58) (x := 46) (by decide) l h46
        rw [h1]
        exact all_mem hy (hxsOk_not hd rfl)
      · exact all_mem hy (hxsOk_not hd rfl)
    · rw [if_neg h8]
  · rw [if_neg h4]
    rcases partsN_cases 58 8 (by omega) l with ⟨h1, h2⟩ | ⟨h1, h2, z, hz, hc⟩
    · rw [h1]
    · rw [if_neg (by omega), if_pos h1, sixP, if_neg (all_mem hz (hxsOk_not hc rfl))]
theorem addrP_four (l : List UInt8) (h : (58 : UInt8) ∉ l) : addrP l = if (partsN 46 4 l).length = 4 then fourP (partsN 46 4 l) else (addr0, 5) := by
  have h8 : ¬ (splitB 58 l).length = 8 := by rw [split_none h]; simp
  rw [addrP]
  rcases partsN_cases 46 4 (by omega) l with ⟨h1, h2⟩ | ⟨h1, h2, z, hz, hc⟩
  · rw [h1, if_neg h8]
  · rw [if_neg (by omega), if_neg h8, if_pos h1, fourP, if_neg (all_mem hz (fourOk_not hc rfl))]
theorem num_ten (s : List UInt8) (k : Nat) (hk : 1 ≤ k) (h10 : k ≤ 10) (h : (numP s k).2 = true ∨ ((numP s 10).2 = true ∧ (numP s 10).1 < 10 ^ k)) : numP s 10 = numP s k := by
  rcases h with h | ⟨h1, h2⟩
  · exact numP_more s k 10 h10 h
  · exact (numP_less s k 10 hk h1 h2).symm
theorem fourOk_ten (s : List UInt8) : fourOk s = ((numP s 10).2 && decide ((numP s 10).1 ≤ 255)) := by
  rw [fourOk]
  by_cases h : (numP s 3).2 = true ∨ ((numP s 10).2 = true ∧ (numP s 10).1 < 10 ^ 3)
  · rw [num_ten s 3 (by omega) (by omega) h]
  · have h3 : (numP s 3).2 = false := by
      cases hq : (numP s 3).2 with
      | false => rfl
      | true => exact absurd (.inl hq) h
    rw [h3, Bool.false_and]
    cases hq : (numP s 10).2 with
    | false => rfl
    | true =>
      have h4 : ¬ (numP s 10).1 < 10 ^ 3 := fun hlt => h (.inr ⟨hq, hlt⟩)
      symm
      rw [Bool.true_and]
      exact decide_eq_false (by omega)
theorem four_ten (s : List UInt8) (h : fourOk s = true) : numP s 10 = numP s 3 := by
  rw [fourOk, Bool.and_eq_true] at h
  exact num_ten s 3 (by omega) (by omega) (.inl h.1)
theorem cut_none {c : UInt8} {l : List UInt8} (h : c ∉ l) : Lib.cut l [c] = (l, [], false) := by
  rcases index_at c l with ⟨_, h2⟩ | ⟨a, r, rfl, _, _⟩
  · rw [Lib.cut, h2, if_neg (by omega)]
  · exact absurd (by simp) h
theorem cut_some {c : UInt8} {a r : List UInt8} (h : c ∉ a) : Lib.cut (a ++ c :: r) [c] = (a, r, true) := by
  rcases index_at c (a ++ c :: r) with ⟨h1, _⟩ | ⟨b, s, h1, h2, h3⟩
  · exact absurd (by simp) h1
  · have hlen : a.length = b.length := by
      rcases Nat.lt_trichotomy a.length b.length with hlt | he | hgt
      · have e := congrArg (fun l => l[a.length]?) h1
        simp only [List.getElem?_append_right (Nat.le_refl _), Nat.sub_self, List.getElem?_cons_zero, List.getElem?_append_left hlt] at e
        exact absurd (List.mem_of_getElem? e.symm) h2
      · exact he
      · have e := congrArg (fun l => l[b.length]?) h1
        simp only [List.getElem?_append_right (Nat.le_refl _), Nat.sub_self, List.getElem?_cons_zero, List.getElem?_append_left hgt] at e
        exact absurd (List.mem_of_getElem? e) h
    have hd : (a ++ c :: r).drop (((b.length : Nat) : Int).toNat + ([c] : List UInt8).length) = r := by
      rw [show ((b.length : Nat) : Int).toNat + ([c] : List UInt8).length = (a ++ [c]).length from by simp [hlen], show a ++ c :: r = (a ++ [c]) ++ r from by simp, List.drop_left]
    rw [Lib.cut, h3, if_pos (by omega), hd]
    simp [← hlen]
theorem prefP_prog (l : List UInt8) : prefP l = if (addrP (Lib.cut l [47]).1).2 ≠ 0 ∨ (numP (Lib.cut l [47]).2.1 10).2 = false ∨ validM (addrP (Lib.cut l [47]).1).1 ((numP (Lib.cut l [47]).2.1 10).1 : Int) = false then ((addr0, 0), 5)
    else (((addrP (Lib.cut l [47]).1).1, (numP (Lib.cut l [47]).2.1 10).1), 0) := by
  rcases index_at 47 l with ⟨h1, _⟩ | ⟨a, r, rfl, h2, _⟩
  · have e : (numP ([] : List UInt8) 10).2 = false := rfl
    rw [cut_none h1, prefP, split_none h1]
    dsimp only
    rw [if_pos (show [l].length ≠ 2 by simp), if_pos (.inr (.inl e))]
  · rw [cut_some h2, prefP, split_at h2]
    dsimp only
    by_cases hr : (47 : UInt8) ∈ r
    · have hl : ¬ (splitB 47 r).length = 1 := fun hl => by
        obtain ⟨a', r', rfl, h3⟩ : ∃ a' r', r = a' ++ 47 :: r' ∧ (47 : UInt8) ∉ a' := by
          rcases index_at 47 r with ⟨h, _⟩ | ⟨a', r', h, h', _⟩
          · exact absurd hr h
          · exact ⟨a', r', h, h'⟩
        rw [split_at h3] at hl
        have := List.length_pos_iff.2 (split_ne 47 r')
        simp only [List.length_cons] at hl
        omega
      rw [if_pos (by simp only [List.length_cons]; omega), if_pos (.inr (.inl (by rw [numP_not 10 hr rfl])))]
    · rw [split_none hr, if_neg (by simp)]
      show (if (addrP a).2 ≠ 0 ∨ (numP r 3).2 = false ∨ validM (addrP a).1 ((numP r 3).1 : Int) = false then ((addr0, 0), 5) else (((addrP a).1, (numP r 3).1), 0)) = _
      by_cases h : (numP r 3).2 = true ∨ ((numP r 10).2 = true ∧ (numP r 10).1 < 10 ^ 3)
      · rw [num_ten r 3 (by omega) (by omega) h]
      · have h3 : (numP r 3).2 = false := by
          cases hq : (numP r 3).2 with
          | false => rfl
          | true => exact absurd (.inl hq) h
        rw [if_pos (.inr (.inl h3)), if_pos]
        cases hq : (numP r 10).2 with
        | false => exact .inr (.inl rfl)
        | true =>
          have h4 : ¬ (numP r 10).1 < 10 ^ 3 := fun hlt => h (.inr ⟨hq, hlt⟩)
          refine .inr (.inr ?_)
          cases hv : validM (addrP a).1 ((numP r 10).1 : Int) with
          | false => rfl
          | true =>
            have := validM_bits (addrP a).1 _ hv
            omega
theorem endP_prog (l : List UInt8) : endP l = if lastC l = 0 then ((addr0, 0), 5) else
    if (addrP (if brack (l.take (lastC l - 1)) then ((l.take (lastC l - 1)).drop 1).take ((l.take (lastC l - 1)).length - 2) else l.take (lastC l - 1))).2 ≠ 0 ∨ (numP (l.drop (lastC l)) 10).2 = false ∨
      (addrP (if brack (l.take (lastC l - 1)) then ((l.take (lastC l - 1)).drop 1).take ((l.take (lastC l - 1)).length - 2) else l.take (lastC l - 1))).1.six ≠ brack (l.take (lastC l - 1)) ∨ ¬(1 ≤ (numP (l.drop (lastC l)) 10).1 ∧ (numP (l.drop (lastC l)) 10).1 ≤ 65535) then ((addr0, 0), 5)
    else (((addrP (if brack (l.take (lastC l - 1)) then ((l.take (lastC l - 1)).drop 1).take ((l.take (lastC l - 1)).length - 2) else l.take (lastC l - 1))).1, (numP (l.drop (lastC l)) 10).1), 0) := by
  rw [endP]
  dsimp only
  by_cases h0 : lastC l = 0
  · rw [if_pos (by omega), if_pos h0]
  rw [if_neg h0]
  by_cases h1 : lastC l = 1
  · rw [if_pos (by omega), if_pos]
    have e : l.take (lastC l - 1) = [] := by rw [h1]; rfl
    rw [e]
    refine .inl ?_
    decide
  rw [if_neg (by omega)]
  generalize lastC l = q
  generalize l.take (q - 1) = host
  generalize (if brack host then (host.drop 1).take (host.length - 2) else host) = inn
  generalize l.drop q = z
  by_cases h : (numP z 5).2 = true ∨ ((numP z 10).2 = true ∧ (numP z 10).1 < 10 ^ 5)
  · rw [num_ten z 5 (by omega) (by omega) h]
    by_cases hc : (addrP inn).2 ≠ 0 ∨ (addrP inn).1.six ≠ brack host ∨ (numP z 5).2 = false ∨ (numP z 5).1 < 1 ∨ 65535 < (numP z 5).1
    · rw [if_pos hc, if_pos]
      rcases hc with hc | hc | hc | hc | hc
      · exact .inl hc
      · exact .inr (.inr (.inl hc))
      · exact .inr (.inl hc)
      · exact .inr (.inr (.inr (by omega)))
      · exact .inr (.inr (.inr (by omega)))
    · rw [if_neg hc, if_neg]
      intro hd
      apply hc
      rcases hd with hd | hd | hd | hd
      · exact .inl hd
      · exact .inr (.inr (.inl hd))
      · exact .inr (.inl hd)
      · refine .inr (.inr (.inr ?_))
        omega
  · have h3 : (numP z 5).2 = false := by
      cases hq : (numP z 5).2 with
      | false => rfl
      | true => exact absurd (.inl hq) h
    rw [if_pos (.inr (.inr (.inl h3))), if_pos]
    cases hq : (numP z 10).2 with
    | false => exact .inr (.inl rfl)
    | true =>
      have h4 : ¬ (numP z 10).1 < 10 ^ 5 := fun hlt => h (.inr ⟨hq, hlt⟩)
      exact .inr (.inr (.inr (by omega)))
/-! numbers in hexadecimal -/
theorem hexOk_le (c : UInt8) : hexOk c = decide (hexVal c ≤ 15) := by
  rw [hexOk]
  by_cases h : hexVal c < 16
  · rw [decide_eq_true h, decide_eq_true (by omega)]
  · rw [decide_eq_false h, decide_eq_false (by omega)]
theorem hex_four (a b c d : UInt8) : parseH [a, b, c, d] = if (hexVal a ≤ 15 ∧ hexVal b ≤ 15) ∧ hexVal c ≤ 15 ∧ hexVal d ≤ 15 then some [UInt8.ofNat (hexVal a * 16 + hexVal b), UInt8.ofNat (hexVal c * 16 + hexVal d)] else none := by
  by_cases h : (hexVal a ≤ 15 ∧ hexVal b ≤ 15) ∧ hexVal c ≤ 15 ∧ hexVal d ≤ 15
  · obtain ⟨⟨ha, hb⟩, hc, hd⟩ := h
    rw [if_pos ⟨⟨ha, hb⟩, hc, hd⟩, parseH, if_pos ⟨by simp, by simp [hexOk_le, ha, hb, hc, hd]⟩]
    have e : pairs [a, b, c, d] ([a, b, c, d].length / 2) = [UInt8.ofNat (hexV a * 16 + hexV b), UInt8.ofNat (hexV c * 16 + hexV d)] := by simp [pairs, List.range, List.range.loop, pairB]
    rw [e, hexV, if_pos (by omega), hexV, if_pos (by omega), hexV, if_pos (by omega), hexV, if_pos (by omega)]
  · rw [if_neg h, parseH, if_neg]
    rintro ⟨_, h2⟩
    apply h
    simp only [List.all_cons, List.all_nil, Bool.and_true, Bool.and_eq_true, hexOk_le, decide_eq_true_eq] at h2
    exact ⟨⟨h2.1, h2.2.1⟩, h2.2.2.1, h2.2.2.2⟩
theorem hexVal_48 : hexVal 48 = 0 := rfl
theorem two_ofNat (x y n : Nat) (h1 : x = n / 256) (h2 : y = n % 256) : some [UInt8.ofNat x, UInt8.ofNat y] = some [UInt8.ofNat (n / 256), UInt8.ofNat (n % 256)] := by rw [h1, h2]
theorem hex_prog (s : List UInt8) (h1 : 1 ≤ s.length) (h4 : s.length ≤ 4) : parseH (List.replicate (4 - s.length) 48 ++ s) = if hxsOk s = true then some [UInt8.ofNat (hexN s / 256), UInt8.ofNat (hexN s % 256)] else none := by
  have hk : hxsOk s = s.all fun c => decide (hexVal c ≤ 15) := by rw [hxsOk, decide_eq_true ⟨h1, h4⟩, Bool.true_and]
  rw [hk]
  match s, h1, h4 with
  | [d], _, _ =>
    show parseH [48, 48, 48, d] = _
    rw [hex_four, hexVal_48]
    simp only [List.all_cons, List.all_nil, Bool.and_true, decide_eq_true_eq, hexN, List.foldl_cons, List.foldl_nil]
    by_cases h : hexVal d ≤ 15
    · rw [if_pos (by omega), if_pos (by omega)]
      exact two_ofNat _ _ _ (by omega) (by omega)
    · rw [if_neg (by omega), if_neg (by omega)]
  | [c, d], _, _ =>
    show parseH [48, 48, c, d] = _
    rw [hex_four, hexVal_48]
    simp only [List.all_cons, List.all_nil, Bool.and_true, Bool.and_eq_true, decide_eq_true_eq, hexN, List.foldl_cons, List.foldl_nil]
    by_cases h : hexVal c ≤ 15 ∧ hexVal d ≤ 15
    · rw [if_pos (by omega), if_pos (by omega)]
      exact two_ofNat _ _ _ (by omega) (by omega)
    · rw [if_neg (by omega), if_neg (by omega)]
  | [b, c, d], _, _ =>
    show parseH [48, b, c, d] = _
    rw [hex_four, hexVal_48]
    simp only [List.all_cons, List.all_nil, Bool.and_true, Bool.and_eq_true, decide_eq_true_eq, hexN, List.foldl_cons, List.foldl_nil]
    by_cases h : hexVal b ≤ 15 ∧ hexVal c ≤ 15 ∧ hexVal d ≤ 15
    · rw [if_pos (by omega), if_pos (by omega)]
      exact two_ofNat _ _ _ (by omega) (by omega)
    · rw [if_neg (by omega), if_neg (by omega)]
  | [a, b, c, d], _, _ =>
    show parseH [a, b, c, d] = _
    rw [hex_four]
    simp only [List.all_cons, List.all_nil, Bool.and_true, Bool.and_eq_true, decide_eq_true_eq, hexN, List.foldl_cons, List.foldl_nil]
    by_cases h : hexVal a ≤ 15 ∧ hexVal b ≤ 15 ∧ hexVal c ≤ 15 ∧ hexVal d ≤ 15
    · rw [if_pos (by omega), if_pos (by omega)]
      exact two_ofNat _ _ _ (by omega) (by omega)
    · rw [if_neg (by omega), if_neg (by omega)]
/-! square brackets -/
theorem brack_prog (l : List UInt8) : (([91] : List UInt8).isPrefixOf l && ([93] : List UInt8).isSuffixOf l) = brack l := by
  cases l with
  | nil => rfl
  | cons x r =>
    rcases List.eq_nil_or_concat r with rfl | ⟨m, y, rfl⟩
    · have e : brack [x] = false := decide_eq_false (fun h => by have := h.1; simp at this)
      rw [e]
      by_cases hx : x = 91
      · subst hx; decide
      · simp [List.isPrefixOf, Ne.symm hx]
    · have e1 : ([91] : List UInt8).isPrefixOf (x :: (m ++ [y])) = decide (x = 91) := by
        by_cases hx : x = 91
        · subst hx; simp [List.isPrefixOf]
        · simp [List.isPrefixOf, Ne.symm hx, hx]
      have e2 : ([93] : List UInt8).isSuffixOf (x :: (m ++ [y])) = decide (y = 93) := by
        by_cases hy : y = 93
        · subst hy; simp [List.isSuffixOf, List.isPrefixOf]
        · simp [List.isSuffixOf, List.isPrefixOf, Ne.symm hy, hy]
      have e3 : (x :: (m ++ [y])).getD ((x :: (m ++ [y])).length - 1) 0 = y := by simp
      rw [List.concat_eq_append, e1, e2, brack, e3]
      simp
end Go.Proofs.YtkhghmmgegkiiaaGreatDoor
namespace Go.Proofs.YtkhghmmgegkiiaaGreatDoor
open Go.RowKit

end Go.Proofs.YtkhghmmgegkiiaaGreatDoor
namespace Go.Proofs.YtkhghmmgegkiiaaGreatDoor
open Go.RowKit

end Go.Proofs.YtkhghmmgegkiiaaGreatDoor
namespace Go.Proofs.YtkhghmmgegkiiaaGreatDoor
open Go.RowKit

theorem pref_at {w : World} {g : Nat} {t : TypeId} {a : AddrM} {bits : Int} (h : Blk w g t (prefC a bits)) (ho : a.ok) : At w g 0 a.cells := by
  have h2 := h.sub 0 17
  rwa [prefC_addr a ho bits] at h2
end Go.Proofs.YtkhghmmgegkiiaaGreatDoor
namespace Go.Proofs.YtkhghmmgegkiiaaGreatDoor
open Go.RowKit

/-- the bytes of the first parts of a text -/
def fourIp (ls : List (List UInt8)) (j : Nat) : List UInt8 := ((ls.take j).map fun s => UInt8.ofNat (numP s 3).1) ++ List.replicate (16 - j) 0
theorem four_set (ls : List (List UInt8)) (j : Nat) (h : j < ls.length) (h16 : j < 16) : (fourIp ls j).set j (UInt8.ofNat (numP (ls.getD j []) 3).1) = fourIp ls (j + 1) := by
  have hl : ((ls.take j).map fun s => UInt8.ofNat (numP s 3).1).length = j := by rw [List.length_map, List.length_take]; omega
  rw [fourIp, List.set_append_right _ _ (by omega), hl, Nat.sub_self, show 16 - j = (15 - j) + 1 from by omega, List.replicate_succ, List.set_cons_zero, fourIp, List.take_add_one, List.getElem?_eq_getElem h, Option.toList_some, List.map_append, List.getD_eq_getElem?_getD, List.getElem?_eq_getElem h, show 16 - (j + 1) = 15 - j from by omega]
  simp
theorem all_take_ls (p : List UInt8 → Bool) (ls : List (List UInt8)) (j : Nat) (h : j < ls.length) : (ls.take (j + 1)).all p = ((ls.take j).all p && p (ls.getD j [])) := by
  rw [List.take_add_one, List.getElem?_eq_getElem h, Option.toList_some, List.all_append, List.getD_eq_getElem?_getD, List.getElem?_eq_getElem h]
  simp
theorem all_not {p : List UInt8 → Bool} {ls : List (List UInt8)} {j : Nat} (h : j < ls.length) (hp : p (ls.getD j []) = false) : ls.all p = false := by
  cases ha : ls.all p with
  | false => rfl
  | true =>
    have := List.all_eq_true.1 ha (ls.getD j []) (by rw [List.getD_eq_getElem?_getD, List.getElem?_eq_getElem h]; exact List.getElem_mem _)
    rw [hp] at this
    cases this
end Go.Proofs.YtkhghmmgegkiiaaGreatDoor
namespace Go.Proofs.YtkhghmmgegkiiaaGreatDoor
open Go.RowKit

/-- the bytes of the first parts of a text -/
def sixIp (ls : List (List UInt8)) (j : Nat) : List UInt8 := ((ls.take j).flatMap fun s => [UInt8.ofNat (hexN s / 256), UInt8.ofNat (hexN s % 256)]) ++ List.replicate (16 - 2 * j) 0
theorem two_flat (ls : List (List UInt8)) : (ls.flatMap fun s => [UInt8.ofNat (hexN s / 256), UInt8.ofNat (hexN s % 256)]).length = 2 * ls.length := by
  induction ls with
  | nil => rfl
  | cons a r ih => rw [List.flatMap_cons, List.length_append, ih]; simp only [List.length_cons, List.length_nil]; omega
theorem sixIp_length (ls : List (List UInt8)) (j : Nat) (h : j ≤ ls.length) (h8 : j ≤ 8) : (sixIp ls j).length = 16 := by
  rw [sixIp, List.length_append, two_flat, List.length_take, List.length_replicate]; omega
theorem six_set (ls : List (List UInt8)) (j : Nat) (h : j < ls.length) (h8 : j < 8) : ((sixIp ls j).set (2 * j) (UInt8.ofNat (hexN (ls.getD j []) / 256))).set (2 * j + 1) (UInt8.ofNat (hexN (ls.getD j []) % 256)) = sixIp ls (j + 1) := by
  have hl : ((ls.take j).flatMap fun s => [UInt8.ofNat (hexN s / 256), UInt8.ofNat (hexN s % 256)]).length = 2 * j := by rw [two_flat, List.length_take]; omega
  rw [sixIp, List.set_append_right _ _ (by omega), hl, Nat.sub_self, List.set_append_right _ _ (by omega), hl, show 2 * j + 1 - 2 * j = 1 from by omega, show 16 - 2 * j = (14 - 2 * j) + 1 + 1 from by omega, List.replicate_succ, List.replicate_succ, List.set_cons_zero, List.set_cons_succ, List.set_cons_zero, sixIp, List.take_add_one, List.getElem?_eq_getElem h, Option.toList_some, List.flatMap_append, List.getD_eq_getElem?_getD, List.getElem?_eq_getElem h, show 16 - 2 * (j + 1) = 14 - 2 * j from by omega]
  simp
end Go.Proofs.YtkhghmmgegkiiaaGreatDoor
namespace Go.Proofs.YtkhghmmgegkiiaaGreatDoor
open Go.RowKit

theorem four_ok (ls : List (List UInt8)) (h : ls.length = 4) : (fourP ls).1.ok := by
  rw [fourP]
  split
  · show ((ls.map _) ++ _).length = 16
    rw [List.length_append, List.length_map, List.length_replicate, h]
  · exact addr0_ok
theorem six_ok (ls : List (List UInt8)) (h : ls.length = 8) : (sixP ls).1.ok := by
  rw [sixP]
  split
  · show (ls.flatMap _).length = 16
    rw [two_flat, h]
  · exact addr0_ok
theorem addrP_ok (l : List UInt8) : (addrP l).1.ok := by
  rw [addrP]
  split
  · exact four_ok _ (by assumption)
  · split
    · exact six_ok _ (by assumption)
    · exact addr0_ok
theorem own_at {w : World} {base e n c g : Nat} {xs : List Value} (h : w.ownsRow base e 1 (.slice (some ⟨g, 0, none⟩) n c) n xs) : At w g 0 xs := fun j v hv => by
  have hj := (List.getElem?_eq_some_iff.1 hv).1
  have hl := h.1
  rw [Nat.zero_add, h.cellAt j (by omega)]
  exact hv
theorem own_top {w : World} {base e n c g : Nat} {xs : List Value} (h : w.ownsRow base e 1 (.slice (some ⟨g, 0, none⟩) n c) n xs) : g < w.heap.size := (h.lt g rfl).2
end Go.Proofs.YtkhghmmgegkiiaaGreatDoor
namespace Go.Proofs.YtkhghmmgegkiiaaGreatDoor
open Go.RowKit

end Go.Proofs.YtkhghmmgegkiiaaGreatDoor
namespace Go.Proofs.YtkhghmmgegkiiaaGreatDoor
open Go.RowKit

end Go.Proofs.YtkhghmmgegkiiaaGreatDoor
namespace Go.Proofs.YtkhghmmgegkiiaaGreatDoor
open Go.RowKit

theorem text_take (l : List UInt8) (k : Nat) : (ByteArray.mk l.toArray).extract 0 k = ⟨(l.take k).toArray⟩ := by
  apply Go.WideShapes.bytes_inj
  rw [Lib.extract_data]
  show (l.drop 0).take (k - 0) = l.take k
  rw [List.drop_zero, Nat.sub_zero]
theorem text_mid (l : List UInt8) (i k : Nat) : (ByteArray.mk l.toArray).extract i k = ⟨((l.drop i).take (k - i)).toArray⟩ := by
  apply Go.WideShapes.bytes_inj
  rw [Lib.extract_data]
theorem text_at (l : List UInt8) (i : Nat) (h : i < (ByteArray.mk l.toArray).size) : (ByteArray.mk l.toArray)[i] = l.getD i 0 := by
  have hi : i < l.length := by rwa [text_size] at h
  rw [getD_lt hi]
  rfl
def innerB (host : List UInt8) : List UInt8 := if brack host then (host.drop 1).take (host.length - 2) else host
end Go.Proofs.YtkhghmmgegkiiaaGreatDoor
namespace Go.Proofs.YtkhghmmgegkiiaaGreatDoor
open Go.RowKit

theorem ret_int2 {k : IntKind} {a b : Int} {v : Value} (h : a = b) : Ending.returned (.tuple #[.int k a, v]) = .returned (.tuple #[.int k b, v]) := by rw [h]

set_option maxRecDepth 100000 in
set_option maxHeartbeats 400000 in
theorem hexValue_any (c : UInt8) (w : World) :
    Calls Tryz.prog 152 #[.int .u8 (c.toNat : Int)] w fun e w' => e = .returned (.tuple #[.int .u8 (hexV c : Nat), .bool (hexOk c)]) ∧ w = w' := by
  have hb := c.toNat_lt
  by_cases h1 : 48 ≤ c.toNat ∧ c.toNat ≤ 57
  · have hv : hexVal c = c.toNat - 48 := by unfold hexVal; rw [if_pos h1]
    have hV : hexV c = c.toNat - 48 := by unfold hexV; rw [hv, if_pos (by omega)]
    have hO : hexOk c = true := by unfold hexOk; rw [hv]; simp; omega
    rw [hV, hO]
    clear hv hV hO
    obtain ⟨a1, a2⟩ := h1
    go_enter Tryz.func152, Tryz.ntmps152
    go_wp2
    go_ret2
    exact ⟨ret_int2 (by omega), rfl⟩
  by_cases h2 : 97 ≤ c.toNat ∧ c.toNat ≤ 102
  · have hv : hexVal c = c.toNat - 87 := by unfold hexVal; rw [if_neg h1]; rw [if_pos h2]
    have hV : hexV c = c.toNat - 87 := by unfold hexV; rw [hv, if_pos (by omega)]
    have hO : hexOk c = true := by unfold hexOk; rw [hv]; simp; omega
    rw [hV, hO]
    clear hv hV hO
    obtain ⟨a1, a2⟩ := h2
    have a3 : ¬ c.toNat ≤ 57 := by omega
    clear h1
    go_enter Tryz.func152, Tryz.ntmps152
    go_wp2
    go_ret2
    exact ⟨ret_int2 (by omega), rfl⟩
  by_cases h3 : 65 ≤ c.toNat ∧ c.toNat ≤ 70
  · have hv : hexVal c = c.toNat - 55 := by unfold hexVal; rw [if_neg h1, if_neg h2]; rw [if_pos h3]
    have hV : hexV c = c.toNat - 55 := by unfold hexV; rw [hv, if_pos (by omega)]
    have hO : hexOk c = true := by unfold hexOk; rw [hv]; simp; omega
    rw [hV, hO]
    clear hv hV hO
    obtain ⟨a1, a2⟩ := h3
    have a3 : ¬ c.toNat ≤ 57 := by omega
    have a4 : ¬ 97 ≤ c.toNat := by omega
    clear h1 h2
    go_enter Tryz.func152, Tryz.ntmps152
    go_wp2
    go_ret2
    exact ⟨ret_int2 (by omega), rfl⟩
  · have hv : hexVal c = 16 := by unfold hexVal; rw [if_neg h1, if_neg h2, if_neg h3]
    have hV : hexV c = 0 := by unfold hexV; rw [hv, if_neg (by omega)]
    have hO : hexOk c = false := by unfold hexOk; rw [hv]; rfl
    rw [hV, hO]
    clear hv hV hO
    rcases (by omega : c.toNat < 48 ∨ (57 < c.toNat ∧ c.toNat < 65) ∨ (70 < c.toNat ∧ c.toNat < 97) ∨ 102 < c.toNat) with g | ⟨g, g'⟩ | ⟨g, g'⟩ | g
    all_goals
      clear h1 h2 h3
      go_enter Tryz.func152, Tryz.ntmps152
      go_wp2
      go_ret2
      exact ⟨rfl, rfl⟩

/-- what a call of ParseHex gives -/
def HexRes (l : List UInt8) (w : World) (e : Ending) (w' : World) : Prop :=
  (∃ r A c, parseH l = some r ∧ e = .returned (.tuple #[.slice A r.length c, .int .i64 0]) ∧ Rd w' w'.heap.size A r.length r ∧ Below w.heap.size w w') ∨
  (parseH l = none ∧ e = .returned (.tuple #[.slice none 0 0, .int .i64 5]) ∧ Below w.heap.size w w')

/-- one byte of two digits -/
theorem pair_bits (a b : Nat) (ha : a < 16) (hb : b < 16) : bits BinOp.or IntKind.u8 ((a : Int) * 16) (b : Int) = ((UInt8.ofNat (a * 16 + b)).toNat : Int) := by
  have e1 : (a : Int) * 16 = ((a * 16 : Nat) : Int) := by omega
  rw [e1, u8_or_nat _ _ (by omega) (by omega), nat_join 4 _ _ (by omega) (by omega), UInt8.toNat_ofNat', Nat.mod_eq_of_lt (by omega)]

theorem all_take_two (l : List UInt8) (j : Nat) (h : 2 * j + 1 < l.length) : (l.take (2 * (j + 1))).all hexOk = ((l.take (2 * j)).all hexOk && (hexOk (l.getD (2 * j) 0) && hexOk (l.getD (2 * j + 1) 0))) := by
  rw [show 2 * (j + 1) = 2 * j + 1 + 1 from by omega, List.take_succ_eq_append_getElem (by omega), List.take_succ_eq_append_getElem (by omega), getD_lt (by omega), getD_lt (by omega)]
  simp only [List.all_append, List.all_cons, List.all_nil, Bool.and_true, Bool.and_assoc]

set_option maxRecDepth 100000 in
set_option maxHeartbeats 1000000 in
theorem parseHex_any (S : ByteArray) (l : List UInt8) (hS : S = ⟨l.toArray⟩) (hn : l.length ≤ 1000000) (w : World) :
    Calls Tryz.prog 119 #[.string S] w (HexRes l w) := by
  have hsz : S.size = l.length := by rw [hS]; simp [ByteArray.size]
  have hat : ∀ i (h : i < S.size), S[i] = l.getD i 0 := by
    intro i h
    subst hS
    have hi : i < l.length := by simpa [ByteArray.size] using h
    rw [getD_lt hi]
    rfl
  have HS := Lib.hid hsz
  have HAT := Lib.hid hat
  clear hsz hat hS
  obtain ⟨n, hn2⟩ : ∃ n, n = S.size := ⟨_, rfl⟩
  by_cases hodd : l.length % 2 = 0
  · obtain ⟨m, hm⟩ : ∃ m, l.length = 2 * m := ⟨l.length / 2, by omega⟩
    have hSm : S.size = 2 * m := by rw [HS.out, hm]
    have hm1 : m ≤ 500000 := by omega
    have b0 : ((2 * m : Nat) : Int) % 2 = 0 := by omega
    have b1 : ((2 * m : Nat) : Int) / 2 = (m : Int) := by omega
    obtain ⟨i0, hi, hz0, hz1, hz2⟩ := info_parts Tryz.info5
    have HM := Lib.hid hm
    clear hn2 hm hodd hn
    go_enter Tryz.func119, Tryz.ntmps119
    go_wp2_with (refine wpList_make_full _ rfl (.tmp 16) (.tmp 16) 22 rfl w.heap.size 5 i0 (.int .u8 0) 1 Tryz.underlying22 hi hz0 hz1 .i64 .i64 m m m rfl rfl rfl rfl (by rw [hz2]; omega) (by unfold maxLen; omega) (Nat.le_refl _) ?_; intro w1 hown1 hg1)
    go_loopw [20] (fun i wr => ∃ j : Nat, j ≤ m ∧ i = .int .i64 j ∧ Hid ((l.take (2 * j)).all hexOk = true) ∧ wr.ownsRow w.heap.size 5 1 (.slice (some ⟨w.heap.size, 0, none⟩) m m) m ((pairRow l m j).map u8v) ∧ Below w.heap.size w wr) (fun i _ => m - (intOf i).toNat)
    case atStart =>
      refine ⟨0, by omega, rfl, Lib.hid rfl, ?_, (Below.refl _ _).grown hg1 (Nat.le_refl _) (by simp)⟩
      rw [pairRow_zero, List.map_replicate]
      rw [show (Value.int IntKind.u8 0).cells = #[.int .u8 0] from rfl, toList_madeCells_one, Nat.mul_one] at hown1
      exact hown1
    case round =>
      obtain ⟨j, hj, rfl, hall, hown, hb⟩ := hrel
      by_cases hlt : j < m
      · obtain ⟨c1, h1⟩ : ∃ c, l.getD (2 * j) 0 = c := ⟨_, rfl⟩
        obtain ⟨c2, h2⟩ : ∃ c, l.getD (2 * j + 1) 0 = c := ⟨_, rfl⟩
        have hI1 : ∀ h, S[2 * j]'h = c1 := fun h => by rw [HAT.out, h1]
        have hI2 : ∀ h, S[2 * j + 1]'h = c2 := fun h => by rw [HAT.out, h2]
        have hnext : (l.take (2 * (j + 1))).all hexOk = (hexOk c1 && hexOk c2) := by
          rw [all_take_two l j (by have := HM.out; omega), hall.out, h1, h2, Bool.true_and]
        have HN := Lib.hid hnext
        have H1 := Lib.hid h1
        have H2 := Lib.hid h2
        clear h1 h2 hnext
        have q0 : (0 : Int) ≤ 2 * (j : Int) := by omega
        have q1 : 2 * (j : Int) < ((2 * m : Nat) : Int) := by omega
        have q2 : (0 : Int) ≤ 2 * (j : Int) + 1 := by omega
        have q3 : 2 * (j : Int) + 1 < ((2 * m : Nat) : Int) := by omega
        by_cases o1 : hexOk c1 = true
        by_cases o2 : hexOk c2 = true
        · have v1 := hexV_lt c1
          have v2 := hexV_lt c2
          have hbits := pair_bits (hexV c1) (hexV c2) v1 v2
          have hpb : pairB l j = UInt8.ofNat (hexV c1 * 16 + hexV c2) := by unfold pairB; rw [H1.out, H2.out]
          obtain ⟨z, hz⟩ : ∃ z, UInt8.ofNat (hexV c1 * 16 + hexV c2) = z := ⟨_, rfl⟩
          rw [hz] at hbits hpb
          have HPB := Lib.hid hpb
          have hfz := hown.frozenAt j
          have hcl : ∃ u, wr.cell? ⟨w.heap.size, j, none⟩ = some u := by
            rw [hown.cellAt j (by omega)]
            exact ⟨_, List.getElem?_eq_getElem (by rw [hown.1]; omega)⟩
          obtain ⟨u, hcl⟩ := hcl
          have HST := Lib.hid (hown.stored j (u8v z)).1
          clear hz hpb
          go_wp2_with fail
          refine (hexValue_any c1 _).mono ?_
          rintro e w2 ⟨rfl, rfl⟩
          go_wp2_with fail
          refine (hexValue_any c2 _).mono ?_
          rintro e w2 ⟨rfl, rfl⟩
          go_wp2
          go_roundw
          case rel =>
            refine ⟨j + 1, by omega, by go_num, Lib.hid (by rw [HN.out, o1, o2]; rfl), ?_, hb.setCell (Nat.le_refl _) _⟩
            have h := HST.out
            rw [← List.map_set, ← HPB.out, pairRow_set l m j hlt, HPB.out] at h
            exact h
          case measure => simp [intOf]; omega
        · have o2' : hexOk c2 = false := by simpa using o2
          clear o2
          have hnone : parseH l = none := by
            unfold parseH
            rw [if_neg]
            rintro ⟨_, h⟩
            have h2 : (l.take (2 * (j + 1))).all hexOk = true := by
              rw [List.all_eq_true] at h ⊢
              exact fun x hx => h x (List.mem_of_mem_take hx)
            rw [HN.out, o1, o2'] at h2
            simp at h2
          have HNO := Lib.hid hnone
          clear hnone
          go_wp2_with fail
          refine (hexValue_any c1 _).mono ?_
          rintro e w2 ⟨rfl, rfl⟩
          go_wp2_with fail
          refine (hexValue_any c2 _).mono ?_
          rintro e w2 ⟨rfl, rfl⟩
          go_wp2
          go_ret2
          exact .inr ⟨HNO.out, rfl, hb⟩
        · have o1' : hexOk c1 = false := by simpa using o1
          clear o1
          have hnone : parseH l = none := by
            unfold parseH
            rw [if_neg]
            rintro ⟨_, h⟩
            have h2 : (l.take (2 * (j + 1))).all hexOk = true := by
              rw [List.all_eq_true] at h ⊢
              exact fun x hx => h x (List.mem_of_mem_take hx)
            rw [HN.out, o1'] at h2
            simp at h2
          have HNO := Lib.hid hnone
          clear hnone
          go_wp2_with fail
          refine (hexValue_any c1 _).mono ?_
          rintro e w2 ⟨rfl, rfl⟩
          go_wp2_with fail
          refine (hexValue_any c2 _).mono ?_
          rintro e w2 ⟨rfl, rfl⟩
          go_wp2
          go_ret2
          exact .inr ⟨HNO.out, rfl, hb⟩
      · obtain rfl : j = m := by omega
        have hsome : parseH l = some (pairs l j) := by
          unfold parseH
          rw [if_pos ⟨by have := HM.out; omega, by have := hall.out; rwa [← HM.out, List.take_of_length_le (Nat.le_refl _)] at this⟩, HM.out, show 2 * j / 2 = j from by omega]
        have HSO := Lib.hid hsome
        rw [pairRow_end] at hown
        have HRD := Lib.hid (Rd.of_own hown)
        clear hsome hown
        go_wp2
        go_ret2
        exact .inl ⟨pairs l j, some ⟨w.heap.size, 0, none⟩, j, HSO.out, by rw [pairs_length]; rfl, by rw [pairs_length]; exact HRD.out, hb⟩
  · have hnone : parseH l = none := by
      unfold parseH
      rw [if_neg]
      rintro ⟨h, _⟩
      exact hodd h
    have HNO := Lib.hid hnone
    have b0 : ¬ ((S.size : Int) % 2 = 0) := by have := HS.out; omega
    have b1 : ((S.size : Int) % 2 == 0) = false := by simpa using b0
    have b2 : S.size ≤ 1000000 := by have := HS.out; omega
    clear hnone hodd hn2
    go_enter Tryz.func119, Tryz.ntmps119
    go_wp2
    go_ret2
    exact .inr ⟨HNO.out, rfl, Below.refl _ _⟩
end Go.Proofs.YtkhghmmgegkiiaaGreatDoor
namespace Go.Proofs.YtkhghmmgegkiiaaGreatDoor
open Go.RowKit

def okN (b : Bool) : Int := if b then 0 else 5
set_option maxRecDepth 100000 in
set_option maxHeartbeats 4000000 in
theorem number_any (l : List UInt8) (hl : l.length ≤ 1000000) (w : World) (hlv : LvCf w) :
    Calls Tryz.prog 57 #[.string ⟨l.toArray⟩] w fun e w' => e = .returned (.tuple #[.int .i64 ((numP l 10).1 : Int), .int .i64 (okN (numP l 10).2)]) ∧ Below w.heap.size w w' := by
  have HPU := Lib.hid (fun h => parseUint_c l h w hlv)
  obtain ⟨S, hS⟩ : ∃ S : ByteArray, ⟨l.toArray⟩ = S := ⟨_, rfl⟩
  have hsz : S.size = l.length := by rw [← hS]; exact text_size l
  have hat : ∀ i (h : i < S.size), S[i] = l.getD i 0 := by
    intro i h
    subst hS
    exact text_at l i h
  rw [hS] at HPU ⊢
  have HAT := Lib.hid hat
  have hS6 : S.size ≤ 1000000 := by omega
  clear hS hat hlv
  by_cases h1 : 10 < S.size
  · have hv : numP l 10 = (0, false) := by rw [numP, if_neg]; rintro ⟨⟨_, h, _⟩, _⟩; omega
    rw [hv]
    clear hsz hv
    go_enter Tryz.func57, Tryz.ntmps57
    go_wp2
    go_ret2
    exact ⟨rfl, Below.refl _ _⟩
  obtain ⟨c0, hc0⟩ : ∃ c, l.getD 0 0 = c := ⟨_, rfl⟩
  have hI0 : ∀ h, S[0]'h = c0 := fun h => by rw [HAT.out, hc0]
  by_cases h2 : 1 < S.size ∧ c0 = 48
  · have hv : numP l 10 = (0, false) := by rw [numP, if_neg]; rintro ⟨⟨_, _, h⟩, _⟩; exact h ⟨by omega, by rw [hc0]; exact h2.2⟩
    rw [hv]
    obtain ⟨h2, rfl⟩ := h2
    clear hsz hv hc0
    go_enter Tryz.func57, Tryz.ntmps57
    go_wp2
    go_ret2
    exact ⟨rfl, Below.refl _ _⟩
  have hv : numP l 10 = if l ≠ [] ∧ l.all isDig = true then (numV l, true) else (0, false) := by
    rw [numP]
    by_cases ha : l ≠ [] ∧ l.all isDig = true
    · rw [if_pos ⟨⟨fun h => ha.1 (List.eq_nil_of_length_eq_zero h), by omega, by rw [hc0]; intro h; exact h2 ⟨by omega, h.2⟩⟩, ha.2⟩, if_pos ha]
    · rw [if_neg (fun h => ha ⟨fun e => h.1.1 (by rw [e]; rfl), h.2⟩), if_neg ha]
  have HV := Lib.hid hv
  have HC48 := Lib.hid (show 1 < S.size → ¬ (c0.toNat : Int) = 48 from fun h e => h2 ⟨h, UInt8.toNat_inj.1 (show c0.toNat = (48 : UInt8).toNat from by have : (48 : UInt8).toNat = 48 := rfl; omega)⟩)
  have hnl : (numV l : Int) < 10000000000 ∨ ¬(l ≠ [] ∧ l.all isDig = true) := by
    by_cases ha : l ≠ [] ∧ l.all isDig = true
    · left
      have h3 := numV_lt l ha.2
      have h4 : 10 ^ l.length ≤ 10 ^ 10 := Nat.pow_le_pow_right (by omega) (by omega)
      omega
    · exact .inr ha
  have HNL := Lib.hid hnl
  have HP := Lib.hid (HPU.out (by omega))
  clear hv hc0 h2 hnl HPU hl
  by_cases h3 : 1 < S.size
  · have hcc : ((c0.toNat : Int) == 48) = false := by rw [beq_eq_false_iff_ne]; exact HC48.out h3
    clear HC48 hsz
    go_enter Tryz.func57, Tryz.ntmps57
    go_wp2_with fail
    refine HP.out.mono ?_
    rintro e w2 ⟨⟨hd, rfl⟩ | ⟨hd, T, v, rfl⟩, hb⟩
    · obtain ⟨n, hn⟩ : ∃ n, numV l = n := ⟨_, rfl⟩
      have hlt := HNL.out.resolve_right (fun h => h hd)
      rw [hn] at hlt ⊢
      have hw : IntKind.i64.wrap (n : Int) = (n : Int) := IntWalk.i64_in _ (by omega)
      have HR := Lib.hid (HV.out.trans (if_pos hd))
      rw [hn] at HR
      have HB := Lib.hid hb
      clear hd hn hb HNL HV
      go_wp2
      go_ret2
      exact ⟨by rw [HR.out]; rfl, HB.out⟩
    · have HR := Lib.hid (HV.out.trans (if_neg hd))
      have HB := Lib.hid hb
      clear hd hb HNL HV
      go_wp2
      go_ret2
      exact ⟨by rw [HR.out]; rfl, HB.out⟩
  · clear HC48 hsz
    go_enter Tryz.func57, Tryz.ntmps57
    go_wp2_with fail
    refine HP.out.mono ?_
    rintro e w2 ⟨⟨hd, rfl⟩ | ⟨hd, T, v, rfl⟩, hb⟩
    · obtain ⟨n, hn⟩ : ∃ n, numV l = n := ⟨_, rfl⟩
      have hlt := HNL.out.resolve_right (fun h => h hd)
      rw [hn] at hlt ⊢
      have hw : IntKind.i64.wrap (n : Int) = (n : Int) := IntWalk.i64_in _ (by omega)
      have HR := Lib.hid (HV.out.trans (if_pos hd))
      rw [hn] at HR
      have HB := Lib.hid hb
      clear hd hn hb HNL HV
      go_wp2
      go_ret2
      exact ⟨by rw [HR.out]; rfl, HB.out⟩
    · have HR := Lib.hid (HV.out.trans (if_neg hd))
      have HB := Lib.hid hb
      clear hd hb HNL HV
      go_wp2
      go_ret2
      exact ⟨by rw [HR.out]; rfl, HB.out⟩
set_option maxRecDepth 100000 in
theorem validPort_any (p : Int) (w : World) :
    Calls Tryz.prog 48 #[.int .i64 p] w fun e w' => e = .returned (.bool (decide (1 ≤ p ∧ p ≤ 65535))) ∧ w = w' := by
  by_cases h1 : 1 ≤ p
  · by_cases h2 : p ≤ 65535
    · rw [decide_eq_true ⟨h1, h2⟩]
      go_enter Tryz.func48, Tryz.ntmps48
      go_wp2
      go_ret
      exact ⟨rfl, rfl⟩
    · rw [decide_eq_false (fun h => h2 h.2)]
      go_enter Tryz.func48, Tryz.ntmps48
      go_wp2
      go_ret
      exact ⟨rfl, rfl⟩
  · rw [decide_eq_false (fun h => h1 h.1)]
    go_enter Tryz.func48, Tryz.ntmps48
    go_wp2
    go_ret
    exact ⟨rfl, rfl⟩
set_option maxRecDepth 100000 in
set_option maxHeartbeats 4000000 in
theorem unwrap_any (l : List UInt8) (hl : l.length ≤ 1000000) (w : World) :
    Calls Tryz.prog 56 #[.string ⟨l.toArray⟩] w fun e w' => e = .returned (.tuple #[.string ⟨(innerB l).toArray⟩, .bool (brack l)]) ∧ Below w.heap.size w w' := by
  have HPC := Lib.hid (hasPrefix_c l [91] w)
  have HSC := Lib.hid (fun W => hasSuffix_c l [93] hl W)
  have hB := brack_prog l
  have HI := Lib.hid (show innerB l = if brack l then (l.drop 1).take (l.length - 2) else l from rfl)
  obtain ⟨S, hS⟩ : ∃ S : ByteArray, ⟨l.toArray⟩ = S := ⟨_, rfl⟩
  have hsz : S.size = l.length := by rw [← hS]; exact text_size l
  have HX := Lib.hid (show S.extract 1 (l.length - 1) = ⟨((l.drop 1).take (l.length - 2)).toArray⟩ from by rw [← hS, text_mid]; rfl)
  rw [hS] at HPC HSC ⊢
  have HS := Lib.hid hS
  have HL := Lib.hid (show brack l = true → 2 ≤ l.length from fun h => (of_decide_eq_true h).1)
  generalize ([91] : List UInt8).isPrefixOf l = bp at HPC hB
  generalize ([93] : List UInt8).isSuffixOf l = bs at HSC hB
  clear hS
  go_enter Tryz.func56, Tryz.ntmps56
  go_wp2_with fail
  refine HPC.out.mono ?_
  rintro e w2 ⟨rfl, hb⟩
  have HB := Lib.hid hb
  clear hb HPC
  cases bp
  · rw [Bool.false_and] at hB
    have HR := Lib.hid hB.symm
    clear hB hl hsz
    go_wp2
    go_ret2
    exact ⟨by rw [HI.out, HR.out, ← HS.out]; rfl, HB.out⟩
  · rw [Bool.true_and] at hB
    have HR := Lib.hid hB.symm
    clear hB
    go_wp2_with fail
    refine (HSC.out _).mono ?_
    rintro e w3 ⟨rfl, hb⟩
    replace HB := Lib.hid (HB.out.trans (hb.mono HB.out.size))
    clear hb HSC
    cases bs
    · clear hl hsz
      go_wp2
      go_ret2
      exact ⟨by rw [HI.out, HR.out, ← HS.out]; rfl, HB.out⟩
    · have h2 := HL.out HR.out
      have hx := HX.out
      obtain ⟨n, hn⟩ : ∃ n, l.length - 1 = n := ⟨_, rfl⟩
      have hw : IntKind.i64.wrap ((l.length : Int) - 1) = (n : Int) := by rw [IntWalk.i64_in _ (by omega)]; omega
      rw [hn] at hx
      have hn1 : (1 : Int) ≤ (n : Int) := by omega
      have hn2 : (n : Int) ≤ (l.length : Int) := by omega
      have hn3 : n ≤ S.size := by omega
      have hn4 : 1 ≤ n := by omega
      clear hn
      go_wp2
      go_ret2
      exact ⟨by rw [HI.out, HR.out, if_pos rfl, List.drop_one]; rfl, HB.out⟩
end Go.Proofs.YtkhghmmgegkiiaaGreatDoor
namespace Go.Proofs.YtkhghmmgegkiiaaGreatDoor
open Go.RowKit

theorem ip_blk {W : World} {g : Nat} {t : TypeId} {ip : List UInt8} (h : Blk W g t (ip.map u8v)) (j : Nat) (hj : j < ip.length) : W.cell? ⟨g, j, none⟩ = some (.int .u8 ((ip.getD j 0).toNat : Int)) := by
  rw [h.cell j, List.getElem?_map, List.getElem?_eq_getElem hj, getD_lt hj]
  rfl
theorem cell_str (w : World) (v : Value) (t : TypeId) : ∀ j u, [v][j]? = some u → (w.alloc (.cells #[v] t)).cell? ((⟨w.heap.size, 0, none⟩ : Addr).add j) = some u := by
  intro j u hj
  match j, hj with
  | 0, hj =>
    simp at hj
    subst hj
    simp [Addr.add]
set_option maxRecDepth 100000 in
set_option maxHeartbeats 4000000 in
theorem formatFour_any (ip : List UInt8) (hip : ip.length = 16) (w : World) (hlv : LvCf w) :
    Calls Tryz.prog 47 #[.agg (ip.map u8v).toArray] w fun e w' => e = .returned (.string ⟨(joinT 46 ((List.range 4).map fun i => decT (ip.getD i 0).toNat)).toArray⟩) ∧ Below w.heap.size w w' := by
  obtain ⟨i0, hti, hz0, hz1, hz2⟩ := info_parts (P := Tryz.prog) (e := 9) (z := .string ⟨#[]⟩) (size := 1) (bytes := 16) (by kernel_rfl)
  obtain ⟨f, hf⟩ : ∃ f : Nat → List UInt8, (fun i => decT (ip.getD i 0).toNat) = f := ⟨_, rfl⟩
  have HF := Lib.hid (fun i => (congrFun hf i).symm)
  rw [hf]
  have HLV := Lib.hid hlv
  have HIP := Lib.hid hip
  obtain ⟨ca, hca⟩ : ∃ z, (ip.map u8v).toArray = z := ⟨_, rfl⟩
  rw [hca]
  have hm0 := (Mem.nil w).alloc rfl 23 ca (ip.map u8v) hca.symm
  have hsz0 : (w.alloc (.cells ca 23)).heap.size = w.heap.size + 1 := by simp
  have hmb := hm0.fix
  rw [hsz0] at hmb
  have HM := Lib.hid hmb
  have HS0 := Lib.hid hsz0
  clear hlv hip hm0 hmb hsz0 hca hf
  go_enter Tryz.func47, Tryz.ntmps47
  go_upto_region 1 with fail
  generalize w.alloc (.cells ca 23) = w1 at HM HS0 ⊢
  go_wp2_with fail
  go_loopw [3, 5] (fun v i wr => ∃ j : Nat, j ≤ 4 ∧ i = .int .i64 (j : Int) ∧ wr.ownsRow (w.heap.size + 1) 9 1 v j ((List.range j).map fun k => strV (f k)) ∧ MemB w (w.heap.size + 1) [blkE w.heap.size 23 (ip.map u8v)] wr) (fun _ i _ => 4 - (intOf i).toNat)
  case atStart => exact ⟨0, by omega, rfl, World.ownsRow_nil _ _ _ _, HM.out⟩
  case round =>
    obtain ⟨j, hj, rfl, hown, hM⟩ := hrel
    by_cases hlt : j < 4
    · obtain ⟨x, hx⟩ : ∃ x, ip.getD j 0 = x := ⟨_, rfl⟩
      have hc := ip_blk (hM.mem.blk 0 rfl) j (by have := HIP.out; omega)
      rw [hx] at hc
      have HD := Lib.hid (show f j = decT x.toNat from by rw [HF.out j, hx])
      have hxb := x.toNat_lt
      have HIC := Lib.hid (itoa_c (x.toNat : Int) (by omega) (by omega) wr (HLV.out.below hM.mem.bel))
      have hw := IntWalk.i64_in (x.toNat : Int) (by omega)
      replace HM := Lib.hid hM
      have HO := Lib.hid hown
      have hj0 : (0 : Int) ≤ (j : Int) := by omega
      clear hx hM hown
      go_wp2_with fail
      refine HIC.out.mono ?_
      rintro e w5 ⟨rfl, hb⟩
      rw [Int.toNat_natCast, ← HD.out]
      obtain ⟨s, hs⟩ : ∃ z, f j = z := ⟨_, rfl⟩
      rw [hs]
      have HS := Lib.hid (show (List.range (j + 1)).map (fun k => strV (f k)) = (List.range j).map (fun k => strV (f k)) ++ [.string ⟨s.toArray⟩] from by rw [List.range_succ, List.map_append, ← hs]; rfl)
      replace HM := Lib.hid (HM.out.below (hb.mono HM.out.2.2))
      replace HO := Lib.hid (own_below HO.out hb)
      clear hc hb HIC hs
      go_wp2_with (at_builtin; refine wpList_append_own _ rfl (.tmp 8) (.tmp 14) 39 rfl (w.heap.size + 1) 9 i0 (.string ⟨#[]⟩) 1 16 Tryz.underlying39 hti hz0 hz1 hz2 rfl (by omega) _ j _ rfl (HO.out.alloc _) ⟨w5.heap.size, 0, none⟩ 1 1 [.string ⟨s.toArray⟩] rfl rfl (cell_str _ _ _) (fun u hu => by simp only [List.mem_singleton] at hu; subst hu; rfl) (by unfold maxLen; omega) (by omega) (by have := HM.out.2.2; simp; omega) ?_; intro v' w' hown' hg' _)
      replace HM := Lib.hid (MemB.grown (HM.out.below ((Below.refl _ _).alloc HM.out.2.2 _)) (HO.out.alloc _) hg')
      go_wp2
      go_roundw
      case rel => exact ⟨j + 1, by omega, by go_num, by rw [HS.out]; exact hown', HM.out⟩
      case measure => simp [intOf]; omega
    · obtain rfl : j = 4 := by omega
      obtain ⟨A, k, rfl, hA⟩ := own_slice hown
      obtain ⟨g, rfl⟩ := (own_addr hown).2.2 (by omega)
      have hl4 : ((List.range 4).map f).length = 4 := by simp
      have HJ := Lib.hid (join_c g k ((List.range 4).map f) 46 wr (by rw [List.map_map]; exact own_at hown) (own_top hown) (by omega) (fun x hx => by
        obtain ⟨i, _, rfl⟩ := List.mem_map.1 hx
        rw [HF.out i]
        exact Nat.le_trans (decT_len _ 3 (by omega) (by have := (ip.getD i 0).toNat_lt; omega)) (by omega)) (by rw [hl4]; exact (own_addr hown).1))
      have HB := Lib.hid hM.mem.bel
      rw [hl4] at HJ
      clear hown hM hA
      go_wp2_with fail
      refine HJ.out.mono ?_
      rintro e w6 ⟨rfl, hb⟩
      replace HB := Lib.hid (HB.out.trans (hb.mono HB.out.size))
      clear hb HJ
      go_wp2
      go_ret
      exact ⟨rfl, HB.out⟩
end Go.Proofs.YtkhghmmgegkiiaaGreatDoor
namespace Go.Proofs.YtkhghmmgegkiiaaGreatDoor
open Go.RowKit

set_option maxRecDepth 100000 in
theorem pow_any (w : World) : Calls Tryz.prog 172 #[.int .i64 16] w fun e w' => e = .returned (.bool true) ∧ w = w' := by
  have h1 : IntKind.i64.wrap (16 - 1) = 15 := by decide
  have h2 : bits BinOp.and IntKind.i64 16 15 = 0 := by decide
  go_enter Tryz.func172, Tryz.ntmps172
  go_wp2
  go_ret
  exact ⟨rfl, rfl⟩
set_option maxRecDepth 100000 in
theorem trail64_any (w : World) (h : w.cell? ⟨7, 15, none⟩ = some (.int .u8 4)) : Calls Tryz.prog 192 #[.int .u64 16] w fun e w' => e = .returned (.int .i64 4) ∧ w = w' := by
  have h1 : IntKind.u64.wrap (-16) = 18446744073709551600 := by decide
  have h2 : bits BinOp.and IntKind.u64 16 18446744073709551600 = 16 := by decide
  have h3 : IntKind.u64.wrap (16 * 285870213051353865) = 4573923408821661840 := by decide
  have h4 : IntKind.i64.wrap 4 = 4 := by decide
  go_enter Tryz.func192, Tryz.ntmps192
  go_wp2
  go_ret
  exact ⟨rfl, rfl⟩
set_option maxRecDepth 100000 in
theorem trail_any (w : World) (h : w.cell? ⟨7, 15, none⟩ = some (.int .u8 4)) : Calls Tryz.prog 173 #[.int .u64 16] w fun e w' => e = .returned (.int .i64 4) ∧ w = w' := by
  go_enter Tryz.func173, Tryz.ntmps173
  go_wp2_with fail
  refine (trail64_any w h).mono ?_
  rintro e w' ⟨rfl, rfl⟩
  go_wp2
  go_ret
  exact ⟨rfl, rfl⟩
def digS : ByteArray := ⟨#[48, 49, 50, 51, 52, 53, 54, 55, 56, 57, 97, 98, 99, 100, 101, 102, 103, 104, 105, 106, 107, 108, 109, 110, 111, 112, 113, 114, 115, 116, 117, 118, 119, 120, 121, 122]⟩
theorem digS_at : ∀ d : Fin 16, digS.data[d.val]! = hexD d.val := by decide
theorem digS_in (d : Nat) (h : d < 16) : ∀ hh, digS[d]'hh = hexD d := fun hh => by
  rw [← digS_at ⟨d, h⟩]
  exact (getElem!_pos digS.data d hh).symm
/-- the row of digits, filled from its end -/
def hexRow (t : List UInt8) : List Value := (List.replicate (65 - t.length) (0 : UInt8) ++ t).map u8v
theorem hexRow_set (t : List UInt8) (d : UInt8) (h : t.length < 65) : (hexRow t).set (64 - t.length) (.int .u8 (d.toNat : Int)) = hexRow (d :: t) := by
  rw [hexRow, hexRow, List.map_append, List.map_append, List.set_append_left _ _ (by simp; omega), show 65 - t.length = 64 - t.length + 1 from by omega, List.replicate_succ', List.map_append, List.set_append_right _ _ (by simp), List.length_map, List.length_replicate, Nat.sub_self, List.length_cons, show 65 - (t.length + 1) = 64 - t.length from by omega]
  simp [u8v]
set_option maxRecDepth 100000 in
theorem array65_from (g q : Nat) (hq : q ≤ 64) (w : World) :
    (Instr.sliceAt 193 (.pointer (some ⟨g, 0, none⟩)) (some (.int .i64 (q : Int))) none none).run Tryz.prog w = .ok (.slice (some ⟨g, q, none⟩) (65 - q) (65 - q)) w := by
  have hs : (sizeOf 5).run Tryz.prog w = .ok 1 w := by
    obtain ⟨i0, hi, hz0, hz1, hz2⟩ := info_parts Tryz.info5
    simp [sizeOf, typeInfo, hi, hz1]
  have hl : Tryz.prog.arrayLen 193 = 65 := by kernel_rfl
  have he : Tryz.prog.elem 193 = 5 := by kernel_rfl
  rw [run_sliceAt_array_l (P := Tryz.prog) w 193 ⟨g, 0, none⟩ (by rw [hl, he]; exact Tryz.underlying193) .i64 (q : Int) (by omega) (by rw [hl]; omega), hl, he, hs]
  simp only [Result.andThen, slicedAt, Int.toNat_natCast, Go.WideShapes.add_plain, Nat.mul_one]
  rw [if_neg (by omega), Nat.zero_add]
set_option maxRecDepth 100000 in
set_option maxHeartbeats 8000000 in
theorem bits16_any (z : Nat) (hz : z < 65536) (w : World) (hlv : LvCf w) :
    Calls Tryz.prog 145 #[.slice none 0 0, .int .u64 (z : Int), .int .i64 16, .bool false, .bool false] w fun e w' => e = .returned (.tuple #[.slice none 0 0, .string ⟨(hexT z).toArray⟩]) ∧ Below w.heap.size w w' := by
  have HT := Lib.hid (fun W (hb : Below w.heap.size w W) => trail_any W (hlv.below hb).2.1)
  have HM := Lib.hid (show Mem w [blkE w.heap.size 193 (hexRow [])] (w.alloc (.cells Tryz.zeroCells193 193)) from (Mem.nil w).alloc rfl 193 Tryz.zeroCells193 (hexRow []) (by kernel_rfl))
  have hk1 : IntKind.u64.wrap 16 = 16 := by decide
  have hk2 : IntKind.u64.wrap 4 = 4 := by decide
  have hk3 : IntKind.u64.wrap (16 - 1) = 15 := by decide
  clear hlv
  go_enter Tryz.func145, Tryz.ntmps145
  go_wp2_with fail
  refine (pow_any _).mono ?_
  rintro e w2 ⟨rfl, rfl⟩
  go_wp2_with fail
  generalize w.alloc (.cells Tryz.zeroCells193 193) = w1 at HM ⊢
  refine (HT.out _ HM.out.bel).mono ?_
  rintro e w2 ⟨rfl, rfl⟩
  go_wp2_with fail
  go_loopw [1, 13] (fun u i wr => ∃ (n : Nat) (t : List UInt8), t.length ≤ 4 ∧ n < 16 ^ (4 - t.length) ∧ u = .int .u64 (n : Int) ∧ i = .int .i64 ((65 - t.length : Nat) : Int) ∧ Hid (hexT z = hexT n ++ t) ∧ Mem w [blkE w.heap.size 193 (hexRow t)] wr) (fun u _ _ => (intOf u).toNat)
  case atStart => exact ⟨z, [], by simp, by simpa using hz, rfl, rfl, Lib.hid (by simp), HM.out⟩
  case round =>
    obtain ⟨n, t, ht, hn, rfl, rfl, hx, hM⟩ := hrel
    replace HM := Lib.hid hM
    have hn16 : n < 65536 := Nat.lt_of_lt_of_le hn (Nat.le_trans (Nat.pow_le_pow_right (by omega) (show 4 - t.length ≤ 4 by omega)) (by decide))
    clear hM
    by_cases hge : 16 ≤ n
    · have ht3 : t.length ≤ 3 := by
        apply Nat.le_of_not_lt
        intro h
        have e : t.length = 4 := by omega
        rw [e] at hn
        simp at hn
        omega
      obtain ⟨q, hq⟩ : ∃ q, 64 - t.length = q := ⟨_, rfl⟩
      have hd16 : n % 16 < 16 := Nat.mod_lt _ (by omega)
      obtain ⟨d, hd⟩ : ∃ d, n % 16 = d := ⟨_, rfl⟩
      rw [hd] at hd16
      have hI := digS_in d hd16
      unfold digS at hI
      have HD := Lib.hid (show hexT n = hexT (n / 16) ++ [hexD d] from by rw [hexT_big (by omega), hd])
      have hw1 : IntKind.i64.wrap (((65 - t.length : Nat) : Int) - 1) = (q : Int) := by rw [IntWalk.i64_in _ (by omega)]; omega
      have hand : bits BinOp.and IntKind.u64 (n : Int) 15 = (d : Int) := by
        rw [show (15 : Int) = ((15 : Nat) : Int) from rfl, u64_and_nat n 15 (by omega) (by omega), show (15 : Nat) = 2 ^ 4 - 1 from rfl, Nat.and_two_pow_sub_one_eq_mod]
        omega
      have hset := hexRow_set t (hexD d) (by omega)
      rw [hq] at hset
      have HSET := Lib.hid hset
      have fx : wr.cell? ⟨w.heap.size, q, none⟩ = some (.int .u8 0) := by
        rw [(HM.out.blk 0 rfl).cell q, hexRow, List.map_append, List.getElem?_append_left (by simp; omega), List.getElem?_map, List.getElem?_replicate, if_pos (by omega)]
        rfl
      have zx := (HM.out.blk 0 rfl).frozen q
      have hq65 : (q : Int) < 65 := by omega
      have hd36 : (d : Int) < 36 := by omega
      obtain ⟨x, hxd⟩ : ∃ x, hexD d = x := ⟨_, rfl⟩
      rw [hxd] at hI HD HSET
      obtain ⟨m, hm⟩ : ∃ m, n / 16 = m := ⟨_, rfl⟩
      have hmi : (n : Int) / 16 = (m : Int) := by omega
      have HN := Lib.hid hn
      have HQ := Lib.hid hq
      have HMM := Lib.hid hm
      rw [hm] at HD
      clear hset hxd hd hn hq hm
      go_wp2
      have hm2 := HM.out.setCell 0 rfl q (.int .u8 (x.toNat : Int))
      rw [HSET.out] at hm2
      refine ⟨⟨m, x :: t, by simp only [List.length_cons]; omega, ?_, rfl, by rw [show 65 - (x :: t).length = q from by rw [List.length_cons, ← HQ.out]; omega], Lib.hid (by rw [hx.out, HD.out]; simp), hm2⟩, by simp [intOf]; have := HMM.out; omega⟩
      have h1 := HN.out
      rw [show 4 - t.length = (4 - (t.length + 1)) + 1 from by omega, Nat.pow_succ] at h1
      have := HMM.out
      simp only [List.length_cons]
      omega
    · obtain ⟨q, hq⟩ : ∃ q, 64 - t.length = q := ⟨_, rfl⟩
      have hI := digS_in n (by omega)
      unfold digS at hI
      have HD := Lib.hid (show hexT n = [hexD n] from hexT_small (by omega))
      have hw1 : IntKind.i64.wrap (((65 - t.length : Nat) : Int) - 1) = (q : Int) := by rw [IntWalk.i64_in _ (by omega)]; omega
      have hset := hexRow_set t (hexD n) (by omega)
      rw [hq] at hset
      have HSET := Lib.hid hset
      have fx : wr.cell? ⟨w.heap.size, q, none⟩ = some (.int .u8 0) := by
        rw [(HM.out.blk 0 rfl).cell q, hexRow, List.map_append, List.getElem?_append_left (by simp; omega), List.getElem?_map, List.getElem?_replicate, if_pos (by omega)]
        rfl
      have zx := (HM.out.blk 0 rfl).frozen q
      have hq65 : (q : Int) < 65 := by omega
      have hn36 : (n : Int) < 36 := by omega
      obtain ⟨x, hxd⟩ : ∃ x, hexD n = x := ⟨_, rfl⟩
      rw [hxd] at hI HD HSET
      have HQ := Lib.hid hq
      have HXX := Lib.hid (show hexT z = x :: t from by rw [hx.out, HD.out]; rfl)
      have hn16' : (n : Int) < 16 := by omega
      clear hset hxd hn hq hx
      go_upto_region 30 with (fail)
      have hm2 := HM.out.setCell 0 rfl q (.int .u8 (x.toNat : Int))
      rw [HSET.out] at hm2
      generalize wr.setCell ⟨w.heap.size, q, none⟩ (.int .u8 (x.toNat : Int)) = w3 at hm2 ⊢
      replace HM := Lib.hid hm2
      have hq1 : q ≤ 64 := by omega
      have hl : (x :: t).length = 65 - q := by rw [List.length_cons]; have := HQ.out; omega
      have hcv := run_convert_bytes_back (P := Tryz.prog) w3 22 9 5 ⟨w.heap.size, q, none⟩ (65 - q) (x :: t) Tryz.underlying22 Tryz.underlying5 Tryz.underlying9 (fun j hj => by
        have hc := (HM.out.blk 0 rfl).cell (q + j)
        rw [Go.WideShapes.add_plain, hc, hexRow, List.map_append, List.getElem?_append_right (by rw [List.length_map, List.length_replicate, List.length_cons]; have := HQ.out; omega), List.length_map, List.length_replicate, show q + j - (65 - (x :: t).length) = j from by rw [hl]; omega, List.getElem?_map, List.getElem?_eq_getElem hj]
        rfl)
      rw [hl] at hcv
      clear hm2 fx zx
      have h65 : ¬ (65 : Nat) = q := by omega
      have hsl : q ≤ 65 := by omega
      have hsa := array65_from w.heap.size q hq1 w3
      go_wp2_with fail
      go_ret2
      exact ⟨by rw [HXX.out]; rfl, HM.out.bel⟩
set_option maxRecDepth 100000 in
theorem fmtIn_any (z : Nat) (hz : z < 65536) (w : World) (hlv : LvCf w) :
    Calls Tryz.prog 115 #[.int .u64 (z : Int), .int .i64 16] w fun e w' => e = .returned (.string ⟨(hexT z).toArray⟩) ∧ Below w.heap.size w w' := by
  have HC := Lib.hid (bits16_any z hz w hlv)
  clear hlv hz
  go_enter Tryz.func115, Tryz.ntmps115
  go_wp2_with fail
  refine HC.out.mono ?_
  rintro e w' ⟨rfl, hb⟩
  have HB := Lib.hid hb
  clear hb HC
  go_wp2
  go_ret
  exact ⟨rfl, HB.out⟩
set_option maxRecDepth 100000 in
theorem fmtUint_any (z : Nat) (hz : z < 65536) (w : World) (hlv : LvCf w) :
    Calls Tryz.prog 84 #[.int .u64 (z : Int), .int .i64 16] w fun e w' => e = .returned (.string ⟨(hexT z).toArray⟩) ∧ Below w.heap.size w w' := by
  have HC := Lib.hid (fmtIn_any z hz w hlv)
  clear hlv hz
  go_enter Tryz.func84, Tryz.ntmps84
  go_wp2_with fail
  refine HC.out.mono ?_
  rintro e w' ⟨rfl, hb⟩
  have HB := Lib.hid hb
  clear hb HC
  go_wp2
  go_ret
  exact ⟨rfl, HB.out⟩
end Go.Proofs.YtkhghmmgegkiiaaGreatDoor
namespace Go.Proofs.YtkhghmmgegkiiaaGreatDoor
open Go.RowKit

/-- one round of ReadBig -/
theorem or64_big (a : Nat) (b : UInt8) : bits BinOp.or IntKind.u64 (IntKind.u64.wrap ((a : Int) % 18446744073709551616 * 256)) (IntKind.u64.wrap (b.toNat : Int)) = (((a * 256 + b.toNat) % 18446744073709551616 : Nat) : Int) := by
  have hb := b.toNat_lt
  have e1 : IntKind.u64.wrap ((a : Int) % 18446744073709551616 * 256) = (((a % 18446744073709551616 * 256) % 18446744073709551616 : Nat) : Int) := by
    rw [IntKind.wrap_u64]; omega
  have e2 : IntKind.u64.wrap (b.toNat : Int) = (b.toNat : Int) := by
    rw [IntKind.wrap_u64]; omega
  rw [e1, e2, u64_or_nat _ _ (by omega) (by omega), nat_join 8 _ _ (by omega) (by omega)]
  congr 1
  omega
end Go.Proofs.YtkhghmmgegkiiaaGreatDoor
namespace Go.Proofs.YtkhghmmgegkiiaaGreatDoor
open Go.RowKit

set_option maxRecDepth 100000 in
theorem readBig_any (B : Nat) (A : Option Addr) (n cap : Nat) (l : List UInt8) (hn : n ≤ 1000000) (w : World) (hr : Rd w B A n l) :
    Calls Tryz.prog 83 #[.slice A n cap] w fun e w' => e = .returned (.int .u64 (numB l % 18446744073709551616 : Nat)) ∧ w = w' := by
  have hl : l.length = n := hr.1
  have HR := Lib.hid hr
  have HL := Lib.hid hl
  clear hr hl
  go_enter Tryz.func83, Tryz.ntmps83
  go_wp2
  go_loop [3, 8, 5] (fun v i _ => ∃ j : Nat, j ≤ n ∧ i = .int .i64 j ∧ v = .int .u64 (numB (l.take j) % 18446744073709551616 : Nat)) (fun _ i _ => n - (intOf i).toNat)
  case atStart => exact ⟨0, by omega, rfl, rfl⟩
  case round =>
    obtain ⟨j, hj, rfl, rfl⟩ := hrel
    by_cases hlt : j < n
    · obtain ⟨b, off, rfl, _, hc⟩ := HR.out.at_ (by omega)
      have hlj : j < l.length := by have := HL.out; omega
      have hc1 := hc j hlj
      clear hc
      go_wp2
      go_round
      case rel => exact ⟨j + 1, by omega, by go_num, by rw [or64_big, numB_take_succ l j hlj]⟩
      case measure => simp [intOf]; omega
    · obtain rfl : j = n := by omega
      go_wp2
      go_ret
      exact ⟨ret_int (by rw [List.take_of_length_le (by have := HL.out; omega)]), rfl⟩
end Go.Proofs.YtkhghmmgegkiiaaGreatDoor
namespace Go.Proofs.YtkhghmmgegkiiaaGreatDoor
open Go.RowKit

set_option maxRecDepth 100000 in
set_option maxHeartbeats 4000000 in
theorem formatSix_any (ip : List UInt8) (hip : ip.length = 16) (w : World) (hlv : LvCf w) :
    Calls Tryz.prog 46 #[.agg (ip.map u8v).toArray] w fun e w' => e = .returned (.string ⟨(joinT 58 ((List.range 8).map fun i => hexT (256 * (ip.getD (2 * i) 0).toNat + (ip.getD (2 * i + 1) 0).toNat))).toArray⟩) ∧ Below w.heap.size w w' := by
  obtain ⟨i0, hti, hz0, hz1, hz2⟩ := info_parts (P := Tryz.prog) (e := 9) (z := .string ⟨#[]⟩) (size := 1) (bytes := 16) (by kernel_rfl)
  obtain ⟨f, hf⟩ : ∃ f : Nat → List UInt8, (fun i => hexT (256 * (ip.getD (2 * i) 0).toNat + (ip.getD (2 * i + 1) 0).toNat)) = f := ⟨_, rfl⟩
  have HF := Lib.hid (fun i => (congrFun hf i).symm)
  rw [hf]
  have HLV := Lib.hid hlv
  have HIP := Lib.hid hip
  obtain ⟨ca, hca⟩ : ∃ z, (ip.map u8v).toArray = z := ⟨_, rfl⟩
  rw [hca]
  have hm0 := (Mem.nil w).alloc rfl 23 ca (ip.map u8v) hca.symm
  have hsz0 : (w.alloc (.cells ca 23)).heap.size = w.heap.size + 1 := by simp
  have hmb := hm0.fix
  rw [hsz0] at hmb
  have HM := Lib.hid hmb
  have HS0 := Lib.hid hsz0
  clear hlv hip hm0 hmb hsz0 hca hf
  go_enter Tryz.func46, Tryz.ntmps46
  go_upto_region 1 with fail
  generalize w.alloc (.cells ca 23) = w1 at HM HS0 ⊢
  go_wp2_with fail
  go_loopw [3, 6] (fun v i wr => ∃ j : Nat, j ≤ 8 ∧ i = .int .i64 (j : Int) ∧ wr.ownsRow (w.heap.size + 1) 9 1 v j ((List.range j).map fun k => strV (f k)) ∧ MemB w (w.heap.size + 1) [blkE w.heap.size 23 (ip.map u8v)] wr) (fun _ i _ => 8 - (intOf i).toNat)
  case atStart => exact ⟨0, by omega, rfl, World.ownsRow_nil _ _ _ _, HM.out⟩
  case round =>
    obtain ⟨j, hj, rfl, hown, hM⟩ := hrel
    by_cases hlt : j < 8
    · obtain ⟨x, hx⟩ : ∃ x, ip.getD (2 * j) 0 = x := ⟨_, rfl⟩
      obtain ⟨y, hy⟩ : ∃ y, ip.getD (2 * j + 1) 0 = y := ⟨_, rfl⟩
      obtain ⟨p, hp⟩ : ∃ p, 2 * j = p := ⟨_, rfl⟩
      have hr : Rd wr wr.heap.size (some ⟨w.heap.size, p, none⟩) 2 [x, y] := by
        refine ⟨rfl, fun _ => ⟨w.heap.size, p, rfl, (hM.mem.blk 0 rfl).lt, fun k hk => ?_⟩⟩
        have h2 := ip_blk (hM.mem.blk 0 rfl) (p + k) (by have := HIP.out; simp only [List.length_cons, List.length_nil] at hk; omega)
        match k, hk with
        | 0, _ => rw [h2]; show _ = some (u8v x); rw [← hx, hp]; rfl
        | 1, _ => rw [h2]; show _ = some (u8v y); rw [← hy, hp]; rfl
      have HRB := Lib.hid (readBig_any wr.heap.size (some ⟨w.heap.size, p, none⟩) 2 (16 - p) [x, y] (by omega) wr hr)
      have hxb := x.toNat_lt
      have hyb := y.toNat_lt
      obtain ⟨z, hz⟩ : ∃ z, 256 * x.toNat + y.toNat = z := ⟨_, rfl⟩
      have HN := Lib.hid (show numB [x, y] % 18446744073709551616 = z from by rw [numB]; simp [numL]; omega)
      have HD := Lib.hid (show f j = hexT z from by rw [HF.out j, hx, hy, hz])
      have HFU := Lib.hid (fmtUint_any z (by omega) wr (HLV.out.below hM.mem.bel))
      replace HM := Lib.hid hM
      have HO := Lib.hid hown
      have hj0 : (0 : Int) ≤ (j : Int) := by omega
      have hw1 : IntKind.i64.wrap (2 * (j : Int)) = (p : Int) := by rw [IntWalk.i64_in _ (by omega)]; omega
      have hw2 : IntKind.i64.wrap ((j : Int) + 1) = (j : Int) + 1 := IntWalk.i64_in _ (by omega)
      obtain ⟨q, hq⟩ : ∃ q, p + 2 = q := ⟨_, rfl⟩
      have hw3 : IntKind.i64.wrap (2 * ((j : Int) + 1)) = (q : Int) := by rw [IntWalk.i64_in _ (by omega)]; omega
      have hq1 : (q : Int) ≤ 16 := by omega
      have hq2 : (p : Int) ≤ (q : Int) := by omega
      have hq3 : q - p = 2 := by omega
      have hq4 : p ≤ q := by omega
      have hq5 : q ≤ 16 := by omega
      have hp16 : ¬ (16 : Nat) = p := by omega
      clear hx hy hM hown hr hz
      have HPP := Lib.hid hp
      clear hp hq
      go_upto_region 5 with fail
      go_wp2_with fail
      refine HRB.out.mono ?_
      rintro e w5 ⟨rfl, rfl⟩
      rw [HN.out]
      clear HN HRB
      go_wp2_with fail
      refine HFU.out.mono ?_
      rintro e w5 ⟨rfl, hb⟩
      rw [← HD.out]
      obtain ⟨s, hs⟩ : ∃ z, f j = z := ⟨_, rfl⟩
      rw [hs]
      have HS := Lib.hid (show (List.range (j + 1)).map (fun k => strV (f k)) = (List.range j).map (fun k => strV (f k)) ++ [.string ⟨s.toArray⟩] from by rw [List.range_succ, List.map_append, ← hs]; rfl)
      replace HM := Lib.hid (HM.out.below (hb.mono HM.out.2.2))
      replace HO := Lib.hid (own_below HO.out hb)
      clear hb HFU hs
      go_wp2_with (at_builtin; refine wpList_append_own _ rfl (.tmp 16) (.tmp 19) 39 rfl (w.heap.size + 1) 9 i0 (.string ⟨#[]⟩) 1 16 Tryz.underlying39 hti hz0 hz1 hz2 rfl (by omega) _ j _ rfl (HO.out.alloc _) ⟨w5.heap.size, 0, none⟩ 1 1 [.string ⟨s.toArray⟩] rfl rfl (cell_str _ _ _) (fun u hu => by simp only [List.mem_singleton] at hu; subst hu; rfl) (by unfold maxLen; omega) (by omega) (by have := HM.out.2.2; simp; omega) ?_; intro v' w' hown' hg' _)
      replace HM := Lib.hid (MemB.grown (HM.out.below ((Below.refl _ _).alloc HM.out.2.2 _)) (HO.out.alloc _) hg')
      go_wp2
      go_roundw
      case rel => exact ⟨j + 1, by omega, by go_num, by rw [HS.out]; exact hown', HM.out⟩
      case measure => simp [intOf]; omega
    · obtain rfl : j = 8 := by omega
      obtain ⟨A, k, rfl, hA⟩ := own_slice hown
      obtain ⟨g, rfl⟩ := (own_addr hown).2.2 (by omega)
      have hl4 : ((List.range 8).map f).length = 8 := by simp
      have HJ := Lib.hid (join_c g k ((List.range 8).map f) 58 wr (by rw [List.map_map]; exact own_at hown) (own_top hown) (by omega) (fun x hx => by
        obtain ⟨i, _, rfl⟩ := List.mem_map.1 hx
        rw [HF.out i]
        exact Nat.le_trans (hexT_len _ 4 (by omega) (by have := (ip.getD (2 * i) 0).toNat_lt; have := (ip.getD (2 * i + 1) 0).toNat_lt; omega)) (by omega)) (by rw [hl4]; exact (own_addr hown).1))
      have HB := Lib.hid hM.mem.bel
      rw [hl4] at HJ
      clear hown hM hA
      go_wp2_with fail
      refine HJ.out.mono ?_
      rintro e w6 ⟨rfl, hb⟩
      replace HB := Lib.hid (HB.out.trans (hb.mono HB.out.size))
      clear hb HJ
      go_wp2
      go_ret
      exact ⟨rfl, HB.out⟩
end Go.Proofs.YtkhghmmgegkiiaaGreatDoor
namespace Go.Proofs.YtkhghmmgegkiiaaGreatDoor
open Go.RowKit

/-- a byte without the bits behind the first m -/
def cutByte (x : UInt8) (m : Nat) : UInt8 := x &&& ~~~(UInt8.ofNat (255 / 2 ^ m))
theorem cut_all : ∀ m : Fin 8, ∀ n : Fin 256, bits BinOp.andNot IntKind.u8 (n.val : Int) ((255 / 2 ^ m.val : Nat) : Int) = ((cutByte (UInt8.ofNat n.val) m.val).toNat : Int) := by decide +kernel
theorem cut_bits (x : UInt8) (m : Nat) (h : m < 8) : bits BinOp.andNot IntKind.u8 (x.toNat : Int) (255 / 2 ^ m) = ((cutByte x m).toNat : Int) := by
  have h1 := cut_all ⟨m, h⟩ ⟨x.toNat, x.toNat_lt⟩
  simp only [UInt8.ofNat_toNat] at h1
  rw [← h1, Int.natCast_ediv, Int.natCast_pow]
  rfl
theorem bit_cut_all : ∀ m : Fin 8, ∀ k : Fin 8, ∀ x : Fin 256, (cutByte (UInt8.ofNat x.val) m.val).toNat / 2 ^ (7 - k.val) % 2 = if k.val < m.val then x.val / 2 ^ (7 - k.val) % 2 else 0 := by decide +kernel
theorem bit_cut (x : UInt8) (m k : Nat) (hm : m < 8) (hk : k < 8) : (cutByte x m).toNat / 2 ^ (7 - k) % 2 = if k < m then x.toNat / 2 ^ (7 - k) % 2 else 0 := by
  have h := bit_cut_all ⟨m, hm⟩ ⟨k, hk⟩ ⟨x.toNat, x.toNat_lt⟩
  simp only [UInt8.ofNat_toNat] at h
  exact h
/-- an address without the bits behind the first k -/
def firstM (a : AddrM) (k : Nat) : AddrM := if k / 8 < 16 then ⟨a.six, (a.ip.set (k / 8) (cutByte (a.ip.getD (k / 8) 0) (k % 8))).take (k / 8 + 1) ++ List.replicate (15 - k / 8) 0⟩ else a
theorem firstM_ok (a : AddrM) (h : a.ok) (k : Nat) : (firstM a k).ok := by
  unfold firstM
  split
  · simp only [AddrM.ok, List.length_append, List.length_take, List.length_set, List.length_replicate]
    have : a.ip.length = 16 := h
    omega
  · exact h
theorem firstM_six (a : AddrM) (k : Nat) : (firstM a k).six = a.six := by unfold firstM; split <;> rfl
theorem firstM_bit (a : AddrM) (h : a.ok) (k i : Nat) (hi : i < 128) : bitM (firstM a k).ip i = if i < k then bitM a.ip i else 0 := by
  have hl : a.ip.length = 16 := h
  unfold firstM
  by_cases hk : k / 8 < 16
  · rw [if_pos hk]
    unfold bitM
    dsimp only
    rw [List.getD_eq_getElem?_getD, List.getElem?_append, List.length_take, List.length_set, List.getElem?_take]
    by_cases h1 : i / 8 < k / 8
    · rw [if_pos (by omega), if_pos (by omega), List.getElem?_set_ne (by omega), if_pos (by omega), ← List.getD_eq_getElem?_getD]
    · by_cases h2 : i / 8 = k / 8
      · rw [if_pos (by omega), if_pos (by omega), h2, List.getElem?_set_self (by omega), Option.getD_some, bit_cut _ _ _ (by omega) (by omega)]
        by_cases h3 : i % 8 < k % 8
        · rw [if_pos h3, if_pos (by omega)]
        · rw [if_neg h3, if_neg (by omega)]
      · rw [if_neg (by omega), if_neg (by omega), List.getElem?_replicate]
        split <;> simp
  · rw [if_neg hk, if_pos (by omega)]
/-- bytes whose bits are the same are the same -/
theorem byte_sum : ∀ x : Fin 256, x.val = 128 * (x.val / 2 ^ (7 - 0) % 2) + 64 * (x.val / 2 ^ (7 - 1) % 2) + 32 * (x.val / 2 ^ (7 - 2) % 2) + 16 * (x.val / 2 ^ (7 - 3) % 2) + 8 * (x.val / 2 ^ (7 - 4) % 2) + 4 * (x.val / 2 ^ (7 - 5) % 2) + 2 * (x.val / 2 ^ (7 - 6) % 2) + x.val / 2 ^ (7 - 7) % 2 := by decide +kernel
theorem byte_bits (x y : UInt8) (h : ∀ k, k < 8 → x.toNat / 2 ^ (7 - k) % 2 = y.toNat / 2 ^ (7 - k) % 2) : x = y := by
  have hx := byte_sum ⟨x.toNat, x.toNat_lt⟩
  have hy := byte_sum ⟨y.toNat, y.toNat_lt⟩
  simp only [] at hx hy
  rw [h 0 (by omega), h 1 (by omega), h 2 (by omega), h 3 (by omega), h 4 (by omega), h 5 (by omega), h 6 (by omega), h 7 (by omega), ← hy] at hx
  exact UInt8.toNat.inj hx
theorem ip_bits (l m : List UInt8) (hl : l.length = 16) (hm : m.length = 16) (h : ∀ i, i < 128 → bitM l i = bitM m i) : l = m := by
  apply List.ext_getElem (by omega)
  intro j h1 h2
  refine byte_bits _ _ (fun k hk => ?_)
  have := h (8 * j + k) (by omega)
  unfold bitM at this
  rw [show (8 * j + k) / 8 = j by omega, show (8 * j + k) % 8 = k by omega, List.getD_eq_getElem?_getD, List.getElem?_eq_getElem h1, List.getD_eq_getElem?_getD, List.getElem?_eq_getElem h2] at this
  exact this
instance : DecidableEq AddrM := fun a b => decidable_of_iff (a.six = b.six ∧ a.ip = b.ip) ⟨fun h => by cases a; cases b; simp_all, fun h => by rw [h]; exact ⟨rfl, rfl⟩⟩
theorem AddrM.ext_bits (a b : AddrM) (ha : a.ok) (hb : b.ok) (h6 : a.six = b.six) (h : ∀ i, i < 128 → bitM a.ip i = bitM b.ip i) : a = b := by
  have hi := ip_bits _ _ ha hb h
  cases a; cases b
  simp_all
theorem firstM_eq (a b : AddrM) (ha : a.ok) (hb : b.ok) (k : Nat) : firstM a k = b ↔ a.six = b.six ∧ ∀ i, i < 128 → (if i < k then bitM a.ip i else 0) = bitM b.ip i := by
  constructor
  · rintro rfl
    exact ⟨(firstM_six a k).symm, fun i hi => (firstM_bit a ha k i hi).symm⟩
  · rintro ⟨h6, h⟩
    exact AddrM.ext_bits _ _ (firstM_ok a ha k) hb ((firstM_six a k).trans h6) (fun i hi => (firstM_bit a ha k i hi).trans (h i hi))
theorem cells_inj (a b : AddrM) (h : a.cells = b.cells) : a = b := by
  cases a; cases b
  simp only [AddrM.cells, List.cons.injEq] at h
  obtain ⟨h1, h2⟩ := h
  injection h1 with h1
  subst h1
  congr 1
  refine List.map_inj_right ?_ |>.1 h2
  intro x y hxy
  have : ((x.toNat : Nat) : Int) = (y.toNat : Int) := by simpa [u8v] using hxy
  exact UInt8.toNat.inj (by omega)
/-- the bytes of IPv4 behind the fourth are zero exactly if the bits behind the 32nd are -/
theorem sound_first (a : AddrM) (h : a.ok) : soundM a = decide (firstM a (widthM a) = a) := by
  rw [Bool.eq_iff_iff, decide_eq_true_iff, firstM_eq a a h h]
  cases h6 : a.six with
  | true =>
    rw [soundM, h6, widthM, h6]
    simp only [Bool.true_or, true_and, true_iff, if_true]
    intro i hi
    rw [if_pos hi]
  | false =>
    rw [soundM_four a h h6, widthM, h6]
    simp only [true_and]
    constructor
    · intro hz i hi
      by_cases hlt : i < 32
      · rw [if_pos (by simpa using hlt)]
      · rw [if_neg (by simpa using hlt)]
        have := hz (i / 8 - 4) (by omega)
        rw [show 4 + (i / 8 - 4) = i / 8 by omega] at this
        rw [bitM, this]
        simp
    · intro hz j hj
      refine byte_bits _ _ (fun k hk => ?_)
      have := hz (8 * (4 + j) + k) (by omega)
      rw [if_neg (by simp; omega)] at this
      unfold bitM at this
      rw [show (8 * (4 + j) + k) / 8 = 4 + j by omega, show (8 * (4 + j) + k) % 8 = k by omega] at this
      rw [← this]
      simp
theorem valid_first (a : AddrM) (h : a.ok) (bits : Int) : validM a bits = (decide (0 ≤ bits) && (decide (bits ≤ (widthM a : Int)) && decide (firstM a bits.toNat = a))) := by
  by_cases h0 : 0 ≤ bits
  · by_cases h1 : bits ≤ (widthM a : Int)
    · rw [decide_eq_true h0, decide_eq_true h1, Bool.true_and, Bool.true_and, Bool.eq_iff_iff, decide_eq_true_iff, firstM_eq a a h h]
      constructor
      · intro hv
        have hs : soundM a = true := by rw [validM] at hv; exact (Bool.and_eq_true _ _ ▸ hv).1
        rw [validM_iff a bits hs h0 h1] at hv
        refine ⟨rfl, fun i hi => ?_⟩
        by_cases hlt : i < bits.toNat
        · rw [if_pos hlt]
        · rw [if_neg hlt, hv i (by omega) hi]
      · rintro ⟨_, hv⟩
        have hs : soundM a = true := by
          rw [sound_first a h, decide_eq_true_iff, firstM_eq a a h h]
          refine ⟨rfl, fun i hi => ?_⟩
          by_cases hlt : i < widthM a
          · rw [if_pos hlt]
          · have := hv i hi
            rw [if_neg (by omega)] at this
            rw [if_neg hlt, this]
        rw [validM_iff a bits hs h0 h1]
        intro i hb hi
        have := hv i hi
        rw [if_neg (by omega)] at this
        exact this.symm
    · rw [decide_eq_true h0, decide_eq_false h1, validM, decide_eq_true h0, decide_eq_false h1]
      simp
  · rw [decide_eq_false h0, validM, decide_eq_false h0]
    simp
theorem contains_first (a x : AddrM) (h : a.ok) (hx : x.ok) (bits : Int) : containsM a bits x = (validM a bits && (soundM x && decide (firstM x bits.toNat = a))) := by
  by_cases hv : validM a bits = true
  · by_cases hs : soundM x = true
    · rw [hv, hs, Bool.true_and, Bool.true_and]
      have hv2 := hv
      rw [valid_first a h, Bool.and_eq_true, Bool.and_eq_true, decide_eq_true_iff, decide_eq_true_iff, decide_eq_true_iff, firstM_eq a a h h] at hv2
      obtain ⟨h0, h1, _, h2⟩ := hv2
      by_cases h6 : x.six = a.six
      · rw [Bool.eq_iff_iff, containsM_iff a x bits hv hs (by rw [h6]; simp), decide_eq_true_iff, firstM_eq x a hx h]
        constructor
        · intro hc
          refine ⟨h6, fun i hi => ?_⟩
          by_cases hlt : i < bits.toNat
          · rw [if_pos hlt, hc i (by omega) hi]
          · have := h2 i hi
            rw [if_neg hlt] at this
            rw [if_neg hlt, this]
        · rintro ⟨_, hc⟩ i hb hi
          have := hc i hi
          rw [if_pos (by omega)] at this
          exact this
      · rw [containsM, hv, hs, show (x.six == a.six) = false by simpa using h6]
        simp only [Bool.true_and, Bool.false_and]
        refine (decide_eq_false fun e => h6 ?_).symm
        rw [← e, firstM_six]
    · rw [Bool.not_eq_true] at hs
      rw [hs, containsM, hs]
      simp
  · rw [Bool.not_eq_true] at hv
    rw [hv, containsM, hv]
    simp
end Go.Proofs.YtkhghmmgegkiiaaGreatDoor
namespace Go.Proofs.YtkhghmmgegkiiaaGreatDoor
open Go.RowKit

theorem run_clear_blk {P : Program} (w : World) (t e ty : TypeId) (ht : P.underlying t = some (.slice e)) (hv : ∀ w, (zeroValue e).run P w = .ok (.int .u8 0) w) (g off n c : Nat) (bt : TypeId) (old : List Value) (hg : Blk w g bt old) (hfit : off + n ≤ old.length) :
    ∃ w', (Builtin.clear_ #[t] ty #[.slice (some ⟨g, off, none⟩) n c]).run P w = .ok (.tuple #[]) w' ∧ Blk w' g bt (old.take off ++ List.replicate n (.int .u8 0) ++ old.drop (off + n)) ∧ w.grownBy w' (some g) := by
  cases n with
  | zero =>
    refine ⟨w, ?_, ?_, ⟨rfl, rfl, rfl, Nat.le_refl _, fun _ _ _ => rfl⟩⟩
    · simp [Builtin.clear_, run_underlying ht]
    · simp only [List.replicate_zero, List.append_nil, Nat.add_zero, List.take_append_drop]; exact hg
  | succ m =>
    have hst := run_storeCells_at P g off bt (List.replicate (m + 1) (Value.int .u8 0)) 0 old.toArray w hg (by simpa using hfit) (by intro v hv; rw [List.eq_of_mem_replicate hv]; rfl)
    rw [Nat.add_zero] at hst
    refine ⟨w.setRow g (old.toArray.toList.take off ++ List.replicate (m + 1) (Value.int .u8 0) ++ old.toArray.toList.drop (off + (List.replicate (m + 1) (Value.int .u8 0)).length)).toArray, ?_, ?_, ⟨rfl, rfl, rfl, by simp, fun k _ hk => setRow_other w g k _ (fun e => hk (by simp [e]))⟩⟩
    · have hz : (Builtin.zeroCells (Value.int .u8 0).cells (m + 1)).toList = List.replicate (m + 1) (.int .u8 0) := by
        apply List.ext_getElem
        · simp [Builtin.zeroCells, Value.cells]
        · intro i h1 h2; simp [Builtin.zeroCells, Value.cells, Nat.mod_one]
      simp only [Builtin.clear_, List.getElem?_toArray, List.getElem?_cons_zero, Sem.run_bind, run_underlying ht, Result.andThen_ok, hv, hz]
      rw [hst]
      rfl
    · have := setRow_heap w g old.toArray (old.toArray.toList.take off ++ List.replicate (m + 1) (Value.int .u8 0) ++ old.toArray.toList.drop (off + (List.replicate (m + 1) (Value.int .u8 0)).length)).toArray bt _ hg
      unfold Blk
      simpa using this
theorem wpList_clear_blk {P : Program} (w : World) {ops : Array Oper} {rest : List Oper} {o : Oper} {a : Act} {Q : Exit → Act → World → Prop} (hgd : o.guard = none) (d : Operand) (t e : TypeId)
    (ho : o.op = .call { callee := .builtin .clear, args := #[d], argTypes := #[t] }) (ht : P.underlying t = some (.slice e)) (hv : ∀ w, (zeroValue e).run P w = .ok (.int .u8 0) w)
    (g off n c : Nat) (hd : a.eval d = .slice (some ⟨g, off, none⟩) n c) (bt : TypeId) (old : List Value) (hg : Blk w g bt old) (hfit : off + n ≤ old.length)
    (h : ∀ w', Blk w' g bt (old.take off ++ List.replicate n (.int .u8 0) ++ old.drop (off + n)) → w.grownBy w' (some g) → wpList P ops Q rest (a.put o.dst (.tuple #[])) w') : wpList P ops Q (o :: rest) a w := by
  refine wpList_plain hgd fun K hK => ?_
  obtain ⟨w', hrun, h2, h3⟩ := run_clear_blk (P := P) w t e o.type ht hv g off n c bt old hg hfit
  unfold Oper.wp execOp
  simp only [ho, resolve, invoke, builtin, Sem.run_bind, Sem.run_pure, Result.andThen_ok, List.map_toArray, List.map_cons, List.map_nil, hd, hrun]
  exact hK _ _ (h w' h2 h3)

set_option maxRecDepth 100000 in
theorem size_any (a : AddrM) (w : World) :
    Calls Tryz.prog 86 #[.agg a.cells.toArray] w fun e w' => e = .returned (.int .i64 (widthM a : Int)) ∧ Below w.heap.size w w' := by
  obtain ⟨ca, hca⟩ : ∃ c, a.cells.toArray = c := ⟨_, rfl⟩
  rw [hca]
  have HM := Lib.hid (show Mem w [blkE w.heap.size 25 a.cells] (w.alloc (.cells ca 25)) from (Mem.nil w).alloc rfl 25 ca a.cells hca.symm)
  obtain ⟨sx, hsx⟩ : ∃ q, a.six = q := ⟨_, rfl⟩
  have HW := Lib.hid (show widthM a = if sx then 128 else 32 by rw [widthM, hsx])
  clear hca
  go_enter Tryz.func86, Tryz.ntmps86
  go_upto_region 1 with fail
  generalize w.alloc (.cells ca 25) = w1 at HM ⊢
  have f6 := ((HM.out.blk 0 rfl).cell 0).trans (AddrM.six_cell a)
  rw [hsx] at f6
  cases sx with
  | true =>
    go_wp2
    go_ret
    exact ⟨by rw [HW.out]; rfl, HM.out.bel⟩
  | false =>
    go_wp2
    go_ret
    exact ⟨by rw [HW.out]; rfl, HM.out.bel⟩
theorem firstM_cells (a : AddrM) (h : a.ok) (q m : Nat) (hq : q < 16) (k : Nat) (hk : k / 8 = q) (hm : k % 8 = m) (y : UInt8) (hy : cutByte (a.ip.getD q 0) m = y) :
    (AddrM.mk a.six (a.ip.set q y)).cells.take (1 + (q + 1)) ++ List.replicate (16 - (q + 1)) (.int .u8 0) ++ (AddrM.mk a.six (a.ip.set q y)).cells.drop (1 + (q + 1) + (16 - (q + 1))) = (firstM a k).cells := by
  have hl : a.ip.length = 16 := h
  rw [firstM, hk, hm, if_pos hq, hy]
  simp only [AddrM.cells]
  rw [List.drop_of_length_le (by rw [List.length_cons, List.length_map, List.length_set]; omega), List.append_nil, Nat.add_comm, List.take_succ_cons, List.map_append, List.map_take, List.map_replicate, show 16 - (q + 1) = 15 - q by omega]
  rfl
set_option maxRecDepth 100000 in
theorem u8_zero (w : World) : (zeroValue 5).run Tryz.prog w = .ok (.int .u8 0) w := by
  obtain ⟨i0, hi, hz0, hz1, hz2⟩ := info_parts Tryz.info5
  simp [zeroValue, typeInfo, hi, hz0]
set_option maxRecDepth 100000 in
theorem array_from (g q : Nat) (hq : q < 16) (off : Nat) (hoff : (if 16 - (q + 1) = 0 then 1 else 1 + (q + 1)) = off) (w : World) :
    (Instr.sliceAt 23 (.pointer (some ⟨g, 1, none⟩)) (some (.int .i64 ((q : Int) + 1))) none none).run Tryz.prog w = .ok (.slice (some ⟨g, off, none⟩) (16 - (q + 1)) (16 - (q + 1))) w := by
  have hs : (sizeOf 5).run Tryz.prog w = .ok 1 w := by
    obtain ⟨i0, hi, hz0, hz1, hz2⟩ := info_parts Tryz.info5
    simp [sizeOf, typeInfo, hi, hz1]
  have hl : Tryz.prog.arrayLen 23 = 16 := by kernel_rfl
  have he : Tryz.prog.elem 23 = 5 := by kernel_rfl
  rw [run_sliceAt_array_l (P := Tryz.prog) w 23 ⟨g, 1, none⟩ (by rw [hl, he]; exact Tryz.underlying23) .i64 ((q : Int) + 1) (by omega) (by rw [hl]; omega), hl, he, hs]
  have e : ((q : Int) + 1).toNat = q + 1 := by omega
  simp only [Result.andThen, slicedAt, e, Go.WideShapes.add_plain, Nat.mul_one]
  by_cases h : 16 = q + 1
  · rw [if_pos h, ← hoff, if_pos (by omega)]
  · rw [if_neg h, ← hoff, if_neg (by omega)]
theorem cut_off (q off : Nat) (cs : List Value) (hoff : (if 16 - (q + 1) = 0 then 1 else 1 + (q + 1)) = off) :
    cs.take off ++ List.replicate (16 - (q + 1)) (Value.int .u8 0) ++ cs.drop (off + (16 - (q + 1))) = cs.take (1 + (q + 1)) ++ List.replicate (16 - (q + 1)) (Value.int .u8 0) ++ cs.drop (1 + (q + 1) + (16 - (q + 1))) := by
  by_cases h : 16 - (q + 1) = 0
  · rw [h]; simp
  · rw [if_neg h] at hoff; subst hoff; rfl
set_option maxRecDepth 100000 in
set_option maxHeartbeats 4000000 in
theorem first_any (a : AddrM) (h : a.ok) (k : Nat) (hk : k ≤ 128) (w : World) :
    Calls Tryz.prog 87 #[.agg a.cells.toArray, .int .i64 (k : Int)] w fun e w' => e = .returned (.agg (firstM a k).cells.toArray) ∧ Below w.heap.size w w' := by
  obtain ⟨ca, hca⟩ : ∃ x, a.cells.toArray = x := ⟨_, rfl⟩
  rw [hca]
  have HM := Lib.hid (show Mem w [blkE (w.heap.size + 1) 25 (.bool false :: (List.replicate 16 (0 : UInt8)).map u8v), blkE w.heap.size 25 a.cells] ((w.alloc (.cells ca 25)).alloc (.cells #[.bool false, .int .u8 0, .int .u8 0, .int .u8 0, .int .u8 0, .int .u8 0, .int .u8 0, .int .u8 0, .int .u8 0, .int .u8 0, .int .u8 0, .int .u8 0, .int .u8 0, .int .u8 0, .int .u8 0, .int .u8 0, .int .u8 0] 25)) from ((Mem.nil w).alloc rfl 25 ca a.cells hca.symm).alloc (by simp) 25 #[.bool false, .int .u8 0, .int .u8 0, .int .u8 0, .int .u8 0, .int .u8 0, .int .u8 0, .int .u8 0, .int .u8 0, .int .u8 0, .int .u8 0, .int .u8 0, .int .u8 0, .int .u8 0, .int .u8 0, .int .u8 0, .int .u8 0] _ rfl)
  have HO := Lib.hid h
  have HF := Lib.hid (firstM_ok a h k)
  obtain ⟨q, hq⟩ : ∃ q, k / 8 = q := ⟨_, rfl⟩
  obtain ⟨m, hm⟩ : ∃ q, k % 8 = q := ⟨_, rfl⟩
  have hqI : (k : Int) / 8 = (q : Int) := by omega
  have hmI : (k : Int) % 8 = (m : Int) := by omega
  go_enter Tryz.func87, Tryz.ntmps87
  go_upto_region 1 with fail
  generalize ((w.alloc (.cells ca 25)).alloc (.cells #[.bool false, .int .u8 0, .int .u8 0, .int .u8 0, .int .u8 0, .int .u8 0, .int .u8 0, .int .u8 0, .int .u8 0, .int .u8 0, .int .u8 0, .int .u8 0, .int .u8 0, .int .u8 0, .int .u8 0, .int .u8 0, .int .u8 0] 25)) = w1 at HM ⊢
  by_cases hlt : q < 16
  · have hm8 : m < 8 := by omega
    have fx := ((HM.out.blk 1 rfl).cell (1 + q)).trans (AddrM.ip_cell _ HO.out q hlt)
    have zx := (HM.out.blk 1 rfl).frozen (1 + q)
    have hset := AddrM.set_cell a q
    obtain ⟨x, hx⟩ : ∃ x, a.ip.getD q 0 = x := ⟨_, rfl⟩
    rw [hx] at fx
    have hcb := cut_bits x m hm8
    obtain ⟨y, hy⟩ : ∃ y, cutByte x m = y := ⟨_, rfl⟩
    rw [hy] at hcb
    have HC := Lib.hid (firstM_cells a h q m hlt k hq hm y (by rw [hx, hy]))
    have hmin : min m 8 = m := by omega
    have bq : (q : Int) < 16 := by omega
    have HN := Lib.hid (show Mem w [blkE (w.heap.size + 1) 25 (.bool false :: (List.replicate 16 (0 : UInt8)).map u8v), blkE w.heap.size 25 (AddrM.mk a.six (a.ip.set q y)).cells] ((w1.setCell ⟨w.heap.size, 1 + q, none⟩ (.int .u8 (y.toNat : Int))).drew) from by have h := HM.out.drew.setCell 1 rfl (1 + q) (u8v y); rw [hset] at h; exact h)
    have hset2 : (AddrM.mk a.six (a.ip.set q y)).ok := by show (a.ip.set q y).length = 16; rw [List.length_set]; exact HO.out
    clear hset hx hy HM hca h
    have hlI : decide ((q : Int) < 16) = true := by simp; omega
    go_upto_region 3 with fail
    go_region
    clear fx zx hcb hmin hlI
    generalize (w1.setCell ⟨w.heap.size, 1 + q, none⟩ (.int .u8 (y.toNat : Int))).drew = w2 at HN ⊢
    obtain ⟨off, hoff⟩ : ∃ off, (if 16 - (q + 1) = 0 then 1 else 1 + (q + 1)) = off := ⟨_, rfl⟩
    obtain ⟨z, hz⟩ : ∃ z, 16 - (q + 1) = z := ⟨_, rfl⟩
    have hcut := cut_off q off (AddrM.mk a.six (a.ip.set q y)).cells hoff
    have hfit : off + (16 - (q + 1)) ≤ (AddrM.mk a.six (a.ip.set q y)).cells.length := by rw [AddrM.cells_length (hset2 : (AddrM.mk a.six (a.ip.set q y)).ok), ← hoff]; split <;> omega
    rw [HC.out, hz] at hcut
    have HCUT := Lib.hid hcut
    rw [hz] at hfit
    have hsl : ∀ w', (Instr.sliceAt 23 (.pointer (some ⟨w.heap.size, 1, none⟩)) (some (.int .i64 ((q : Int) + 1))) none none).run Tryz.prog w' = .ok (.slice (some ⟨w.heap.size, off, none⟩) z z) w' := fun w' => by rw [← hz]; exact array_from w.heap.size q hlt off hoff w'
    clear hoff hz hcut
    go_upto_region 5 with (refine wpList_clear_blk w2 rfl (.tmp 23) 22 5 rfl Tryz.underlying22 u8_zero w.heap.size off z z rfl 25 (AddrM.mk a.six (a.ip.set q y)).cells (HN.out.blk 1 rfl) hfit ?_; intro w3 hb hg)
    rw [HCUT.out] at hb
    replace HM := Lib.hid (show Mem w [blkE (w.heap.size + 1) 25 (.bool false :: (List.replicate 16 (0 : UInt8)).map u8v), blkE w.heap.size 25 (firstM a k).cells] w3 from HN.out.put 1 rfl _ hg hb)
    clear HN hb hg hsl
    obtain ⟨cf, hcf⟩ : ∃ x, (firstM a k).cells.toArray = x := ⟨_, rfl⟩
    have HCF := Lib.hid hcf
    clear hcf
    go_wp2_with (first | (refine wpList_load_obj rfl 25 (.tmp 2) rfl w.heap.size 0 rfl (firstM a k).cells (HM.out.blk 1 rfl).all _ Tryz.underlying25 rfl (addr_cellsOf _ HF.out) ?_; rw [HCF.out]) | (refine wpList_store_blk rfl 25 (.tmp 4) (.tmp 24) rfl (w.heap.size + 1) (firstM a k).cells rfl (by show Value.agg cf = _; rw [HCF.out]) 25 (.bool false :: (List.replicate 16 (0 : UInt8)).map u8v) (HM.out.blk 0 rfl) (addr_cellsOf _ HF.out) (by rw [AddrM.cells_length HF.out]; rfl) (AddrM.one _) ?_; intro w9 hb9 hg9))
    exact bodyPost_ret (results_obj rfl _ _ (w.heap.size + 1) 25 (firstM a k).cells _ rfl hb9 Tryz.underlying25 rfl (addr_cellsOf _ HF.out)) rfl ⟨rfl, (HM.out.put 0 rfl _ hg9 hb9).bel⟩
  · have hlI : decide ((q : Int) < 16) = false := by simp; omega
    have hfa : firstM a k = a := by rw [firstM, if_neg (by omega)]
    rw [← hfa] at HM
    obtain ⟨cf, hcf⟩ : ∃ x, (firstM a k).cells.toArray = x := ⟨_, rfl⟩
    have HCF := Lib.hid hcf
    clear hcf
    go_upto_region 5 with fail
    go_wp2_with (first | (refine wpList_load_obj rfl 25 (.tmp 2) rfl w.heap.size 0 rfl (firstM a k).cells (HM.out.blk 1 rfl).all _ Tryz.underlying25 rfl (addr_cellsOf _ HF.out) ?_; rw [HCF.out]) | (refine wpList_store_blk rfl 25 (.tmp 4) (.tmp 24) rfl (w.heap.size + 1) (firstM a k).cells rfl (by show Value.agg cf = _; rw [HCF.out]) 25 (.bool false :: (List.replicate 16 (0 : UInt8)).map u8v) (HM.out.blk 0 rfl) (addr_cellsOf _ HF.out) (by rw [AddrM.cells_length HF.out]; rfl) (AddrM.one _) ?_; intro w9 hb9 hg9))
    exact bodyPost_ret (results_obj rfl _ _ (w.heap.size + 1) 25 (firstM a k).cells _ rfl hb9 Tryz.underlying25 rfl (addr_cellsOf _ HF.out)) rfl ⟨rfl, (HM.out.put 0 rfl _ hg9 hb9).bel⟩
end Go.Proofs.YtkhghmmgegkiiaaGreatDoor
