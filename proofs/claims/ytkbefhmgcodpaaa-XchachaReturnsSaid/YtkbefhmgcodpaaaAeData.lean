/-
  The contracts of aead.padding, length and tagData: the data that a tag is for.
-/
import Derived.Test.YtkbefhmgcodpaaaAeMore
import Derived.Test.YtkbefhmgcodpaaaCoJoin
import Derived.Test.YtkbefhmgcodpaaaLittle
namespace Go.Proofs.Ytkbefhmgcodpaaa
open Go.RowKit

set_option maxHeartbeats 1000000 in
set_option maxRecDepth 100000 in
theorem pad_any (n c : Nat) (A : Option Addr) (l : List UInt8) (hn : n ≤ 1000000) (w : World) (hr : Rd w w.heap.size A n l) (m : Nat) (hm : (padL l).length = m) :
    Calls Try.prog 55 #[.slice A n c] w fun e w' => ∃ A' c', e = .returned (.slice A' m c') ∧ Rd w' w'.heap.size A' m (padL l) ∧ Below w.heap.size w w' := by
  obtain ⟨i0, hi, hz0, hz1, hz2⟩ := info_parts Try.info5
  have hl : l.length = n := hr.1
  have hpl : (padL l).length = (16 - n % 16) % 16 := by rw [padL, List.length_replicate, hl]
  by_cases h0 : n % 16 = 0
  · have e0 : m = 0 := by omega
    have en : padL l = [] := List.eq_nil_of_length_eq_zero (by omega)
    rw [en, e0]
    have d0 : ((n : Int) % 16 == 0) = true := by rw [beq_iff_eq]; omega
    clear hr hpl en hl hm e0
    go_enter Try.func55, Try.ntmps55
    go_wp2
    go_ret
    exact ⟨_, _, rfl, Rd.nil _ _ _, Below.refl _ _⟩
  · obtain ⟨q, hq⟩ : ∃ q, n % 16 = q := ⟨_, rfl⟩
    have hm16 : m = 16 - q := by omega
    have en : padL l = List.replicate m 0 := by rw [padL, hl, ← hm, hpl]
    rw [en]
    have d0 : ((n : Int) % 16 == 0) = false := by rw [beq_eq_false_iff_ne]; omega
    have d1 : (n : Int) % 16 = (q : Int) := by omega
    subst hm16
    have e8 : (16 : Int) - ((n : Int) % 16) = ((16 - q : Nat) : Int) := by omega
    clear hr hpl en hl hm
    go_enter Try.func55, Try.ntmps55
    go_wp2_with (refine wpList_make_full _ rfl (.tmp 10) (.tmp 10) 27 rfl w.heap.size 5 i0 (.int .u8 0) 1 Try.underlying27 hi hz0 hz1 .i64 .i64 _ _ (16 - q) rfl rfl (by first | omega | (rw [IntKind.wrap_i64]; omega)) (by first | omega | (rw [IntKind.wrap_i64]; omega)) (by rw [hz2]; omega) (by unfold maxLen; omega) (Nat.le_refl _) ?_; intro w1 hown1 hg1)
    rw [show (Value.int IntKind.u8 0).cells = #[.int .u8 0] from rfl, toList_madeCells_one, Nat.mul_one] at hown1
    rw [show List.replicate (16 - q) (Value.int IntKind.u8 0) = (List.replicate (16 - q) (0 : UInt8)).map u8v by rw [List.map_replicate]; rfl] at hown1
    go_ret
    exact ⟨_, _, rfl, Rd.of_own hown1, (Below.refl _ _).grown hg1 (Nat.le_refl _) (by simp)⟩

set_option maxHeartbeats 1000000 in
set_option maxRecDepth 100000 in
theorem length_any (n c : Nat) (A : Option Addr) (hn : n ≤ 1000000) (w : World) :
    Calls Try.prog 56 #[.slice A n c] w fun e w' => e = .returned (.slice (some ⟨w.heap.size, 0, none⟩) 8 8) ∧ Rd w' w'.heap.size (some ⟨w.heap.size, 0, none⟩) 8 (littleL n 8) ∧ Below w.heap.size w w' := by
  go_enter Try.func56, Try.ntmps56
  go_wp2_with fail
  rw [show (8 : Int) = ((8 : Nat) : Int) from rfl]
  refine (little_any n (by omega) 8 (by omega) (by omega) _).mono ?_
  rintro e w1 ⟨rfl, ho, hb⟩
  have HO := Lib.hid (Rd.of_own ho)
  clear ho
  go_wp2_with fail
  go_ret
  exact ⟨rfl, HO.out, hb⟩

set_option maxRecDepth 100000 in
theorem coJoin_six (g : Nat) (t : TypeId) (A1 A2 A3 A4 A5 A6 : Option Addr) (n1 c1 n2 c2 n3 c3 n4 c4 n5 c5 n6 c6 : Nat) (l1 l2 l3 l4 l5 l6 : List UInt8) (M : Nat) (hM : n1 + n2 + (n3 + n4) + (n5 + n6) = M) (hn : M ≤ 1000000) (w : World) (hb : Blk w g t [.slice A1 n1 c1, .slice A2 n2 c2, .slice A3 n3 c3, .slice A4 n4 c4, .slice A5 n5 c5, .slice A6 n6 c6])
    (h1 : Rd w w.heap.size A1 n1 l1) (h2 : Rd w w.heap.size A2 n2 l2) (h3 : Rd w w.heap.size A3 n3 l3) (h4 : Rd w w.heap.size A4 n4 l4) (h5 : Rd w w.heap.size A5 n5 l5) (h6 : Rd w w.heap.size A6 n6 l6) :
    Calls Try.prog 34 #[.slice (some ⟨g, 0, none⟩) 6 6] w fun e w' => ∃ A' c', e = .returned (.slice A' M c') ∧ Rd w' w'.heap.size A' M (l1 ++ l2 ++ (l3 ++ l4) ++ (l5 ++ l6)) ∧ M ≤ c' ∧ c' ≤ maxLen ∧ Below w.heap.size w w' := by
  have hf : flat [⟨A1, n1, c1, l1⟩, ⟨A2, n2, c2, l2⟩, ⟨A3, n3, c3, l3⟩, ⟨A4, n4, c4, l4⟩, ⟨A5, n5, c5, l5⟩, ⟨A6, n6, c6, l6⟩] 6 = l1 ++ l2 ++ (l3 ++ l4) ++ (l5 ++ l6) := by simp [flat]
  have hl : (l1 ++ l2 ++ (l3 ++ l4) ++ (l5 ++ l6)).length = M := by simp only [List.length_append]; rw [h1.1, h2.1, h3.1, h4.1, h5.1, h6.1, hM]
  have hJ := coJoin_any w.heap.size 6 (some ⟨g, 0, none⟩) [⟨A1, n1, c1, l1⟩, ⟨A2, n2, c2, l2⟩, ⟨A3, n3, c3, l3⟩, ⟨A4, n4, c4, l4⟩, ⟨A5, n5, c5, l5⟩, ⟨A6, n6, c6, l6⟩] (by simp) (by show (flat _ 6).length ≤ _; rw [hf, hl]; exact hn) w (Nat.le_refl _) (fun _ => ⟨g, rfl, hb.lt, fun j hj => by
    rw [hb.cell]
    match j, hj with
    | 0, _ => exact ⟨rfl, h1⟩
    | 1, _ => exact ⟨rfl, h2⟩
    | 2, _ => exact ⟨rfl, h3⟩
    | 3, _ => exact ⟨rfl, h4⟩
    | 4, _ => exact ⟨rfl, h5⟩
    | 5, _ => exact ⟨rfl, h6⟩
    | j + 6, hj => exact absurd hj (by simp)⟩)
  refine hJ.mono ?_
  rintro e w' ⟨A', c', he, ho, hbl⟩
  have e2 : ([⟨A1, n1, c1, l1⟩, ⟨A2, n2, c2, l2⟩, ⟨A3, n3, c3, l3⟩, ⟨A4, n4, c4, l4⟩, ⟨A5, n5, c5, l5⟩, ⟨A6, n6, c6, l6⟩] : List Part).length = 6 := rfl
  rw [e2, hf, hl] at he ho
  obtain ⟨q1, q2, _⟩ := own_addr ho
  exact ⟨A', c', he, Rd.of_own ho, q1, q2, hbl⟩

set_option maxRecDepth 100000 in
set_option maxHeartbeats 4000000 in
theorem tagData_any (Ac Am : Option Addr) (nc cc nm cm : Nat) (c more : List UInt8) (hnc : nc ≤ 400000) (hnm : nm ≤ 400000) (w : World) (hrc : Rd w w.heap.size Ac nc c) (hrm : Rd w w.heap.size Am nm more) (M : Nat) (hM : (macL more c).length = M) :
    Calls Try.prog 45 #[.slice Ac nc cc, .slice Am nm cm] w fun e w' => ∃ A' c', e = .returned (.slice A' M c') ∧ Rd w' w'.heap.size A' M (macL more c) ∧ M ≤ c' ∧ c' ≤ maxLen ∧ M ≤ 1000000 ∧ Below w.heap.size w w' := by
  obtain ⟨m1, hm1⟩ : ∃ m1, (padL more).length = m1 := ⟨_, rfl⟩
  obtain ⟨m2, hm2⟩ : ∃ m2, (padL c).length = m2 := ⟨_, rfl⟩
  have hMM : nm + m1 + (nc + m2) + (8 + 8) = M := by rw [← hM]; simp only [macL, List.length_append, littleL_length]; rw [hm1, hm2, hrm.1, hrc.1]
  have hp1 := padL_length more
  have hp2 := padL_length c
  have hM6 : M ≤ 1000000 := by omega
  have hmac : more ++ padL more ++ (c ++ padL c) ++ (littleL nm 8 ++ littleL nc 8) = macL more c := by rw [macL, hrc.1, hrm.1]
  have HM := Lib.hid (And.intro hMM (And.intro hM6 (And.intro hmac (And.intro hm1 hm2))))
  have HC := Lib.hid hrc
  have HR := Lib.hid hrm
  have HB := Lib.hid (Below.refl w.heap.size w)
  clear hmac hm1 hm2 hMM hM hp1 hp2 hrc hrm hM6
  go_enter Try.func45, Try.ntmps45
  go_wp2_with fail
  refine (pad_any nm cm Am more (by omega) _ HR.out m1 HM.out.2.2.2.1).mono ?_
  rintro e w1 ⟨F1, d1, rfl, hr, hb⟩
  replace HB := Lib.hid (HB.out.trans (hb.mono HB.out.size))
  replace HC := Lib.hid ((HC.out.below hb).mono hb.size)
  replace HR := Lib.hid ((HR.out.below hb).mono hb.size)
  have R1 := Lib.hid hr
  clear hb hr
  go_wp2_with fail
  refine (pad_any nc cc Ac c (by omega) _ HC.out m2 HM.out.2.2.2.2).mono ?_
  rintro e w2 ⟨F2, d2, rfl, hr, hb⟩
  replace HB := Lib.hid (HB.out.trans (hb.mono HB.out.size))
  replace HC := Lib.hid ((HC.out.below hb).mono hb.size)
  replace HR := Lib.hid ((HR.out.below hb).mono hb.size)
  replace R1 := Lib.hid ((R1.out.below hb).mono hb.size)
  have R2 := Lib.hid hr
  clear hb hr
  go_wp2_with fail
  refine (length_any nm cm Am (by omega) _).mono ?_
  rintro e w3 ⟨rfl, hr, hb⟩
  replace HB := Lib.hid (HB.out.trans (hb.mono HB.out.size))
  replace HC := Lib.hid ((HC.out.below hb).mono hb.size)
  replace HR := Lib.hid ((HR.out.below hb).mono hb.size)
  replace R1 := Lib.hid ((R1.out.below hb).mono hb.size)
  replace R2 := Lib.hid ((R2.out.below hb).mono hb.size)
  have R3 := Lib.hid hr
  clear hb hr
  generalize w2.heap.size = g3 at R3 ⊢
  go_wp2_with fail
  refine (length_any nc cc Ac (by omega) _).mono ?_
  rintro e w4 ⟨rfl, hr, hb⟩
  replace HB := Lib.hid (HB.out.trans (hb.mono HB.out.size))
  replace HC := Lib.hid ((HC.out.below hb).mono hb.size)
  replace HR := Lib.hid ((HR.out.below hb).mono hb.size)
  replace R1 := Lib.hid ((R1.out.below hb).mono hb.size)
  replace R2 := Lib.hid ((R2.out.below hb).mono hb.size)
  replace R3 := Lib.hid ((R3.out.below hb).mono hb.size)
  have R4 := Lib.hid hr
  clear hb hr
  generalize w3.heap.size = g4 at R4 ⊢
  go_wp2_with fail
  have hg := Blk.new w4 27 [Value.slice Am nm cm, .slice F1 m1 d1, .slice Ac nc cc, .slice F2 m2 d2, .slice (some ⟨g3, 0, none⟩) 8 8, .slice (some ⟨g4, 0, none⟩) 8 8]
  have hb : Below w4.heap.size w4 (w4.alloc (.cells [Value.slice Am nm cm, .slice F1 m1 d1, .slice Ac nc cc, .slice F2 m2 d2, .slice (some ⟨g3, 0, none⟩) 8 8, .slice (some ⟨g4, 0, none⟩) 8 8].toArray 27)) := (Below.refl _ _).alloc (Nat.le_refl _) _
  rw [show [Value.slice Am nm cm, .slice F1 m1 d1, .slice Ac nc cc, .slice F2 m2 d2, .slice (some ⟨g3, 0, none⟩) 8 8, .slice (some ⟨g4, 0, none⟩) 8 8].toArray = #[Value.slice Am nm cm, .slice F1 m1 d1, .slice Ac nc cc, .slice F2 m2 d2, .slice (some ⟨g3, 0, none⟩) 8 8, .slice (some ⟨g4, 0, none⟩) 8 8] from rfl] at hg hb
  replace HB := Lib.hid (HB.out.trans (hb.mono HB.out.size))
  replace HC := Lib.hid ((HC.out.below hb).mono hb.size)
  replace HR := Lib.hid ((HR.out.below hb).mono hb.size)
  replace R1 := Lib.hid ((R1.out.below hb).mono hb.size)
  replace R2 := Lib.hid ((R2.out.below hb).mono hb.size)
  replace R3 := Lib.hid ((R3.out.below hb).mono hb.size)
  replace R4 := Lib.hid ((R4.out.below hb).mono hb.size)
  have HG := Lib.hid hg
  clear hb hg
  generalize w4.alloc (.cells #[Value.slice Am nm cm, .slice F1 m1 d1, .slice Ac nc cc, .slice F2 m2 d2, .slice (some ⟨g3, 0, none⟩) 8 8, .slice (some ⟨g4, 0, none⟩) 8 8] 27) = w5 at HB HC HR R1 R2 R3 R4 HG ⊢
  generalize w4.heap.size = g5 at HG ⊢
  refine (coJoin_six g5 27 _ _ _ _ _ _ nm cm m1 d1 nc cc m2 d2 8 8 8 8 _ _ _ _ _ _ M HM.out.1 HM.out.2.1 _ HG.out HR.out R1.out HC.out R2.out R3.out R4.out).mono ?_
  rintro e w6 ⟨A6, c6, rfl, hr, q1, q2, hb⟩
  rw [HM.out.2.2.1] at hr
  have HO := Lib.hid (And.intro hr (HB.out.trans (hb.mono HB.out.size)))
  clear hr hb HC HR R1 R2 R3 R4 HG HB
  go_wp2_with fail
  go_ret
  exact ⟨_, _, rfl, HO.out.1, q1, q2, HM.out.2.1, HO.out.2⟩
end Go.Proofs.Ytkbefhmgcodpaaa
