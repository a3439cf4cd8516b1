/-
  The contracts of burrowcase.Short and of the reference's texts: burrowref01.Hex, Digit, ParseHex.
-/
import Derived.Test.YtdnmbabofkiiiaaMem
import Derived.Test.YtdnmbabofkiiiaaB64
import Derived.Test.YtdnmbabofkiiiaaRegion
import Derived.Laws.BitsAllLaws
import Derived.Lib.SmallJoins
import Derived.Lib.Strings
import Derived.RegionTactic
import Derived.BigRegion
import Derived.BigQuiet
import Derived.Deep.QuietTactic
import Derived.Deep.RegionLaw
import Derived.Maps.AppendAt
import Derived.Outline
namespace Go.Proofs.Ytdnmbabofkiiiaa
open Go.RowKit

theorem ret_string {a b : ByteArray} (h : a.data.toList = b.data.toList) : Ending.returned (.string a) = .returned (.string b) := by rw [Go.WideShapes.bytes_inj h]

theorem short_any (l : List UInt8) (m : Nat) (hl : l.length ≤ maxLen) (hm : m ≤ 1000000) (w : World) :
    Calls Try.prog 19 #[.string ⟨l.toArray⟩, .int .i64 m] w fun e w' => e = .returned (.string ⟨(l.take m).toArray⟩) ∧ w = w' := by
  obtain ⟨S, hS⟩ : ∃ S : ByteArray, ⟨l.toArray⟩ = S := ⟨_, rfl⟩
  have hsz : S.size = l.length := by rw [← hS]; simp [ByteArray.size]
  rw [hS]
  have HS := Lib.hid hS
  have HZ := Lib.hid hsz
  have b2 : S.size ≤ 9223372036854775807 := by unfold maxLen at hl; omega
  by_cases hc : S.size ≤ m
  · clear hS hsz hl
    go_enter Try.func19, Try.ntmps19
    go_wp2
    go_ret
    exact ⟨ret_string (by rw [← HS.out]; have := HZ.out; simp; rw [List.take_of_length_le (by omega)]), rfl⟩
  · clear hS hsz hl
    go_enter Try.func19, Try.ntmps19
    go_wp2
    go_ret
    exact ⟨ret_string (by rw [Lib.extract_data, ← HS.out]; simp), rfl⟩

theorem hexCut (k : Nat) (L H : Int) (h : L = (k : Int) ∧ H = (k : Int) + 1 ∧ k < 16) : ByteArray.extract (ByteArray.mk #[48, 49, 50, 51, 52, 53, 54, 55, 56, 57, 97, 98, 99, 100, 101, 102]) L.toNat H.toNat = ⟨#[hexD k]⟩ := by
  obtain ⟨rfl, rfl, hk⟩ := h
  have : ∀ d : Fin 16, ByteArray.extract (ByteArray.mk #[48, 49, 50, 51, 52, 53, 54, 55, 56, 57, 97, 98, 99, 100, 101, 102]) d.val (d.val + 1) = ⟨#[hexD d.val]⟩ := by decide +kernel
  rw [Int.toNat_natCast, show ((k : Int) + 1).toNat = k + 1 from by omega]
  exact this ⟨k, hk⟩
theorem two_mk (a b : UInt8) : ByteArray.mk #[a] ++ ByteArray.mk #[b] = ByteArray.mk #[a, b] := by
  apply Go.WideShapes.bytes_inj
  rw [Go.Joins.data_append]
  rfl
theorem refHex_any (B : Nat) (A : Option Addr) (n cap : Nat) (l : List UInt8) (hn : n ≤ 1000000) (w : World) (hB : B ≤ w.heap.size) (hr : Rd w B A n l) :
    Calls Try.prog 20 #[.slice A n cap] w fun e w' => e = .returned (.string ⟨(hexL l).toArray⟩) ∧ Below w.heap.size w w' := by
  have hl : l.length = n := hr.1
  have HR := Lib.hid hr
  have HL := Lib.hid hl
  clear hr hl
  go_enter Try.func20, Try.ntmps20
  go_wp2
  go_loopw [3, 8, 5] (fun v i _ wr => ∃ j : Nat, j ≤ n ∧ i = .int .i64 j ∧ v = .string ⟨(hexL (l.take j)).toArray⟩ ∧ Below w.heap.size w wr) (fun _ i _ _ => n - (intOf i).toNat)
  case atStart => exact ⟨0, by omega, rfl, rfl, Below.refl _ _⟩
  case round =>
    obtain ⟨j, hj, rfl, rfl, hbl⟩ := hrel
    by_cases hlt : j < n
    · obtain ⟨b, off, rfl, hbB, hc⟩ := HR.out.at_ (by omega)
      have hlj : j < l.length := by have := HL.out; omega
      obtain ⟨x, hx⟩ : ∃ x, l[j] = x := ⟨_, rfl⟩
      have hc1 : wr.cell? ⟨b, off + j, none⟩ = some (.int .u8 (x.toNat : Int)) := by rw [hbl.cell (p := ⟨b, off + j, none⟩) (Nat.lt_of_lt_of_le hbB hB), hc j hlj, hx]
      have HX := Lib.hid hx
      clear hc hx
      have hb8 := x.toNat_lt
      have ha : bits BinOp.and IntKind.u8 (x.toNat : Int) 15 = ((x.toNat % 16 : Nat) : Int) := by
        have := u8_and_nat x.toNat 15 (by omega) (by omega)
        rw [nat_mask4] at this
        exact this
      have w1 : IntKind.u8.wrap ((x.toNat : Int) / 16 + 1) = (x.toNat : Int) / 16 + 1 := by rw [IntKind.wrap_u8']; omega
      have w2 : IntKind.u8.wrap ((x.toNat : Int) % 16 + 1) = (x.toNat : Int) % 16 + 1 := by rw [IntKind.wrap_u8']; omega
      obtain ⟨a, hxa⟩ : ∃ a, hexD (x.toNat / 16) = a := ⟨_, rfl⟩
      obtain ⟨c, hxc⟩ : ∃ c, hexD (x.toNat % 16) = c := ⟨_, rfl⟩
      have hE1 := hexCut (x.toNat / 16) ((x.toNat : Int) / 16) ((x.toNat : Int) / 16 + 1) (by omega)
      have hE2 := hexCut (x.toNat % 16) ((x.toNat : Int) % 16) ((x.toNat : Int) % 16 + 1) (by omega)
      rw [hxa] at hE1
      rw [hxc] at hE2
      have HXA := Lib.hid hxa
      have HXC := Lib.hid hxc
      have hac := two_mk a c
      have had : ∀ w' : World, (Op.stringOp .add ⟨(hexL (l.take j)).toArray⟩ ⟨#[a, c]⟩).run Try.prog w' = .ok (.string ⟨(hexL (l.take j) ++ [a, c]).toArray⟩) w' := fun w' =>
        run_string_add_lists w' (hexL (l.take j)) [a, c] (by rw [hexL_length, List.length_take]; omega) (by simp)
      clear hxa hxc
      have e1 : (0 : Int) ≤ (x.toNat : Int) / 16 + 1 := by omega
      have e2 : (x.toNat : Int) / 16 ≤ (x.toNat : Int) / 16 + 1 := by omega
      have e3 : (0 : Int) ≤ (x.toNat : Int) % 16 + 1 := by omega
      have e4 : (x.toNat : Int) % 16 ≤ (x.toNat : Int) % 16 + 1 := by omega
      have d1 : (0 : Int) ≤ (x.toNat : Int) / 16 := by omega
      have d2 : (x.toNat : Int) / 16 + 1 ≤ 16 := by omega
      have d3 : (0 : Int) ≤ (x.toNat : Int) % 16 := by omega
      have d4 : (x.toNat : Int) % 16 + 1 ≤ 16 := by omega
      go_wp2_with fail
      refine wp_region_held_drew (S := fun _ => True) (by kernel_rfl) (trivial) (fun hHeld => ?_)
      refine take_first (v := ?_) 0 rfl (by kernel_rfl) (by kernel_rfl) (by kernel_rfl) (fun _ _ _ h => h) (Or.inl ⟨by rfl, ?_⟩) (by assumption) ?_
      rotate_left
      · (intro w hSw; (try dsimp only at hSw); go_simp; try with_reducible rfl)
      (try simp only [Act.put, List.setIfInBounds_toArray, List.set_cons_zero, List.set_cons_succ])
      refine take_first (v := ?_) 1 rfl (by kernel_rfl) (by kernel_rfl) (by kernel_rfl) (fun _ _ _ h => h) (Or.inl ⟨by rfl, ?_⟩) (by assumption) ?_
      rotate_left
      · (intro w hSw; (try dsimp only at hSw); go_simp; try with_reducible rfl)
      (try simp only [Act.put, List.setIfInBounds_toArray, List.set_cons_zero, List.set_cons_succ])
      refine take_first (v := ?_) 2 rfl (by kernel_rfl) (by kernel_rfl) (by kernel_rfl) (fun _ _ _ h => h) (Or.inl ⟨by rfl, ?_⟩) (by assumption) ?_
      rotate_left
      · (intro w hSw; (try dsimp only at hSw); go_simp; try with_reducible rfl)
      (try simp only [Act.put, List.setIfInBounds_toArray, List.set_cons_zero, List.set_cons_succ])
      refine take_first (v := ?_) 3 rfl (by kernel_rfl) (by kernel_rfl) (by kernel_rfl) (fun _ _ _ h => h) (Or.inl ⟨by rfl, ?_⟩) (by assumption) ?_
      rotate_left
      · (intro w hSw; (try dsimp only at hSw); go_simp; try with_reducible rfl)
      (try simp only [Act.put, List.setIfInBounds_toArray, List.set_cons_zero, List.set_cons_succ])
      refine take_first (v := ?_) 4 rfl (by kernel_rfl) (by kernel_rfl) (by kernel_rfl) (fun _ _ _ h => h) (Or.inl ⟨by rfl, ?_⟩) (by assumption) ?_
      rotate_left
      · (intro w hSw; (try dsimp only at hSw); go_simp; try with_reducible rfl)
      (try simp only [Act.put, List.setIfInBounds_toArray, List.set_cons_zero, List.set_cons_succ])
      refine take_first (v := ?_) 5 rfl (by kernel_rfl) (by kernel_rfl) (by kernel_rfl) (fun _ _ _ h => h) (Or.inl ⟨by rfl, ?_⟩) (by assumption) ?_
      rotate_left
      · (intro w hSw; (try dsimp only at hSw); go_simp; try with_reducible rfl)
      (try simp only [Act.put, List.setIfInBounds_toArray, List.set_cons_zero, List.set_cons_succ])
      refine take_first (v := ?_) 6 rfl (by kernel_rfl) (by kernel_rfl) (by kernel_rfl) (fun _ _ _ h => h) (Or.inl ⟨by rfl, ?_⟩) (by assumption) ?_
      rotate_left
      · (intro w hSw; (try dsimp only at hSw); go_simp; try with_reducible rfl)
      (try simp only [Act.put, List.setIfInBounds_toArray, List.set_cons_zero, List.set_cons_succ])
      refine take_first (v := ?_) 7 rfl (by kernel_rfl) (by kernel_rfl) (by kernel_rfl) (fun _ _ _ h => h) (Or.inl ⟨by rfl, ?_⟩) (by assumption) ?_
      rotate_left
      · (intro w hSw; (try dsimp only at hSw); go_simp; try with_reducible rfl)
      (try simp only [Act.put, List.setIfInBounds_toArray, List.set_cons_zero, List.set_cons_succ])
      refine take_first (v := ?_) 8 rfl (by kernel_rfl) (by kernel_rfl) (by kernel_rfl) (fun _ _ _ h => h) (Or.inl ⟨by rfl, ?_⟩) (by assumption) ?_
      rotate_left
      · (intro w hSw; (try dsimp only at hSw); go_simp; try with_reducible rfl)
      (try simp only [Act.put, List.setIfInBounds_toArray, List.set_cons_zero, List.set_cons_succ])
      refine take_first (v := ?_) 9 rfl (by kernel_rfl) (by kernel_rfl) (by kernel_rfl) (fun _ _ _ h => h) (Or.inl ⟨by rfl, ?_⟩) (by assumption) ?_
      rotate_left
      · (intro w hSw; (try dsimp only at hSw); go_simp; try with_reducible rfl)
      (try simp only [Act.put, List.setIfInBounds_toArray, List.set_cons_zero, List.set_cons_succ])
      refine take_first (v := ?_) 10 rfl (by kernel_rfl) (by kernel_rfl) (by kernel_rfl) (fun _ _ _ h => h) (Or.inl ⟨by rfl, ?_⟩) (by assumption) ?_
      rotate_left
      · (intro w hSw; (try dsimp only at hSw); go_simp; try with_reducible rfl)
      (try simp only [Act.put, List.setIfInBounds_toArray, List.set_cons_zero, List.set_cons_succ])
      refine take_first (v := ?_) 11 rfl (by kernel_rfl) (by kernel_rfl) (by kernel_rfl) (fun _ _ _ h => h) (Or.inl ⟨by rfl, ?_⟩) (by assumption) ?_
      rotate_left
      · (intro w hSw; (try dsimp only at hSw); go_simp; try with_reducible rfl)
      (try simp only [Act.put, List.setIfInBounds_toArray, List.set_cons_zero, List.set_cons_succ])
      refine take_first (v := ?_) 12 rfl (by kernel_rfl) (by kernel_rfl) (by kernel_rfl) (fun _ _ _ h => h) (Or.inl ⟨by rfl, ?_⟩) (by assumption) ?_
      rotate_left
      · (intro w hSw; (try dsimp only at hSw); go_simp; try with_reducible rfl)
      (try simp only [Act.put, List.setIfInBounds_toArray, List.set_cons_zero, List.set_cons_succ])
      refine take_first (v := ?_) 13 rfl (by kernel_rfl) (by kernel_rfl) (by kernel_rfl) (fun _ _ _ h => h) (Or.inl ⟨by rfl, ?_⟩) (by assumption) ?_
      rotate_left
      · (intro w hSw; (try dsimp only at hSw); go_simp; try with_reducible rfl)
      (try simp only [Act.put, List.setIfInBounds_toArray, List.set_cons_zero, List.set_cons_succ])
      refine take_first (v := ?_) 14 rfl (by kernel_rfl) (by kernel_rfl) (by kernel_rfl) (fun _ _ _ h => h) (Or.inl ⟨by rfl, ?_⟩) (by assumption) ?_
      rotate_left
      · (intro w hSw; (try dsimp only at hSw); go_simp; try with_reducible rfl)
      (try simp only [Act.put, List.setIfInBounds_toArray, List.set_cons_zero, List.set_cons_succ])
      refine take_first (v := ?_) 15 rfl (by kernel_rfl) (by kernel_rfl) (by kernel_rfl) (fun _ _ _ h => h) (Or.inl ⟨by rfl, ?_⟩) (by assumption) ?_
      rotate_left
      · (intro w hSw; (try dsimp only at hSw); go_simp; try with_reducible rfl)
      (try simp only [Act.put, List.setIfInBounds_toArray, List.set_cons_zero, List.set_cons_succ])
      refine wpAnyH_done (by kernel_rfl) ?_ _
      clear hHeld hE1 hE2 hac had
      go_wp2
      go_roundw
      case rel => exact ⟨j + 1, by omega, by go_num, by rw [hexL_take_succ l j hlj, HX.out, HXA.out, HXC.out], hbl.drew⟩
      case measure => simp [intOf]; omega
    · obtain rfl : j = n := by omega
      have HE := Lib.hid (show l.take j = l from List.take_of_length_le (by have := HL.out; omega))
      go_wp2
      go_ret
      exact ⟨ret_str (by rw [HE.out]), hbl⟩

/-- the reference's value of a hexadecimal digit -/
theorem digit_any (c : UInt8) (w : World) :
    Calls Try.prog 32 #[.int .u8 (c.toNat : Int)] w fun e w' => e = .returned (.int .i64 (hexVal c : Nat)) ∧ w = w' := by
  have hb := c.toNat_lt
  by_cases h1 : 48 ≤ c.toNat ∧ c.toNat ≤ 57
  · have hv : hexVal c = c.toNat - 48 := by unfold hexVal; rw [if_pos h1]
    rw [hv]
    obtain ⟨a1, a2⟩ := h1
    clear hv
    go_enter Try.func32, Try.ntmps32
    go_wp2
    go_ret
    exact ⟨ret_int (by omega), rfl⟩
  by_cases h2 : 97 ≤ c.toNat ∧ c.toNat ≤ 102
  · have hv : hexVal c = c.toNat - 87 := by unfold hexVal; rw [if_neg h1, if_pos h2]
    rw [hv]
    obtain ⟨a1, a2⟩ := h2
    have a3 : ¬ c.toNat ≤ 57 := by omega
    clear hv h1
    go_enter Try.func32, Try.ntmps32
    go_wp2
    go_ret
    exact ⟨ret_int (by omega), rfl⟩
  by_cases h3 : 65 ≤ c.toNat ∧ c.toNat ≤ 70
  · have hv : hexVal c = c.toNat - 55 := by unfold hexVal; rw [if_neg h1, if_neg h2, if_pos h3]
    rw [hv]
    obtain ⟨a1, a2⟩ := h3
    have a3 : ¬ c.toNat ≤ 57 := by omega
    have a4 : ¬ 97 ≤ c.toNat := by omega
    clear hv h1 h2
    go_enter Try.func32, Try.ntmps32
    go_wp2
    go_ret
    exact ⟨ret_int (by omega), rfl⟩
  · have hv : hexVal c = 16 := by unfold hexVal; rw [if_neg h1, if_neg h2, if_neg h3]
    rw [hv]
    clear hv
    rcases (by omega : c.toNat < 48 ∨ (57 < c.toNat ∧ c.toNat < 65) ∨ (70 < c.toNat ∧ c.toNat < 97) ∨ 102 < c.toNat) with g | ⟨g, g'⟩ | ⟨g, g'⟩ | g
    all_goals
      clear h1 h2 h3
      go_enter Try.func32, Try.ntmps32
      go_wp2
      go_ret
      exact ⟨rfl, rfl⟩
end Go.Proofs.Ytdnmbabofkiiiaa
