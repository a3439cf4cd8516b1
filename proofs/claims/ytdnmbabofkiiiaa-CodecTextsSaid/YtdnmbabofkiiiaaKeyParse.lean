/-
  The contracts of codec.readGroup (four characters of base64) and codec.ParseKey (the key of a text, or the error).
-/
import Derived.Test.YtdnmbabofkiiiaaMem
import Derived.Test.YtdnmbabofkiiiaaB64
import Derived.Test.YtdnmbabofkiiiaaIndex
import Derived.Test.YtdnmbabofkiiiaaBig
import Derived.Test.YtdnmbabofkiiiaaKeyMem
import Derived.Test.YtdnmbabofkiiiaaRegion
import Derived.Laws.BitsAllLaws
import Derived.RegionTactic
import Derived.BigRegion
import Derived.BigQuiet
import Derived.Deep.QuietTactic
import Derived.Deep.RegionLaw
import Derived.Lib.SmallJoins
import Derived.Lib.Strings
import Derived.Outline
namespace Go.Proofs.Ytdnmbabofkiiiaa
open Go.RowKit

theorem index_b64 (c : UInt8) (w : World) :
    Calls Try.prog 35 #[.string ⟨#[65, 66, 67, 68, 69, 70, 71, 72, 73, 74, 75, 76, 77, 78, 79, 80, 81, 82, 83, 84, 85, 86, 87, 88, 89, 90, 97, 98, 99, 100, 101, 102, 103, 104, 105, 106, 107, 108, 109, 110, 111, 112, 113, 114, 115, 116, 117, 118, 119, 120, 121, 122, 48, 49, 50, 51, 52, 53, 54, 55, 56, 57, 43, 47]⟩, .int .u8 (c.toNat : Int)] w fun e w' => e = .returned (.int .i64 (b64V c)) ∧ w = w' := by
  refine (indexByte_any _ _ w).mono fun e w' ⟨he, hw⟩ => ⟨?_, hw.symm⟩
  rw [he, Int.toNat_natCast]
  congr 2
  have : c.toNat.toUInt8 = c := UInt8.toNat_inj.1 (by simp)
  rw [this]
  rfl

theorem or64_six (n v : Nat) (hn : n < 16777216) (hv : v < 64) : bits BinOp.or IntKind.u64 ((n : Int) * 64) (v : Int) = ((n * 64 + v : Nat) : Int) := by
  have e1 : (n : Int) * 64 = ((n * 64 : Nat) : Int) := by omega
  rw [e1, u64_or_nat _ _ (by omega) (by omega), nat_join 6 _ _ (by omega) (by omega)]

set_option maxHeartbeats 400000 in
theorem readGroup_any (S : ByteArray) (l : List UInt8) (hS : S = ⟨l.toArray⟩) (h4 : l.length = 4) (b : Bool) (G : Nat) (hb : grpOk l = b) (hG : G = if b then grpN l else 0) (w : World) :
    Calls Try.prog 33 #[.string S] w fun e w' => e = .returned (.tuple #[.int .u64 (G : Int), .bool b]) ∧ w = w' := by
  have hsz : S.size = 4 := by rw [hS]; simpa [ByteArray.size] using h4
  have hat : ∀ i (h : i < S.size), S[i] = l.getD i 0 := by
    intro i h
    subst hS
    have hi : i < l.length := by simpa [ByteArray.size] using h
    rw [getD_lt hi]
    rfl
  have HAT := Lib.hid hat
  have H4 := Lib.hid h4
  have HB := Lib.hid hb
  have HG := Lib.hid hG
  clear hat hS h4 hb hG
  go_enter Try.func33, Try.ntmps33
  go_wp2
  go_loop [4, 9] (fun n i => ∃ j : Nat, j ≤ 4 ∧ i = .int .i64 j ∧ n = .int .u64 (grpN (l.take j) : Nat) ∧ Hid ((l.take j).all valid = true)) (fun _ i => 4 - (intOf i).toNat)
  case atStart => exact ⟨0, by omega, rfl, rfl, Lib.hid rfl⟩
  case round =>
    obtain ⟨j, hj, rfl, rfl, hall⟩ := hrel
    by_cases hlt : j < 4
    · obtain ⟨c, hc⟩ : ∃ c, l.getD j 0 = c := ⟨_, rfl⟩
      have hjl : j < l.length := by have := H4.out; omega
      have hI : ∀ h, S[j]'h = c := fun h => by rw [HAT.out, hc]
      have hnext : l.take (j + 1) = l.take j ++ [c] := by rw [List.take_succ_eq_append_getElem hjl, ← hc, getD_lt hjl]
      have HN := Lib.hid hnext
      clear hc hnext
      have hlt3 : grpN (l.take j) < 16777216 := by
        have h := grpN_lt (l.take j)
        have : (64 : Nat) ^ (l.take j).length ≤ 64 ^ 3 := Nat.pow_le_pow_right (by omega) (by rw [List.length_take]; omega)
        omega
      obtain ⟨N, hN⟩ : ∃ N, grpN (l.take j) = N := ⟨_, rfl⟩
      rw [hN] at hlt3 ⊢
      have HNN := Lib.hid hN
      clear hN
      by_cases hv : valid c = true
      · obtain ⟨v, hvv⟩ : ∃ v : Nat, b64V c = (v : Int) := ⟨(b64V c).toNat, by rw [valid_iff] at hv; omega⟩
        have hv64 : v < 64 := by have := b64V_lt c; omega
        have HV := Lib.hid hvv
        have HVD := Lib.hid hv
        have C := index_b64 c
        rw [hvv] at C
        have HC := Lib.hid C
        clear C hvv hv
        have hor := or64_six N v hlt3 hv64
        go_wp2_with fail
        refine (HC.out _).mono ?_
        rintro e w2 ⟨rfl, rfl⟩
        go_wp2_with fail
        go_round
        case rel =>
          refine ⟨j + 1, by omega, by go_num, ?_, Lib.hid ?_⟩
          · rw [HN.out, grpN_concat, HNN.out, HV.out, Int.toNat_natCast]; go_num
          · rw [HN.out, List.all_append, hall.out]; simp [HVD.out]
        case measure => simp [intOf]; omega
      · have hv0 : b64V c < 0 := by
          have : ¬ 0 ≤ b64V c := fun h => hv ((valid_iff c).2 h)
          omega
        have hno : grpOk l = false := by
          unfold grpOk
          rw [← Bool.not_eq_true]
          intro h
          rw [List.all_eq_true] at h
          exact hv (h c (by have : c ∈ l.take (j + 1) := by rw [HN.out]; simp
                            exact List.mem_of_mem_take this))
        obtain rfl : b = false := by rw [← HB.out, hno]
        obtain rfl : G = 0 := by rw [HG.out]; rfl
        have HC := Lib.hid (index_b64 c)
        clear hv hno HB HG
        go_wp2_with fail
        refine (HC.out _).mono ?_
        rintro e w2 ⟨rfl, rfl⟩
        go_wp2
        go_ret2
        exact ⟨rfl, rfl⟩
    · obtain rfl : j = 4 := by omega
      have hl4 : l.take 4 = l := List.take_of_length_le (by have := H4.out; omega)
      have hok : grpOk l = true := by have := hall.out; rwa [hl4] at this
      obtain rfl : b = true := by rw [← HB.out, hok]
      obtain rfl : G = grpN l := by rw [HG.out]; rfl
      rw [hl4]
      clear hok hl4 HB HG
      go_wp2
      go_ret2
      exact ⟨rfl, rfl⟩

def keyA (k : List UInt8) : Array Value := (k.map u8v).toArray
def zeros (n : Nat) : List Value := List.replicate n (.int .u8 0)
theorem zeros_one (n : Nat) : ∀ v ∈ zeros n, v.oneCell' = true := by
  intro v hv
  rw [List.eq_of_mem_replicate hv]
  rfl
theorem zeros_map (n : Nat) : (List.replicate n (0 : UInt8)).map u8v = zeros n := by rw [List.map_replicate]; rfl
theorem zeros_key : keyA (List.replicate 32 0) = (zeros 32).toArray := by unfold keyA; rw [zeros_map]
/-- what a call of ParseKey gives -/
def KeyRes (l : List UInt8) (w : World) (e : Ending) (w' : World) : Prop :=
  (∃ q, parseK l = some q ∧ e = .returned (.tuple #[.agg (keyA q), .int .i64 0]) ∧ Below w.heap.size w w') ∨
  (parseK l = none ∧ e = .returned (.tuple #[.agg (keyA (List.replicate 32 0)), .int .i64 5]) ∧ Below w.heap.size w w')

set_option maxRecDepth 100000 in
set_option maxHeartbeats 1000000 in
theorem parseKey_short (S : ByteArray) (l : List UInt8) (hS : S = ⟨l.toArray⟩) (hn : l.length ≤ 1000000) (h : ¬ l.length = 44) (w : World) :
    Calls Try.prog 26 #[.string S] w (KeyRes l w) := by
  have hnone : parseK l = none := by
    unfold parseK
    rw [if_neg]
    rintro ⟨h', _⟩
    exact h h'
  have HNO := Lib.hid hnone
  have hsz : S.size = l.length := by rw [hS]; simp [ByteArray.size]
  have b1 : ¬ (S.size : Int) = 44 := by omega
  have b2 : S.size ≤ 1000000 := by omega
  clear hnone h hsz hS hn
  go_enter Try.func26, Try.ntmps26
  go_wp2_with (refine wpList_store_blk rfl 33 (.tmp 2) (.tmp 18) rfl w.heap.size (zeros 32) rfl rfl 33 (zeros 32) (Blk.new w 33 (zeros 32)) (by kernel_rfl) rfl (zeros_one 32) ?_; intro w9 hb9 hg9)
  refine bodyPost_ret (results_key rfl _ _ w.heap.size 33 (zeros 32) 32 5 rfl hb9 Try.underlying33 (by kernel_rfl)) rfl (.inr ⟨HNO.out, ?_, ?_⟩)
  · rw [zeros_key]; rfl
  · exact below_blk ((Below.refl _ _).alloc (Nat.le_refl _) _) hg9 (Nat.le_refl _)

theorem string_at (S : ByteArray) (l : List UInt8) (hS : S = ⟨l.toArray⟩) : S.size = l.length ∧ ∀ i (h : i < S.size), S[i] = l.getD i 0 := by
  subst hS
  refine ⟨by simp [ByteArray.size], fun i h => ?_⟩
  have hi : i < l.length := by simpa [ByteArray.size] using h
  rw [getD_lt hi]
  rfl

set_option maxRecDepth 100000 in
set_option maxHeartbeats 1000000 in
theorem parseKey_pad (S : ByteArray) (l : List UInt8) (hS : S = ⟨l.toArray⟩) (hn : l.length = 44) (h : ¬ l.getD 43 0 = 61) (w : World) :
    Calls Try.prog 26 #[.string S] w (KeyRes l w) := by
  have hnone : parseK l = none := by
    unfold parseK
    rw [if_neg]
    rintro ⟨_, h'⟩
    exact h h'
  have HNO := Lib.hid hnone
  obtain ⟨hsz, hat⟩ := string_at S l hS
  have hs44 : S.size = 44 := by rw [hsz, hn]
  obtain ⟨c, hc⟩ : ∃ c, l.getD 43 0 = c := ⟨_, rfl⟩
  have hI : ∀ h, S[43]'h = c := fun h => by rw [hat, hc]
  have hc61 : ¬ (c.toNat : Int) = 61 := by
    intro e
    apply h
    rw [hc]
    exact UInt8.toNat_inj.1 (by have : (61 : UInt8).toNat = 61 := rfl; omega)
  clear hnone h hsz hS hn hat hc
  go_enter Try.func26, Try.ntmps26
  go_wp2_with (refine wpList_store_blk rfl 33 (.tmp 2) (.tmp 18) rfl w.heap.size (zeros 32) rfl rfl 33 (zeros 32) (Blk.new w 33 (zeros 32)) (by kernel_rfl) rfl (zeros_one 32) ?_; intro w9 hb9 hg9)
  refine bodyPost_ret (results_key rfl _ _ w.heap.size 33 (zeros 32) 32 5 rfl hb9 Try.underlying33 (by kernel_rfl)) rfl (.inr ⟨HNO.out, ?_, ?_⟩)
  · rw [zeros_key]; rfl
  · exact below_blk ((Below.refl _ _).alloc (Nat.le_refl _) _) hg9 (Nat.le_refl _)

def fillRow (D : List UInt8) (g : Nat) : List UInt8 := fill D g ++ List.replicate (33 - 3 * g) 0
theorem key_size : (Try.prog.info? 33).map (·.size) = some 32 := by kernel_rfl
theorem fillRow_length (D : List UInt8) (g : Nat) (h : g ≤ 11) : (fillRow D g).length = 33 := by simp [fillRow, fill_length]; omega
theorem fillRow_step (D : List UInt8) (g N : Nat) (h : g < 11) (hN : grpN (grp D g) = N) :
    ((fillRow D g).map u8v).take (g * 3) ++ (bytes3 N).map u8v ++ ((fillRow D g).map u8v).drop (g * 3 + ((bytes3 N).map u8v).length) = (fillRow D (g + 1)).map u8v := by
  have hl := fill_length D g
  have e1 : ((fillRow D g).map u8v).take (g * 3) = (fill D g).map u8v := by
    rw [← List.map_take, fillRow, List.take_append_of_le_length (by omega), List.take_of_length_le (by omega)]
  have e2 : ((fillRow D g).map u8v).drop (g * 3 + ((bytes3 N).map u8v).length) = (List.replicate (33 - 3 * (g + 1)) 0).map u8v := by
    rw [List.length_map, bytes3_length, ← List.map_drop, fillRow, List.drop_append, List.drop_of_length_le (by omega), List.nil_append, List.drop_replicate]
    congr 2
    omega
  rw [e1, e2, fillRow, ← List.map_append, ← List.map_append]
  congr 2
  unfold fill
  rw [flat3_succ, hN]
theorem own_read {w : World} {B g n c : Nat} {l : List UInt8} (h : w.ownsRow B 5 1 (.slice (some ⟨g, 0, none⟩) n c) n (l.map u8v)) : ∀ j v, (l.map u8v)[j]? = some v → w.cell? ((⟨g, 0, none⟩ : Addr).add j) = some v := by
  intro j v hj
  have hlt : j < (l.map u8v).length := (List.getElem?_eq_some_iff.1 hj).1
  rw [Go.WideShapes.add_plain, Nat.zero_add, h.cellAt j (by have := h.1; omega), hj]
/-- the first 32 bytes of the 33 -/
theorem blk_read {w : World} {g t : Nat} {l : List UInt8} {r : List Value} (h : Blk w g t (l.map u8v ++ r)) : ∀ j v, (l.map u8v)[j]? = some v → w.cell? ((⟨g, 0, none⟩ : Addr).add j) = some v := by
  intro j v hj
  have hlt : j < (l.map u8v).length := (List.getElem?_eq_some_iff.1 hj).1
  rw [Go.WideShapes.add_plain, Nat.zero_add, h.cell, List.getElem?_append_left hlt, hj]
theorem digits_string (S : ByteArray) (l : List UInt8) (hS : S = ⟨l.toArray⟩) : S.extract 0 43 ++ ByteArray.extract ⟨#[65, 66, 67, 68, 69, 70, 71, 72, 73, 74, 75, 76, 77, 78, 79, 80, 81, 82, 83, 84, 85, 86, 87, 88, 89, 90, 97, 98, 99, 100, 101, 102, 103, 104, 105, 106, 107, 108, 109, 110, 111, 112, 113, 114, 115, 116, 117, 118, 119, 120, 121, 122, 48, 49, 50, 51, 52, 53, 54, 55, 56, 57, 43, 47]⟩ 0 1 = ⟨(digitsOf l).toArray⟩ := by
  have e2 : ByteArray.extract ⟨#[65, 66, 67, 68, 69, 70, 71, 72, 73, 74, 75, 76, 77, 78, 79, 80, 81, 82, 83, 84, 85, 86, 87, 88, 89, 90, 97, 98, 99, 100, 101, 102, 103, 104, 105, 106, 107, 108, 109, 110, 111, 112, 113, 114, 115, 116, 117, 118, 119, 120, 121, 122, 48, 49, 50, 51, 52, 53, 54, 55, 56, 57, 43, 47]⟩ 0 1 = ⟨#[65]⟩ := by decide +kernel
  subst hS
  rw [e2]
  apply Go.WideShapes.bytes_inj
  rw [Go.Joins.data_append, Lib.extract_data]
  simp [digitsOf]
theorem grp_string (D : ByteArray) (d : List UInt8) (hD : D = ⟨d.toArray⟩) (g : Nat) : D.extract (g * 4) ((g + 1) * 4) = ⟨(grp d g).toArray⟩ := by
  subst hD
  apply Go.WideShapes.bytes_inj
  rw [Lib.extract_data]
  simp [grp]
  congr 1
  omega

set_option maxRecDepth 100000 in
set_option maxHeartbeats 2000000 in
theorem parseKey_main (S : ByteArray) (l : List UInt8) (hS : S = ⟨l.toArray⟩) (hn : l.length = 44) (h : l.getD 43 0 = 61) (w : World) :
    Calls Try.prog 26 #[.string S] w (KeyRes l w) := by
  obtain ⟨i0, hi, hz0, hz1, hz2⟩ := info_parts Try.info5
  obtain ⟨hsz, hat⟩ := string_at S l hS
  have hs44 : S.size = 44 := by rw [hsz, hn]
  have hI : ∀ h, S[43]'h = 61 := fun _ => by rw [hat, h]
  have HDS := Lib.hid (digits_string S l hS)
  have HN := Lib.hid hn
  have H61 := Lib.hid h
  have HDL := Lib.hid (digits_length l hn)
  clear hS hn h hsz hat
  go_enter Try.func26, Try.ntmps26
  go_wp2_with fail
  go_region
  generalize hD : S.extract 0 43 ++ _ = D
  have HD := Lib.hid (show D = ⟨(digitsOf l).toArray⟩ by rw [← hD, HDS.out])
  clear hD HDS
  generalize hW : w.alloc _ = W
  have hb1 : Blk W w.heap.size 33 (zeros 32) := by rw [← hW]; exact Blk.new w 33 (zeros 32)
  have hbw0 : Below w.heap.size w W := by rw [← hW]; exact (Below.refl _ _).alloc (Nat.le_refl _) _
  have hsW : w.heap.size + 1 = W.heap.size := by rw [← hW]; simp
  have HsW := Lib.hid hsW
  have hDs : D.size = 44 := by rw [HD.out]; simp [ByteArray.size, HDL.out]
  clear hW hsW
  have hlw : w.heap.size < W.heap.size := by have := HsW.out; omega
  go_wp2_with fail
  generalize hW1 : World.drew _ = W1
  have c1 : Blk W1 w.heap.size 33 (zeros 32) := by rw [← hW1]; exact (hb1.alloc _).drew
  have c2 : Blk W1 W.heap.size 50 (zeros 33) := by rw [← hW1]; exact (Blk.new W 50 (zeros 33)).drew
  have hbw1 : Below w.heap.size w W1 := by rw [← hW1]; exact (hbw0.alloc (by omega) _).drew
  have C1 := Lib.hid c1
  have C2 := Lib.hid c2
  have HBW := Lib.hid hbw1
  clear hW1 c1 c2 hbw1 hb1 hbw0
  go_loopw [23] (fun i wr => ∃ g : Nat, g ≤ 11 ∧ i = .int .i64 g ∧ Hid (allOk (digitsOf l) g = true) ∧ Blk wr W.heap.size 50 ((fillRow (digitsOf l) g).map u8v) ∧ Blk wr w.heap.size 33 (zeros 32) ∧ Below w.heap.size w wr) (fun i _ => 11 - (intOf i).toNat)
  case atStart =>
    refine ⟨0, by omega, rfl, Lib.hid rfl, ?_, C1.out, HBW.out⟩
    have h := C2.out
    have e : (fillRow (digitsOf l) 0).map u8v = zeros 33 := by rw [← zeros_map]; rfl
    rw [e]
    exact h
  case round =>
    obtain ⟨g, hg, rfl, hok, hbF, hbK, hbw⟩ := hrel
    by_cases hlt : g < 11
    · have hgs := grp_string D (digitsOf l) HD.out g
      have hg4 : (grp (digitsOf l) g).length = 4 := by simp [grp, HDL.out]; omega
      obtain ⟨b, hb⟩ : ∃ b, grpOk (grp (digitsOf l) g) = b := ⟨_, rfl⟩
      obtain ⟨N, hN⟩ : ∃ N, N = (if b then grpN (grp (digitsOf l) g) else 0) := ⟨_, rfl⟩
      have HR := Lib.hid (fun w' : World => readGroup_any _ (grp (digitsOf l) g) hgs hg4 b N hb hN w')
      have HBB := Lib.hid hb
      have HNN := Lib.hid hN
      have hN24 : N < 16777216 := by
        rw [hN]
        have := grpN_lt (grp (digitsOf l) g)
        rw [hg4] at this
        split
        · exact this
        · omega
      have s1 : (g : Int) * 4 ≤ ((g : Int) + 1) * 4 := by omega
      have s2 : ((g : Int) + 1) * 4 ≤ 44 := by omega
      have BW := Lib.hid hbw
      clear hgs hg4 hb hN hbw
      rcases b with _ | _
      · have hnone : parseK l = none := by
          unfold parseK
          rw [if_pos ⟨HN.out, H61.out⟩, if_neg]
          rintro ⟨h, _⟩
          unfold allOk at h
          rw [List.all_eq_true] at h
          have := h g (List.mem_range.2 hlt)
          rw [HBB.out] at this
          cases this
        have HNO := Lib.hid hnone
        clear hnone
        go_wp2_with fail
        refine (HR.out _).mono ?_
        rintro e w2 ⟨rfl, rfl⟩
        go_wp2_with (refine wpList_store_blk rfl 33 (.tmp 2) (.tmp 39) rfl w.heap.size (zeros 32) rfl rfl 33 (zeros 32) hbK (by kernel_rfl) rfl (zeros_one 32) ?_; intro w9 hb9 hg9)
        refine bodyPost_ret (results_key rfl _ _ w.heap.size 33 (zeros 32) 32 5 rfl hb9 Try.underlying33 (by kernel_rfl)) rfl (.inr ⟨HNO.out, by rw [zeros_key]; rfl, below_blk BW.out hg9 (Nat.le_refl _)⟩)
      · have HB := Lib.hid (big_any N (by omega) 3 (by omega) (by omega))
        have hwr : IntKind.i64.wrap ((g : Int) * 3) = (g : Int) * 3 := IntWalk.i64_in _ (by omega)
        have hsl : ∀ w' : World, (Instr.sliceAt 50 (.pointer (some ⟨W.heap.size, 0, none⟩)) (some (.int .i64 ((g : Int) * 3))) none none).run Try.prog w' = .ok (.slice (some ⟨W.heap.size, g * 3, none⟩) (33 - g * 3) (33 - g * 3)) w' :=
          fun w' => run_slice_array_from (P := Try.prog) w' 50 5 33 Try.underlying50 i0 hi hz1 W.heap.size .i64 (g * 3) ((g : Int) * 3) (by omega) (by omega)
        go_wp2_with fail
        refine (HR.out _).mono ?_
        rintro e w2 ⟨rfl, rfl⟩
        go_wp2_with fail
        refine wp_region_held_drew (S := fun _ => True) (by kernel_rfl) (trivial) (fun hHeld => ?_)
        refine take_first (v := ?_) 0 rfl (by kernel_rfl) (by kernel_rfl) (by kernel_rfl) (fun _ _ _ h => h) (Or.inl ⟨by rfl, ?_⟩) (by assumption) ?_
        rotate_left
        · (intro w hSw; (try dsimp only at hSw); go_simp; try with_reducible rfl)
        (try simp only [Act.put, List.setIfInBounds_toArray, List.set_cons_zero, List.set_cons_succ])
        refine take_first (v := ?_) 1 rfl (by kernel_rfl) (by kernel_rfl) (by kernel_rfl) (fun _ _ _ h => h) (Or.inl ⟨by rfl, ?_⟩) (by assumption) ?_
        rotate_left
        · (intro w hSw; (try dsimp only at hSw); go_simp; try with_reducible rfl)
        (try simp only [Act.put, List.setIfInBounds_toArray, List.set_cons_zero, List.set_cons_succ])
        refine take_first (v := ?_) 2 rfl (by kernel_rfl) (by kernel_rfl) (by kernel_rfl) (fun _ _ _ h => h) (Or.inl ⟨by rfl, ?_⟩) (by assumption) ?_
        rotate_left
        · (intro w hSw; (try dsimp only at hSw); go_simp; try with_reducible rfl)
        (try simp only [Act.put, List.setIfInBounds_toArray, List.set_cons_zero, List.set_cons_succ])
        refine take_first (v := ?_) 3 rfl (by kernel_rfl) (by kernel_rfl) (by kernel_rfl) (fun _ _ _ h => h) (Or.inl ⟨by rfl, ?_⟩) (by assumption) ?_
        rotate_left
        · (intro w hSw; (try dsimp only at hSw); go_simp; try with_reducible rfl)
        (try simp only [Act.put, List.setIfInBounds_toArray, List.set_cons_zero, List.set_cons_succ])
        refine step_one 4 rfl (by kernel_rfl) (fun K hK => ?_)
        go_simp
        refine (HB.out _).mono ?_
        rintro e w3 ⟨rfl, hown3, hbel⟩
        go_wp2_with fail
        refine hK.out _ _ (trivial) (fun hHeld => ?_)
        clear hK K
        (try simp only [Act.put, List.setIfInBounds_toArray, List.set_cons_zero, List.set_cons_succ])
        refine step_one 5 rfl (by kernel_rfl) (fun K hK => ?_)
        refine step_copy_bytes _ rfl (.tmp 42) (.tmp 44) 23 23 (by rfl) 5 Try.underlying23 (by kernel_rfl) W.heap.size (g * 3) (33 - g * 3) (33 - g * 3) ⟨wr.heap.size, 0, none⟩ 3 3 (by rfl) (by rfl) ((fillRow (digitsOf l) g).map u8v) 50 (hbF.drew.below hbel hbF.lt) ((bytes3 N).map u8v) (by rw [List.length_map, bytes3_length]; show 3 = min 3 (33 - g * 3); omega) (own_read hown3) (by rw [List.length_map, List.length_map, bytes3_length, fillRow_length _ g hg]; omega) (u8v_one _) ?_
        intro w4 hb4 hg4
        refine hK.out _ _ (trivial) (fun hHeld => ?_)
        clear hK K
        (try simp only [Act.put, List.setIfInBounds_toArray, List.set_cons_zero, List.set_cons_succ])
        refine wpAnyH_done (by kernel_rfl) ?_ _
        have BW4 := Lib.hid (below_blk ((BW.out.drew).trans (hbel.mono BW.out.drew.size)) hg4 (by omega))
        have hbK4 := ((hbK.drew).below hbel hbK.drew.lt).grown hg4 (by simp; omega)
        have hN' : grpN (grp (digitsOf l) g) = N := by rw [HNN.out]; rfl
        rw [fillRow_step (digitsOf l) g N hlt hN'] at hb4
        have HB4 := Lib.hid hb4
        have HK4 := Lib.hid hbK4
        clear hb4 hg4 hbK4 hbel hown3 hHeld hbF hbK hN'
        go_wp2
        go_roundw
        case rel => exact ⟨g + 1, by omega, by go_num, Lib.hid (by rw [allOk_succ, hok.out, HBB.out]; rfl), HB4.out, HK4.out, BW4.out⟩
        case measure => simp [intOf]; omega
    · obtain rfl : g = 11 := by omega
      have hF : fillRow (digitsOf l) 11 = fill (digitsOf l) 11 := by simp [fillRow]
      rw [hF] at hbF
      have hFl := fill_length (digitsOf l) 11
      obtain ⟨x, hx⟩ : ∃ x, (fill (digitsOf l) 11).getD 32 0 = x := ⟨_, rfl⟩
      have hcx : wr.cell? ⟨W.heap.size, 32, none⟩ = some (.int .u8 (x.toNat : Int)) := by
        rw [hbF.cell 32, map_u8v_getElem? _ 32 (by omega), ← hx, getD_lt (by omega)]
      have HX := Lib.hid hx
      have HFL := Lib.hid hFl
      have BW := Lib.hid hbw
      clear hF hFl hx hbw
      by_cases hx0 : x.toNat = 0
      · obtain ⟨q, hq⟩ : ∃ q, (fill (digitsOf l) 11).take 32 = q := ⟨_, rfl⟩
        have hq32 : q.length = 32 := by rw [← hq, List.length_take, HFL.out]; rfl
        have hsome : parseK l = some q := by
          unfold parseK
          rw [if_pos ⟨HN.out, H61.out⟩, if_pos ⟨hok.out, by rw [HX.out]; exact UInt8.toNat_inj.1 (by rw [hx0]; rfl)⟩, hq]
        have HSO := Lib.hid hsome
        have HQ := Lib.hid hq32
        obtain ⟨r, hr⟩ : ∃ r, (fill (digitsOf l) 11).map u8v = q.map u8v ++ r := ⟨((fill (digitsOf l) 11).drop 32).map u8v, by rw [← hq, ← List.map_append, List.take_append_drop]⟩
        rw [hr] at hbF
        have hx0' : (x.toNat : Int) = 0 := by omega
        clear hsome hq hq32 hr hx0
        go_wp2_with fail
        generalize hW5 : wr.alloc _ = W5
        have k1 : Blk W5 wr.heap.size 33 (zeros 32) := by rw [← hW5]; exact Blk.new wr 33 (zeros 32)
        have k2 : Blk W5 W.heap.size 50 (q.map u8v ++ r) := by rw [← hW5]; exact hbF.alloc _
        have k3 : Blk W5 w.heap.size 33 (zeros 32) := by rw [← hW5]; exact hbK.alloc _
        have k4 : Below w.heap.size w W5 := by rw [← hW5]; exact BW.out.alloc (BW.out.size) _
        have hl1 : W.heap.size < wr.heap.size := hbF.lt
        have K1 := Lib.hid k1
        have K2 := Lib.hid k2
        have K3 := Lib.hid k3
        have K4 := Lib.hid k4
        clear hW5 k1 k2 k3 k4 hbF hbK hcx
        refine wp_region_held_drew (S := fun _ => True) (by kernel_rfl) (trivial) (fun hHeld => ?_)
        refine take_first (v := ?_) 0 rfl (by kernel_rfl) (by kernel_rfl) (by kernel_rfl) (fun _ _ _ h => h) (Or.inl ⟨by rfl, ?_⟩) (by assumption) ?_
        rotate_left
        · (intro w hSw; (try dsimp only at hSw); go_simp; try with_reducible rfl)
        (try simp only [Act.put, List.setIfInBounds_toArray, List.set_cons_zero, List.set_cons_succ])
        refine take_first (v := ?_) 1 rfl (by kernel_rfl) (by kernel_rfl) (by kernel_rfl) (fun _ _ _ h => h) (Or.inl ⟨by rfl, ?_⟩) (by assumption) ?_
        rotate_left
        · (intro w hSw; (try dsimp only at hSw); go_simp; try with_reducible rfl)
        (try simp only [Act.put, List.setIfInBounds_toArray, List.set_cons_zero, List.set_cons_succ])
        refine step_one 2 rfl (by kernel_rfl) (fun K hK => ?_)
        refine step_copy_bytes _ rfl (.tmp 51) (.tmp 52) 23 23 (by rfl) 5 Try.underlying23 (by kernel_rfl) wr.heap.size 0 32 32 ⟨W.heap.size, 0, none⟩ 33 33 (by rfl) (by rfl) (zeros 32) 33 K1.out.drew (q.map u8v) (by simp [HQ.out]) (blk_read K2.out.drew) (by simp [HQ.out, zeros]) (u8v_one _) ?_
        intro w6 hb6 hg6
        refine hK.out _ _ (trivial) (fun hHeld => ?_)
        clear hK K
        (try simp only [Act.put, List.setIfInBounds_toArray, List.set_cons_zero, List.set_cons_succ])
        refine wpAnyH_done (by kernel_rfl) ?_ _
        have m1 : q.map u8v = (zeros 32).take 0 ++ q.map u8v ++ (zeros 32).drop (0 + (q.map u8v).length) := by simp [HQ.out, zeros]
        rw [← m1] at hb6
        have k5 := (K3.out.drew).grown hg6 (by simp; omega)
        have k6 := Lib.hid (below_blk (K4.out.drew) hg6 (by omega))
        clear hg6 hHeld m1
        go_wp2_with (first | (refine wpList_load_blk rfl 33 (.tmp 9) rfl wr.heap.size rfl 33 (q.map u8v) hb6 32 5 Try.underlying33 (by rw [List.length_map, HQ.out]; exact key_size) ?_) | (refine wpList_store_blk rfl 33 (.tmp 2) (.tmp 54) rfl w.heap.size (q.map u8v) rfl rfl 33 (zeros 32) k5 (by rw [List.length_map, HQ.out]; exact key_size) (by simp [HQ.out, zeros]) (u8v_one _) ?_; intro w9 hb9 hg9))
        refine bodyPost_ret (results_key rfl _ _ w.heap.size 33 (q.map u8v) 32 5 rfl hb9 Try.underlying33 (by rw [List.length_map, HQ.out]; exact key_size)) rfl (.inl ⟨q, HSO.out, rfl, below_blk k6.out hg9 (Nat.le_refl _)⟩)
      · have hnone : parseK l = none := by
          unfold parseK
          rw [if_pos ⟨HN.out, H61.out⟩, if_neg]
          rintro ⟨_, h⟩
          rw [HX.out] at h
          apply hx0
          rw [h]
          rfl
        have HNO := Lib.hid hnone
        have hx0' : ¬ (x.toNat : Int) = 0 := by omega
        clear hnone hx0
        go_wp2_with (refine wpList_store_blk rfl 33 (.tmp 2) (.tmp 50) rfl w.heap.size (zeros 32) rfl rfl 33 (zeros 32) hbK (by kernel_rfl) rfl (zeros_one 32) ?_; intro w9 hb9 hg9)
        refine bodyPost_ret (results_key rfl _ _ w.heap.size 33 (zeros 32) 32 5 rfl hb9 Try.underlying33 (by kernel_rfl)) rfl (.inr ⟨HNO.out, by rw [zeros_key]; rfl, below_blk BW.out hg9 (Nat.le_refl _)⟩)
end Go.Proofs.Ytdnmbabofkiiiaa
