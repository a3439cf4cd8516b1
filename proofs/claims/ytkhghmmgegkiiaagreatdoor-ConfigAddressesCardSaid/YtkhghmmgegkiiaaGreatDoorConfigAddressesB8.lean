/-
  strconv.FormatUint at base 16, for numbers of 16 bits: the library's own text walked. One round of reading a number: bits joined. The contract of codec.ReadBig: the number of bytes, the most significant one first. The contract of config's formatSix. The contracts of inner's size and first: how many bits an address has, and an address without the bits behind the first ones. The contracts of inner's size, first and address. No statement is proved here.
-/
import Derived.Laws.BitsAllLaws
import Derived.Deep.DeepCutAuto
import Derived.Laws.Bits64
import Derived.Outline
import Derived.RegionTactic
import Derived.Test.YtkhghmmgegkiiaaGreatDoorConfigAddressesB7
namespace Go.Proofs.YtkhghmmgegkiiaaGreatDoor
open Go.RowKit

set_option maxRecDepth 100000 in
theorem pow_any (w : World) : Calls Tryz.prog 172 #[.int .i64 16] w fun e w' => e = .returned (.bool true) ∧ w = w' := by
  have h1 : IntKind.i64.wrap (16 - 1) = 15 := by decide
  have h2 : bits BinOp.and IntKind.i64 16 15 = 0 := by decide
  go_enter Tryz.func172, Tryz.ntmps172
  go_wp2
  go_ret
  exact ⟨rfl, rfl⟩
set_option maxRecDepth 100000 in
theorem trail64_any (w : World) (h : w.cell? ⟨7, 15, none⟩ = some (.int .u8 4)) : Calls Tryz.prog 192 #[.int .u64 16] w fun e w' => e = .returned (.int .i64 4) ∧ w = w' := by
  have h1 : IntKind.u64.wrap (-16) = 18446744073709551600 := by decide
  have h2 : bits BinOp.and IntKind.u64 16 18446744073709551600 = 16 := by decide
  have h3 : IntKind.u64.wrap (16 * 285870213051353865) = 4573923408821661840 := by decide
  have h4 : IntKind.i64.wrap 4 = 4 := by decide
  go_enter Tryz.func192, Tryz.ntmps192
  go_wp2
  go_ret
  exact ⟨rfl, rfl⟩
set_option maxRecDepth 100000 in
theorem trail_any (w : World) (h : w.cell? ⟨7, 15, none⟩ = some (.int .u8 4)) : Calls Tryz.prog 173 #[.int .u64 16] w fun e w' => e = .returned (.int .i64 4) ∧ w = w' := by
  go_enter Tryz.func173, Tryz.ntmps173
  go_wp2_with fail
  refine (trail64_any w h).mono ?_
  rintro e w' ⟨rfl, rfl⟩
  go_wp2
  go_ret
  exact ⟨rfl, rfl⟩
def digS : ByteArray := ⟨#[48, 49, 50, 51, 52, 53, 54, 55, 56, 57, 97, 98, 99, 100, 101, 102, 103, 104, 105, 106, 107, 108, 109, 110, 111, 112, 113, 114, 115, 116, 117, 118, 119, 120, 121, 122]⟩
theorem digS_at : ∀ d : Fin 16, digS.data[d.val]! = hexD d.val := by decide
theorem digS_in (d : Nat) (h : d < 16) : ∀ hh, digS[d]'hh = hexD d := fun hh => by
  rw [← digS_at ⟨d, h⟩]
  exact (getElem!_pos digS.data d hh).symm
/-- the row of digits, filled from its end -/
def hexRow (t : List UInt8) : List Value := (List.replicate (65 - t.length) (0 : UInt8) ++ t).map u8v
theorem hexRow_set (t : List UInt8) (d : UInt8) (h : t.length < 65) : (hexRow t).set (64 - t.length) (.int .u8 (d.toNat : Int)) = hexRow (d :: t) := by
  rw [hexRow, hexRow, List.map_append, List.map_append, List.set_append_left _ _ (by simp; omega), show 65 - t.length = 64 - t.length + 1 from by omega, List.replicate_succ', List.map_append, List.set_append_right _ _ (by simp), List.length_map, List.length_replicate, Nat.sub_self, List.length_cons, show 65 - (t.length + 1) = 64 - t.length from by omega]
  simp [u8v]
set_option maxRecDepth 100000 in
theorem array65_from (g q : Nat) (hq : q ≤ 64) (w : World) :
    (Instr.sliceAt 193 (.pointer (some ⟨g, 0, none⟩)) (some (.int .i64 (q : Int))) none none).run Tryz.prog w = .ok (.slice (some ⟨g, q, none⟩) (65 - q) (65 - q)) w := by
  have hs : (sizeOf 5).run Tryz.prog w = .ok 1 w := by
    obtain ⟨i0, hi, hz0, hz1, hz2⟩ := info_parts Tryz.info5
    simp [sizeOf, typeInfo, hi, hz1]
  have hl : Tryz.prog.arrayLen 193 = 65 := by kernel_rfl
  have he : Tryz.prog.elem 193 = 5 := by kernel_rfl
  rw [run_sliceAt_array_l (P := Tryz.prog) w 193 ⟨g, 0, none⟩ (by rw [hl, he]; exact Tryz.underlying193) .i64 (q : Int) (by omega) (by rw [hl]; omega), hl, he, hs]
  simp only [Result.andThen, slicedAt, Int.toNat_natCast, Go.WideShapes.add_plain, Nat.mul_one]
  rw [if_neg (by omega), Nat.zero_add]
set_option maxRecDepth 100000 in
set_option maxHeartbeats 8000000 in
theorem bits16_any (z : Nat) (hz : z < 65536) (w : World) (hlv : LvCf w) :
    Calls Tryz.prog 145 #[.slice none 0 0, .int .u64 (z : Int), .int .i64 16, .bool false, .bool false] w fun e w' => e = .returned (.tuple #[.slice none 0 0, .string ⟨(hexT z).toArray⟩]) ∧ Below w.heap.size w w' := by
  have HT := Lib.hid (fun W (hb : Below w.heap.size w W) => trail_any W (hlv.below hb).2.1)
  have HM := Lib.hid (show Mem w [blkE w.heap.size 193 (hexRow [])] (w.alloc (.cells Tryz.zeroCells193 193)) from (Mem.nil w).alloc rfl 193 Tryz.zeroCells193 (hexRow []) (by kernel_rfl))
  have hk1 : IntKind.u64.wrap 16 = 16 := by decide
  have hk2 : IntKind.u64.wrap 4 = 4 := by decide
  have hk3 : IntKind.u64.wrap (16 - 1) = 15 := by decide
  clear hlv
  go_enter Tryz.func145, Tryz.ntmps145
  go_wp2_with fail
  refine (pow_any _).mono ?_
  rintro e w2 ⟨rfl, rfl⟩
  go_wp2_with fail
  generalize w.alloc (.cells Tryz.zeroCells193 193) = w1 at HM ⊢
  refine (HT.out _ HM.out.bel).mono ?_
  rintro e w2 ⟨rfl, rfl⟩
  go_wp2_with fail
  go_loopw [1, 13] (fun u i wr => ∃ (n : Nat) (t : List UInt8), t.length ≤ 4 ∧ n < 16 ^ (4 - t.length) ∧ u = .int .u64 (n : Int) ∧ i = .int .i64 ((65 - t.length : Nat) : Int) ∧ Hid (hexT z = hexT n ++ t) ∧ Mem w [blkE w.heap.size 193 (hexRow t)] wr) (fun u _ _ => (intOf u).toNat)
  case atStart => exact ⟨z, [], by simp, by simpa using hz, rfl, rfl, Lib.hid (by simp), HM.out⟩
  case round =>
    obtain ⟨n, t, ht, hn, rfl, rfl, hx, hM⟩ := hrel
    replace HM := Lib.hid hM
    have hn16 : n < 65536 := Nat.lt_of_lt_of_le hn (Nat.le_trans (Nat.pow_le_pow_right (by omega) (show 4 - t.length ≤ 4 by omega)) (by decide))
    clear hM
    by_cases hge : 16 ≤ n
    · have ht3 : t.length ≤ 3 := by
        apply Nat.le_of_not_lt
        intro h
        have e : t.length = 4 := by omega
        rw [e] at hn
        simp at hn
        omega
      obtain ⟨q, hq⟩ : ∃ q, 64 - t.length = q := ⟨_, rfl⟩
      have hd16 : n % 16 < 16 := Nat.mod_lt _ (by omega)
      obtain ⟨d, hd⟩ : ∃ d, n % 16 = d := ⟨_, rfl⟩
      rw [hd] at hd16
      have hI := digS_in d hd16
      unfold digS at hI
      have HD := Lib.hid (show hexT n = hexT (n / 16) ++ [hexD d] from by rw [hexT_big (by omega), hd])
      have hw1 : IntKind.i64.wrap (((65 - t.length : Nat) : Int) - 1) = (q : Int) := by rw [IntWalk.i64_in _ (by omega)]; omega
      have hand : bits BinOp.and IntKind.u64 (n : Int) 15 = (d : Int) := by
        rw [show (15 : Int) = ((15 : Nat) : Int) from rfl, u64_and_nat n 15 (by omega) (by omega), show (15 : Nat) = 2 ^ 4 - 1 from rfl, Nat.and_two_pow_sub_one_eq_mod]
        omega
      have hset := hexRow_set t (hexD d) (by omega)
      rw [hq] at hset
      have HSET := Lib.hid hset
      have fx : wr.cell? ⟨w.heap.size, q, none⟩ = some (.int .u8 0) := by
        rw [(HM.out.blk 0 rfl).cell q, hexRow, List.map_append, List.getElem?_append_left (by simp; omega), List.getElem?_map, List.getElem?_replicate, if_pos (by omega)]
        rfl
      have zx := (HM.out.blk 0 rfl).frozen q
      have hq65 : (q : Int) < 65 := by omega
      have hd36 : (d : Int) < 36 := by omega
      obtain ⟨x, hxd⟩ : ∃ x, hexD d = x := ⟨_, rfl⟩
      rw [hxd] at hI HD HSET
      obtain ⟨m, hm⟩ : ∃ m, n / 16 = m := ⟨_, rfl⟩
      have hmi : (n : Int) / 16 = (m : Int) := by omega
      have HN := Lib.hid hn
      have HQ := Lib.hid hq
      have HMM := Lib.hid hm
      rw [hm] at HD
      clear hset hxd hd hn hq hm
      go_wp2
      have hm2 := HM.out.setCell 0 rfl q (.int .u8 (x.toNat : Int))
      rw [HSET.out] at hm2
      refine ⟨⟨m, x :: t, by simp only [List.length_cons]; omega, ?_, rfl, by rw [show 65 - (x :: t).length = q from by rw [List.length_cons, ← HQ.out]; omega], Lib.hid (by rw [hx.out, HD.out]; simp), hm2⟩, by simp [intOf]; have := HMM.out; omega⟩
      have h1 := HN.out
      rw [show 4 - t.length = (4 - (t.length + 1)) + 1 from by omega, Nat.pow_succ] at h1
      have := HMM.out
      simp only [List.length_cons]
      omega
    · obtain ⟨q, hq⟩ : ∃ q, 64 - t.length = q := ⟨_, rfl⟩
      have hI := digS_in n (by omega)
      unfold digS at hI
      have HD := Lib.hid (show hexT n = [hexD n] from hexT_small (by omega))
      have hw1 : IntKind.i64.wrap (((65 - t.length : Nat) : Int) - 1) = (q : Int) := by rw [IntWalk.i64_in _ (by omega)]; omega
      have hset := hexRow_set t (hexD n) (by omega)
      rw [hq] at hset
      have HSET := Lib.hid hset
      have fx : wr.cell? ⟨w.heap.size, q, none⟩ = some (.int .u8 0) := by
        rw [(HM.out.blk 0 rfl).cell q, hexRow, List.map_append, List.getElem?_append_left (by simp; omega), List.getElem?_map, List.getElem?_replicate, if_pos (by omega)]
        rfl
      have zx := (HM.out.blk 0 rfl).frozen q
      have hq65 : (q : Int) < 65 := by omega
      have hn36 : (n : Int) < 36 := by omega
      obtain ⟨x, hxd⟩ : ∃ x, hexD n = x := ⟨_, rfl⟩
      rw [hxd] at hI HD HSET
      have HQ := Lib.hid hq
      have HXX := Lib.hid (show hexT z = x :: t from by rw [hx.out, HD.out]; rfl)
      have hn16' : (n : Int) < 16 := by omega
      clear hset hxd hn hq hx
      go_upto_region 30 with (fail)
      have hm2 := HM.out.setCell 0 rfl q (.int .u8 (x.toNat : Int))
      rw [HSET.out] at hm2
      generalize wr.setCell ⟨w.heap.size, q, none⟩ (.int .u8 (x.toNat : Int)) = w3 at hm2 ⊢
      replace HM := Lib.hid hm2
      have hq1 : q ≤ 64 := by omega
      have hl : (x :: t).length = 65 - q := by rw [List.length_cons]; have := HQ.out; omega
      have hcv := run_convert_bytes_back (P := Tryz.prog) w3 22 9 5 ⟨w.heap.size, q, none⟩ (65 - q) (x :: t) Tryz.underlying22 Tryz.underlying5 Tryz.underlying9 (fun j hj => by
        have hc := (HM.out.blk 0 rfl).cell (q + j)
        rw [Go.WideShapes.add_plain, hc, hexRow, List.map_append, List.getElem?_append_right (by rw [List.length_map, List.length_replicate, List.length_cons]; have := HQ.out; omega), List.length_map, List.length_replicate, show q + j - (65 - (x :: t).length) = j from by rw [hl]; omega, List.getElem?_map, List.getElem?_eq_getElem hj]
        rfl)
      rw [hl] at hcv
      clear hm2 fx zx
      have h65 : ¬ (65 : Nat) = q := by omega
      have hsl : q ≤ 65 := by omega
      have hsa := array65_from w.heap.size q hq1 w3
      go_wp2_with fail
      go_ret2
      exact ⟨by rw [HXX.out]; rfl, HM.out.bel⟩
set_option maxRecDepth 100000 in
theorem fmtIn_any (z : Nat) (hz : z < 65536) (w : World) (hlv : LvCf w) :
    Calls Tryz.prog 115 #[.int .u64 (z : Int), .int .i64 16] w fun e w' => e = .returned (.string ⟨(hexT z).toArray⟩) ∧ Below w.heap.size w w' := by
  have HC := Lib.hid (bits16_any z hz w hlv)
  clear hlv hz
  go_enter Tryz.func115, Tryz.ntmps115
  go_wp2_with fail
  refine HC.out.mono ?_
  rintro e w' ⟨rfl, hb⟩
  have HB := Lib.hid hb
  clear hb HC
  go_wp2
  go_ret
  exact ⟨rfl, HB.out⟩
set_option maxRecDepth 100000 in
theorem fmtUint_any (z : Nat) (hz : z < 65536) (w : World) (hlv : LvCf w) :
    Calls Tryz.prog 84 #[.int .u64 (z : Int), .int .i64 16] w fun e w' => e = .returned (.string ⟨(hexT z).toArray⟩) ∧ Below w.heap.size w w' := by
  have HC := Lib.hid (fmtIn_any z hz w hlv)
  clear hlv hz
  go_enter Tryz.func84, Tryz.ntmps84
  go_wp2_with fail
  refine HC.out.mono ?_
  rintro e w' ⟨rfl, hb⟩
  have HB := Lib.hid hb
  clear hb HC
  go_wp2
  go_ret
  exact ⟨rfl, HB.out⟩
end Go.Proofs.YtkhghmmgegkiiaaGreatDoor
namespace Go.Proofs.YtkhghmmgegkiiaaGreatDoor
open Go.RowKit

/-- one round of ReadBig -/
theorem or64_big (a : Nat) (b : UInt8) : bits BinOp.or IntKind.u64 (IntKind.u64.wrap ((a : Int) % 18446744073709551616 * 256)) (IntKind.u64.wrap (b.toNat : Int)) = (((a * 256 + b.toNat) % 18446744073709551616 : Nat) : Int) := by
  have hb := b.toNat_lt
  have e1 : IntKind.u64.wrap ((a : Int) % 18446744073709551616 * 256) = (((a % 18446744073709551616 * 256) % 18446744073709551616 : Nat) : Int) := by
    rw [IntKind.wrap_u64]; omega
  have e2 : IntKind.u64.wrap (b.toNat : Int) = (b.toNat : Int) := by
    rw [IntKind.wrap_u64]; omega
  rw [e1, e2, u64_or_nat _ _ (by omega) (by omega), nat_join 8 _ _ (by omega) (by omega)]
  congr 1
  omega
end Go.Proofs.YtkhghmmgegkiiaaGreatDoor
namespace Go.Proofs.YtkhghmmgegkiiaaGreatDoor
open Go.RowKit

set_option maxRecDepth 100000 in
theorem readBig_any (B : Nat) (A : Option Addr) (n cap : Nat) (l : List UInt8) (hn : n ≤ 1000000) (w : World) (hr : Rd w B A n l) :
    Calls Tryz.prog 83 #[.slice A n cap] w fun e w' => e = .returned (.int .u64 (numB l % 18446744073709551616 : Nat)) ∧ w = w' := by
  have hl : l.length = n := hr.1
  have HR := Lib.hid hr
  have HL := Lib.hid hl
  clear hr hl
  go_enter Tryz.func83, Tryz.ntmps83
  go_wp2
  go_loop [3, 8, 5] (fun v i _ => ∃ j : Nat, j ≤ n ∧ i = .int .i64 j ∧ v = .int .u64 (numB (l.take j) % 18446744073709551616 : Nat)) (fun _ i _ => n - (intOf i).toNat)
  case atStart => exact ⟨0, by omega, rfl, rfl⟩
  case round =>
    obtain ⟨j, hj, rfl, rfl⟩ := hrel
    by_cases hlt : j < n
    · obtain ⟨b, off, rfl, _, hc⟩ := HR.out.at_ (by omega)
      have hlj : j < l.length := by have := HL.out; omega
      have hc1 := hc j hlj
      clear hc
      go_wp2
      go_round
      case rel => exact ⟨j + 1, by omega, by go_num, by rw [or64_big, numB_take_succ l j hlj]⟩
      case measure => simp [intOf]; omega
    · obtain rfl : j = n := by omega
      go_wp2
      go_ret
      exact ⟨ret_int (by rw [List.take_of_length_le (by have := HL.out; omega)]), rfl⟩
end Go.Proofs.YtkhghmmgegkiiaaGreatDoor
namespace Go.Proofs.YtkhghmmgegkiiaaGreatDoor
open Go.RowKit

set_option maxRecDepth 100000 in
set_option maxHeartbeats 4000000 in
theorem formatSix_any (ip : List UInt8) (hip : ip.length = 16) (w : World) (hlv : LvCf w) :
    Calls Tryz.prog 46 #[.agg (ip.map u8v).toArray] w fun e w' => e = .returned (.string ⟨(joinT 58 ((List.range 8).map fun i => hexT (256 * (ip.getD (2 * i) 0).toNat + (ip.getD (2 * i + 1) 0).toNat))).toArray⟩) ∧ Below w.heap.size w w' := by
  obtain ⟨i0, hti, hz0, hz1, hz2⟩ := info_parts (P := Tryz.prog) (e := 9) (z := .string ⟨#[]⟩) (size := 1) (bytes := 16) (by kernel_rfl)
  obtain ⟨f, hf⟩ : ∃ f : Nat → List UInt8, (fun i => hexT (256 * (ip.getD (2 * i) 0).toNat + (ip.getD (2 * i + 1) 0).toNat)) = f := ⟨_, rfl⟩
  have HF := Lib.hid (fun i => (congrFun hf i).symm)
  rw [hf]
  have HLV := Lib.hid hlv
  have HIP := Lib.hid hip
  obtain ⟨ca, hca⟩ : ∃ z, (ip.map u8v).toArray = z := ⟨_, rfl⟩
  rw [hca]
  have hm0 := (Mem.nil w).alloc rfl 23 ca (ip.map u8v) hca.symm
  have hsz0 : (w.alloc (.cells ca 23)).heap.size = w.heap.size + 1 := by simp
  have hmb := hm0.fix
  rw [hsz0] at hmb
  have HM := Lib.hid hmb
  have HS0 := Lib.hid hsz0
  clear hlv hip hm0 hmb hsz0 hca hf
  go_enter Tryz.func46, Tryz.ntmps46
  go_upto_region 1 with fail
  generalize w.alloc (.cells ca 23) = w1 at HM HS0 ⊢
  go_wp2_with fail
  go_loopw [3, 6] (fun v i wr => ∃ j : Nat, j ≤ 8 ∧ i = .int .i64 (j : Int) ∧ wr.ownsRow (w.heap.size + 1) 9 1 v j ((List.range j).map fun k => strV (f k)) ∧ MemB w (w.heap.size + 1) [blkE w.heap.size 23 (ip.map u8v)] wr) (fun _ i _ => 8 - (intOf i).toNat)
  case atStart => exact ⟨0, by omega, rfl, World.ownsRow_nil _ _ _ _, HM.out⟩
  case round =>
    obtain ⟨j, hj, rfl, hown, hM⟩ := hrel
    by_cases hlt : j < 8
    · obtain ⟨x, hx⟩ : ∃ x, ip.getD (2 * j) 0 = x := ⟨_, rfl⟩
      obtain ⟨y, hy⟩ : ∃ y, ip.getD (2 * j + 1) 0 = y := ⟨_, rfl⟩
      obtain ⟨p, hp⟩ : ∃ p, 2 * j = p := ⟨_, rfl⟩
      have hr : Rd wr wr.heap.size (some ⟨w.heap.size, p, none⟩) 2 [x, y] := by
        refine ⟨rfl, fun _ => ⟨w.heap.size, p, rfl, (hM.mem.blk 0 rfl).lt, fun k hk => ?_⟩⟩
        have h2 := ip_blk (hM.mem.blk 0 rfl) (p + k) (by have := HIP.out; simp only [List.length_cons, List.length_nil] at hk; omega)
        match k, hk with
        | 0, _ => rw [h2]; show _ = some (u8v x); rw [← hx, hp]; rfl
        | 1, _ => rw [h2]; show _ = some (u8v y); rw [← hy, hp]; rfl
      have HRB := Lib.hid (readBig_any wr.heap.size (some ⟨w.heap.size, p, none⟩) 2 (16 - p) [x, y] (by omega) wr hr)
      have hxb := x.toNat_lt
      have hyb := y.toNat_lt
      obtain ⟨z, hz⟩ : ∃ z, 256 * x.toNat + y.toNat = z := ⟨_, rfl⟩
      have HN := Lib.hid (show numB [x, y] % 18446744073709551616 = z from by rw [numB]; simp [numL]; omega)
      have HD := Lib.hid (show f j = hexT z from by rw [HF.out j, hx, hy, hz])
      have HFU := Lib.hid (fmtUint_any z (by omega) wr (HLV.out.below hM.mem.bel))
      replace HM := Lib.hid hM
      have HO := Lib.hid hown
      have hj0 : (0 : Int) ≤ (j : Int) := by omega
      have hw1 : IntKind.i64.wrap (2 * (j : Int)) = (p : Int) := by rw [IntWalk.i64_in _ (by omega)]; omega
      have hw2 : IntKind.i64.wrap ((j : Int) + 1) = (j : Int) + 1 := IntWalk.i64_in _ (by omega)
      obtain ⟨q, hq⟩ : ∃ q, p + 2 = q := ⟨_, rfl⟩
      have hw3 : IntKind.i64.wrap (2 * ((j : Int) + 1)) = (q : Int) := by rw [IntWalk.i64_in _ (by omega)]; omega
      have hq1 : (q : Int) ≤ 16 := by omega
      have hq2 : (p : Int) ≤ (q : Int) := by omega
      have hq3 : q - p = 2 := by omega
      have hq4 : p ≤ q := by omega
      have hq5 : q ≤ 16 := by omega
      have hp16 : ¬ (16 : Nat) = p := by omega
      clear hx hy hM hown hr hz
      have HPP := Lib.hid hp
      clear hp hq
      go_upto_region 5 with fail
      go_wp2_with fail
      refine HRB.out.mono ?_
      rintro e w5 ⟨rfl, rfl⟩
      rw [HN.out]
      clear HN HRB
      go_wp2_with fail
      refine HFU.out.mono ?_
      rintro e w5 ⟨rfl, hb⟩
      rw [← HD.out]
      obtain ⟨s, hs⟩ : ∃ z, f j = z := ⟨_, rfl⟩
      rw [hs]
      have HS := Lib.hid (show (List.range (j + 1)).map (fun k => strV (f k)) = (List.range j).map (fun k => strV (f k)) ++ [.string ⟨s.toArray⟩] from by rw [List.range_succ, List.map_append, ← hs]; rfl)
      replace HM := Lib.hid (HM.out.below (hb.mono HM.out.2.2))
      replace HO := Lib.hid (own_below HO.out hb)
      clear hb HFU hs
      go_wp2_with (at_builtin; refine wpList_append_own _ rfl (.tmp 16) (.tmp 19) 39 rfl (w.heap.size + 1) 9 i0 (.string ⟨#[]⟩) 1 16 Tryz.underlying39 hti hz0 hz1 hz2 rfl (by omega) _ j _ rfl (HO.out.alloc _) ⟨w5.heap.size, 0, none⟩ 1 1 [.string ⟨s.toArray⟩] rfl rfl (cell_str _ _ _) (fun u hu => by simp only [List.mem_singleton] at hu; subst hu; rfl) (by unfold maxLen; omega) (by omega) (by have := HM.out.2.2; simp; omega) ?_; intro v' w' hown' hg' _)
      replace HM := Lib.hid (MemB.grown (HM.out.below ((Below.refl _ _).alloc HM.out.2.2 _)) (HO.out.alloc _) hg')
      go_wp2
      go_roundw
      case rel => exact ⟨j + 1, by omega, by go_num, by rw [HS.out]; exact hown', HM.out⟩
      case measure => simp [intOf]; omega
    · obtain rfl : j = 8 := by omega
      obtain ⟨A, k, rfl, hA⟩ := own_slice hown
      obtain ⟨g, rfl⟩ := (own_addr hown).2.2 (by omega)
      have hl4 : ((List.range 8).map f).length = 8 := by simp
      have HJ := Lib.hid (join_c g k ((List.range 8).map f) 58 wr (by rw [List.map_map]; exact own_at hown) (own_top hown) (by omega) (fun x hx => by
        obtain ⟨i, _, rfl⟩ := List.mem_map.1 hx
        rw [HF.out i]
        exact Nat.le_trans (hexT_len _ 4 (by omega) (by have := (ip.getD (2 * i) 0).toNat_lt; have := (ip.getD (2 * i + 1) 0).toNat_lt; omega)) (by omega)) (by rw [hl4]; exact (own_addr hown).1))
      have HB := Lib.hid hM.mem.bel
      rw [hl4] at HJ
      clear hown hM hA
      go_wp2_with fail
      refine HJ.out.mono ?_
      rintro e w6 ⟨rfl, hb⟩
      replace HB := Lib.hid (HB.out.trans (hb.mono HB.out.size))
      clear hb HJ
      go_wp2
      go_ret
      exact ⟨rfl, HB.out⟩
end Go.Proofs.YtkhghmmgegkiiaaGreatDoor
namespace Go.Proofs.YtkhghmmgegkiiaaGreatDoor
open Go.RowKit

/-- a byte without the bits behind the first m -/
def cutByte (x : UInt8) (m : Nat) : UInt8 := x &&& ~~~(UInt8.ofNat (255 / 2 ^ m))
theorem cut_all : ∀ m : Fin 8, ∀ n : Fin 256, bits BinOp.andNot IntKind.u8 (n.val : Int) ((255 / 2 ^ m.val : Nat) : Int) = ((cutByte (UInt8.ofNat n.val) m.val).toNat : Int) := by decide +kernel
theorem cut_bits (x : UInt8) (m : Nat) (h : m < 8) : bits BinOp.andNot IntKind.u8 (x.toNat : Int) (255 / 2 ^ m) = ((cutByte x m).toNat : Int) := by
  have h1 := cut_all ⟨m, h⟩ ⟨x.toNat, x.toNat_lt⟩
  simp only [UInt8.ofNat_toNat] at h1
  rw [← h1, Int.natCast_ediv, Int.natCast_pow]
  rfl
theorem bit_cut_all : ∀ m : Fin 8, ∀ k : Fin 8, ∀ x : Fin 256, (cutByte (UInt8.ofNat x.val) m.val).toNat / 2 ^ (7 - k.val) % 2 = if k.val < m.val then x.val / 2 ^ (7 - k.val) % 2 else 0 := by decide +kernel
theorem bit_cut (x : UInt8) (m k : Nat) (hm : m < 8) (hk : k < 8) : (cutByte x m).toNat / 2 ^ (7 - k) % 2 = if k < m then x.toNat / 2 ^ (7 - k) % 2 else 0 := by
  have h := bit_cut_all ⟨m, hm⟩ ⟨k, hk⟩ ⟨x.toNat, x.toNat_lt⟩
  simp only [UInt8.ofNat_toNat] at h
  exact h
/-- an address without the bits behind the first k -/
def firstM (a : AddrM) (k : Nat) : AddrM := if k / 8 < 16 then ⟨a.six, (a.ip.set (k / 8) (cutByte (a.ip.getD (k / 8) 0) (k % 8))).take (k / 8 + 1) ++ List.replicate (15 - k / 8) 0⟩ else a
theorem firstM_ok (a : AddrM) (h : a.ok) (k : Nat) : (firstM a k).ok := by
  unfold firstM
  split
  · simp only [AddrM.ok, List.length_append, List.length_take, List.length_set, List.length_replicate]
    have : a.ip.length = 16 := h
    omega
  · exact h
theorem firstM_six (a : AddrM) (k : Nat) : (firstM a k).six = a.six := by unfold firstM; split <;> rfl
theorem firstM_bit (a : AddrM) (h : a.ok) (k i : Nat) (hi : i < 128) : bitM (firstM a k).ip i = if i < k then bitM a.ip i else 0 := by
  have hl : a.ip.length = 16 := h
  unfold firstM
  by_cases hk : k / 8 < 16
  · rw [if_pos hk]
    unfold bitM
    dsimp only
    rw [List.getD_eq_getElem?_getD, List.getElem?_append, List.length_take, List.length_set, List.getElem?_take]
    by_cases h1 : i / 8 < k / 8
    · rw [if_pos (by omega), if_pos (by omega), List.getElem?_set_ne (by omega), if_pos (by omega), ← List.getD_eq_getElem?_getD]
    · by_cases h2 : i / 8 = k / 8
      · rw [if_pos (by omega), if_pos (by omega), h2, List.getElem?_set_self (by omega), Option.getD_some, bit_cut _ _ _ (by omega) (by omega)]
        by_cases h3 : i % 8 < k % 8
        · rw [if_pos h3, if_pos (by omega)]
        · rw [if_neg h3, if_neg (by omega)]
      · rw [if_neg (by omega), if_neg (by omega), List.getElem?_replicate]
        split <;> simp
  · rw [if_neg hk, if_pos (by omega)]
/-- bytes whose bits are the same are the same -/
theorem byte_sum : ∀ x : Fin 256, x.val = 128 * (x.val / 2 ^ (7 - 0) % 2) + 64 * (x.val / 2 ^ (7 - 1) % 2) + 32 * (x.val / 2 ^ (7 - 2) % 2) + 16 * (x.val / 2 ^ (7 - 3) % 2) + 8 * (x.val / 2 ^ (7 - 4) % 2) + 4 * (x.val / 2 ^ (7 - 5) % 2) + 2 * (x.val / 2 ^ (7 - 6) % 2) + x.val / 2 ^ (7 - 7) % 2 := by decide +kernel
theorem byte_bits (x y : UInt8) (h : ∀ k, k < 8 → x.toNat / 2 ^ (7 - k) % 2 = y.toNat / 2 ^ (7 - k) % 2) : x = y := by
  have hx := byte_sum ⟨x.toNat, x.toNat_lt⟩
  have hy := byte_sum ⟨y.toNat, y.toNat_lt⟩
  simp only [] at hx hy
  rw [h 0 (by omega), h 1 (by omega), h 2 (by omega), h 3 (by omega), h 4 (by omega), h 5 (by omega), h 6 (by omega), h 7 (by omega), ← hy] at hx
  exact UInt8.toNat.inj hx
theorem ip_bits (l m : List UInt8) (hl : l.length = 16) (hm : m.length = 16) (h : ∀ i, i < 128 → bitM l i = bitM m i) : l = m := by
  apply List.ext_getElem (by omega)
  intro j h1 h2
  refine byte_bits _ _ (fun k hk => ?_)
  have := h (8 * j + k) (by omega)
  unfold bitM at this
  rw [show (8 * j + k) / 8 = j by omega, show (8 * j + k) % 8 = k by omega, List.getD_eq_getElem?_getD, List.getElem?_eq_getElem h1, List.getD_eq_getElem?_getD, List.getElem?_eq_getElem h2] at this
  exact this
instance : DecidableEq AddrM := fun a b => decidable_of_iff (a.six = b.six ∧ a.ip = b.ip) ⟨fun h => by cases a; cases b; simp_all, fun h => by rw [h]; exact ⟨rfl, rfl⟩⟩
theorem AddrM.ext_bits (a b : AddrM) (ha : a.ok) (hb : b.ok) (h6 : a.six = b.six) (h : ∀ i, i < 128 → bitM a.ip i = bitM b.ip i) : a = b := by
  have hi := ip_bits _ _ ha hb h
  cases a; cases b
  simp_all
theorem firstM_eq (a b : AddrM) (ha : a.ok) (hb : b.ok) (k : Nat) : firstM a k = b ↔ a.six = b.six ∧ ∀ i, i < 128 → (if i < k then bitM a.ip i else 0) = bitM b.ip i := by
  constructor
  · rintro rfl
    exact ⟨(firstM_six a k).symm, fun i hi => (firstM_bit a ha k i hi).symm⟩
  · rintro ⟨h6, h⟩
    exact AddrM.ext_bits _ _ (firstM_ok a ha k) hb ((firstM_six a k).trans h6) (fun i hi => (firstM_bit a ha k i hi).trans (h i hi))
theorem cells_inj (a b : AddrM) (h : a.cells = b.cells) : a = b := by
  cases a; cases b
  simp only [AddrM.cells, List.cons.injEq] at h
  obtain ⟨h1, h2⟩ := h
  injection h1 with h1
  subst h1
  congr 1
  refine List.map_inj_right ?_ |>.1 h2
  intro x y hxy
  have : ((x.toNat : Nat) : Int) = (y.toNat : Int) := by simpa [u8v] using hxy
  exact UInt8.toNat.inj (by omega)
/-- the bytes of IPv4 behind the fourth are zero exactly if the bits behind the 32nd are -/
theorem sound_first (a : AddrM) (h : a.ok) : soundM a = decide (firstM a (widthM a) = a) := by
  rw [Bool.eq_iff_iff, decide_eq_true_iff, firstM_eq a a h h]
  cases h6 : a.six with
  | true =>
    rw [soundM, h6, widthM, h6]
    simp only [Bool.true_or, true_and, true_iff, if_true]
    intro i hi
    rw [if_pos hi]
  | false =>
    rw [soundM_four a h h6, widthM, h6]
    simp only [true_and]
    constructor
    · intro hz i hi
      by_cases hlt : i < 32
      · rw [if_pos (by simpa using hlt)]
      · rw [if_neg (by simpa using hlt)]
        have := hz (i / 8 - 4) (by omega)
        rw [show 4 + (i / 8 - 4) = i / 8 by omega] at this
        rw [bitM, this]
        simp
    · intro hz j hj
      refine byte_bits _ _ (fun k hk => ?_)
      have := hz (8 * (4 + j) + k) (by omega)
      rw [if_neg (by simp; omega)] at this
      unfold bitM at this
      rw [show (8 * (4 + j) + k) / 8 = 4 + j by omega, show (8 * (4 + j) + k) % 8 = k by omega] at this
      rw [← this]
      simp
theorem valid_first (a : AddrM) (h : a.ok) (bits : Int) : validM a bits = (decide (0 ≤ bits) && (decide (bits ≤ (widthM a : Int)) && decide (firstM a bits.toNat = a))) := by
  by_cases h0 : 0 ≤ bits
  · by_cases h1 : bits ≤ (widthM a : Int)
    · rw [decide_eq_true h0, decide_eq_true h1, Bool.true_and, Bool.true_and, Bool.eq_iff_iff, decide_eq_true_iff, firstM_eq a a h h]
      constructor
      · intro hv
        have hs : soundM a = true := by rw [validM] at hv; exact (Bool.and_eq_true _ _ ▸ hv).1
        rw [validM_iff a bits hs h0 h1] at hv
        refine ⟨rfl, fun i hi => ?_⟩
        by_cases hlt : i < bits.toNat
        · rw [if_pos hlt]
        · rw [if_neg hlt, hv i (by omega) hi]
      · rintro ⟨_, hv⟩
        have hs : soundM a = true := by
          rw [sound_first a h, decide_eq_true_iff, firstM_eq a a h h]
          refine ⟨rfl, fun i hi => ?_⟩
          by_cases hlt : i < widthM a
          · rw [if_pos hlt]
          · have := hv i hi
            rw [if_neg (by omega)] at this
            rw [if_neg hlt, this]
        rw [validM_iff a bits hs h0 h1]
        intro i hb hi
        have := hv i hi
        rw [if_neg (by omega)] at this
        exact this.symm
    · rw [decide_eq_true h0, decide_eq_false h1, validM, decide_eq_true h0, decide_eq_false h1]
      simp
  · rw [decide_eq_false h0, validM, decide_eq_false h0]
    simp
theorem contains_first (a x : AddrM) (h : a.ok) (hx : x.ok) (bits : Int) : containsM a bits x = (validM a bits && (soundM x && decide (firstM x bits.toNat = a))) := by
  by_cases hv : validM a bits = true
  · by_cases hs : soundM x = true
    · rw [hv, hs, Bool.true_and, Bool.true_and]
      have hv2 := hv
      rw [valid_first a h, Bool.and_eq_true, Bool.and_eq_true, decide_eq_true_iff, decide_eq_true_iff, decide_eq_true_iff, firstM_eq a a h h] at hv2
      obtain ⟨h0, h1, _, h2⟩ := hv2
      by_cases h6 : x.six = a.six
      · rw [Bool.eq_iff_iff, containsM_iff a x bits hv hs (by rw [h6]; simp), decide_eq_true_iff, firstM_eq x a hx h]
        constructor
        · intro hc
          refine ⟨h6, fun i hi => ?_⟩
          by_cases hlt : i < bits.toNat
          · rw [if_pos hlt, hc i (by omega) hi]
          · have := h2 i hi
            rw [if_neg hlt] at this
            rw [if_neg hlt, this]
        · rintro ⟨_, hc⟩ i hb hi
          have := hc i hi
          rw [if_pos (by omega)] at this
          exact this
      · rw [containsM, hv, hs, show (x.six == a.six) = false by simpa using h6]
        simp only [Bool.true_and, Bool.false_and]
        refine (decide_eq_false fun e => h6 ?_).symm
        rw [← e, firstM_six]
    · rw [Bool.not_eq_true] at hs
      rw [hs, containsM, hs]
      simp
  · rw [Bool.not_eq_true] at hv
    rw [hv, containsM, hv]
    simp
end Go.Proofs.YtkhghmmgegkiiaaGreatDoor
namespace Go.Proofs.YtkhghmmgegkiiaaGreatDoor
open Go.RowKit

theorem run_clear_blk {P : Program} (w : World) (t e ty : TypeId) (ht : P.underlying t = some (.slice e)) (hv : ∀ w, (zeroValue e).run P w = .ok (.int .u8 0) w) (g off n c : Nat) (bt : TypeId) (old : List Value) (hg : Blk w g bt old) (hfit : off + n ≤ old.length) :
    ∃ w', (Builtin.clear_ #[t] ty #[.slice (some ⟨g, off, none⟩) n c]).run P w = .ok (.tuple #[]) w' ∧ Blk w' g bt (old.take off ++ List.replicate n (.int .u8 0) ++ old.drop (off + n)) ∧ w.grownBy w' (some g) := by
  cases n with
  | zero =>
    refine ⟨w, ?_, ?_, ⟨rfl, rfl, rfl, Nat.le_refl _, fun _ _ _ => rfl⟩⟩
    · simp [Builtin.clear_, run_underlying ht]
    · simp only [List.replicate_zero, List.append_nil, Nat.add_zero, List.take_append_drop]; exact hg
  | succ m =>
    have hst := run_storeCells_at P g off bt (List.replicate (m + 1) (Value.int .u8 0)) 0 old.toArray w hg (by simpa using hfit) (by intro v hv; rw [List.eq_of_mem_replicate hv]; rfl)
    rw [Nat.add_zero] at hst
    refine ⟨w.setRow g (old.toArray.toList.take off ++ List.replicate (m + 1) (Value.int .u8 0) ++ old.toArray.toList.drop (off + (List.replicate (m + 1) (Value.int .u8 0)).length)).toArray, ?_, ?_, ⟨rfl, rfl, rfl, by simp, fun k _ hk => setRow_other w g k _ (fun e => hk (by simp [e]))⟩⟩
    · have hz : (Builtin.zeroCells (Value.int .u8 0).cells (m + 1)).toList = List.replicate (m + 1) (.int .u8 0) := by
        apply List.ext_getElem
        · simp [Builtin.zeroCells, Value.cells]
        · intro i h1 h2; simp [Builtin.zeroCells, Value.cells, Nat.mod_one]
      simp only [Builtin.clear_, List.getElem?_toArray, List.getElem?_cons_zero, Sem.run_bind, run_underlying ht, Result.andThen_ok, hv, hz]
      rw [hst]
      rfl
    · have := setRow_heap w g old.toArray (old.toArray.toList.take off ++ List.replicate (m + 1) (Value.int .u8 0) ++ old.toArray.toList.drop (off + (List.replicate (m + 1) (Value.int .u8 0)).length)).toArray bt _ hg
      unfold Blk
      simpa using this
theorem wpList_clear_blk {P : Program} (w : World) {ops : Array Oper} {rest : List Oper} {o : Oper} {a : Act} {Q : Exit → Act → World → Prop} (hgd : o.guard = none) (d : Operand) (t e : TypeId)
    (ho : o.op = .call { callee := .builtin .clear, args := #[d], argTypes := #[t] }) (ht : P.underlying t = some (.slice e)) (hv : ∀ w, (zeroValue e).run P w = .ok (.int .u8 0) w)
    (g off n c : Nat) (hd : a.eval d = .slice (some ⟨g, off, none⟩) n c) (bt : TypeId) (old : List Value) (hg : Blk w g bt old) (hfit : off + n ≤ old.length)
    (h : ∀ w', Blk w' g bt (old.take off ++ List.replicate n (.int .u8 0) ++ old.drop (off + n)) → w.grownBy w' (some g) → wpList P ops Q rest (a.put o.dst (.tuple #[])) w') : wpList P ops Q (o :: rest) a w := by
  refine wpList_plain hgd fun K hK => ?_
  obtain ⟨w', hrun, h2, h3⟩ := run_clear_blk (P := P) w t e o.type ht hv g off n c bt old hg hfit
  unfold Oper.wp execOp
  simp only [ho, resolve, invoke, builtin, Sem.run_bind, Sem.run_pure, Result.andThen_ok, List.map_toArray, List.map_cons, List.map_nil, hd, hrun]
  exact hK _ _ (h w' h2 h3)

set_option maxRecDepth 100000 in
theorem size_any (a : AddrM) (w : World) :
    Calls Tryz.prog 86 #[.agg a.cells.toArray] w fun e w' => e = .returned (.int .i64 (widthM a : Int)) ∧ Below w.heap.size w w' := by
  obtain ⟨ca, hca⟩ : ∃ c, a.cells.toArray = c := ⟨_, rfl⟩
  rw [hca]
  have HM := Lib.hid (show Mem w [blkE w.heap.size 25 a.cells] (w.alloc (.cells ca 25)) from (Mem.nil w).alloc rfl 25 ca a.cells hca.symm)
  obtain ⟨sx, hsx⟩ : ∃ q, a.six = q := ⟨_, rfl⟩
  have HW := Lib.hid (show widthM a = if sx then 128 else 32 by rw [widthM, hsx])
  clear hca
  go_enter Tryz.func86, Tryz.ntmps86
  go_upto_region 1 with fail
  generalize w.alloc (.cells ca 25) = w1 at HM ⊢
  have f6 := ((HM.out.blk 0 rfl).cell 0).trans (AddrM.six_cell a)
  rw [hsx] at f6
  cases sx with
  | true =>
    go_wp2
    go_ret
    exact ⟨by rw [HW.out]; rfl, HM.out.bel⟩
  | false =>
    go_wp2
    go_ret
    exact ⟨by rw [HW.out]; rfl, HM.out.bel⟩
theorem firstM_cells (a : AddrM) (h : a.ok) (q m : Nat) (hq : q < 16) (k : Nat) (hk : k / 8 = q) (hm : k % 8 = m) (y : UInt8) (hy : cutByte (a.ip.getD q 0) m = y) :
    (AddrM.mk a.six (a.ip.set q y)).cells.take (1 + (q + 1)) ++ List.replicate (16 - (q + 1)) (.int .u8 0) ++ (AddrM.mk a.six (a.ip.set q y)).cells.drop (1 + (q + 1) + (16 - (q + 1))) = (firstM a k).cells := by
  have hl : a.ip.length = 16 := h
  rw [firstM, hk, hm, if_pos hq, hy]
  simp only [AddrM.cells]
  rw [List.drop_of_length_le (by rw [List.length_cons, List.length_map, List.length_set]; omega), List.append_nil, Nat.add_comm, List.take_succ_cons, List.map_append, List.map_take, List.map_replicate, show 16 - (q + 1) = 15 - q by omega]
  rfl
set_option maxRecDepth 100000 in
theorem u8_zero (w : World) : (zeroValue 5).run Tryz.prog w = .ok (.int .u8 0) w := by
  obtain ⟨i0, hi, hz0, hz1, hz2⟩ := info_parts Tryz.info5
  simp [zeroValue, typeInfo, hi, hz0]
set_option maxRecDepth 100000 in
theorem array_from (g q : Nat) (hq : q < 16) (off : Nat) (hoff : (if 16 - (q + 1) = 0 then 1 else 1 + (q + 1)) = off) (w : World) :
    (Instr.sliceAt 23 (.pointer (some ⟨g, 1, none⟩)) (some (.int .i64 ((q : Int) + 1))) none none).run Tryz.prog w = .ok (.slice (some ⟨g, off, none⟩) (16 - (q + 1)) (16 - (q + 1))) w := by
  have hs : (sizeOf 5).run Tryz.prog w = .ok 1 w := by
    obtain ⟨i0, hi, hz0, hz1, hz2⟩ := info_parts Tryz.info5
    simp [sizeOf, typeInfo, hi, hz1]
  have hl : Tryz.prog.arrayLen 23 = 16 := by kernel_rfl
  have he : Tryz.prog.elem 23 = 5 := by kernel_rfl
  rw [run_sliceAt_array_l (P := Tryz.prog) w 23 ⟨g, 1, none⟩ (by rw [hl, he]; exact Tryz.underlying23) .i64 ((q : Int) + 1) (by omega) (by rw [hl]; omega), hl, he, hs]
  have e : ((q : Int) + 1).toNat = q + 1 := by omega
  simp only [Result.andThen, slicedAt, e, Go.WideShapes.add_plain, Nat.mul_one]
  by_cases h : 16 = q + 1
  · rw [if_pos h, ← hoff, if_pos (by omega)]
  · rw [if_neg h, ← hoff, if_neg (by omega)]
theorem cut_off (q off : Nat) (cs : List Value) (hoff : (if 16 - (q + 1) = 0 then 1 else 1 + (q + 1)) = off) :
    cs.take off ++ List.replicate (16 - (q + 1)) (Value.int .u8 0) ++ cs.drop (off + (16 - (q + 1))) = cs.take (1 + (q + 1)) ++ List.replicate (16 - (q + 1)) (Value.int .u8 0) ++ cs.drop (1 + (q + 1) + (16 - (q + 1))) := by
  by_cases h : 16 - (q + 1) = 0
  · rw [h]; simp
  · rw [if_neg h] at hoff; subst hoff; rfl
set_option maxRecDepth 100000 in
set_option maxHeartbeats 4000000 in
theorem first_any (a : AddrM) (h : a.ok) (k : Nat) (hk : k ≤ 128) (w : World) :
    Calls Tryz.prog 87 #[.agg a.cells.toArray, .int .i64 (k : Int)] w fun e w' => e = .returned (.agg (firstM a k).cells.toArray) ∧ Below w.heap.size w w' := by
  obtain ⟨ca, hca⟩ : ∃ x, a.cells.toArray = x := ⟨_, rfl⟩
  rw [hca]
  have HM := Lib.hid (show Mem w [blkE (w.heap.size + 1) 25 (.bool false :: (List.replicate 16 (0 : UInt8)).map u8v), blkE w.heap.size 25 a.cells] ((w.alloc (.cells ca 25)).alloc (.cells #[.bool false, .int .u8 0, .int .u8 0, .int .u8 0, .int .u8 0, .int .u8 0, .int .u8 0, .int .u8 0, .int .u8 0, .int .u8 0, .int .u8 0, .int .u8 0, .int .u8 0, .int .u8 0, .int .u8 0, .int .u8 0, .int .u8 0] 25)) from ((Mem.nil w).alloc rfl 25 ca a.cells hca.symm).alloc (by simp) 25 #[.bool false, .int .u8 0, .int .u8 0, .int .u8 0, .int .u8 0, .int .u8 0, .int .u8 0, .int .u8 0, .int .u8 0, .int .u8 0, .int .u8 0, .int .u8 0, .int .u8 0, .int .u8 0, .int .u8 0, .int .u8 0, .int .u8 0] _ rfl)
  have HO := Lib.hid h
  have HF := Lib.hid (firstM_ok a h k)
  obtain ⟨q, hq⟩ : ∃ q, k / 8 = q := ⟨_, rfl⟩
  obtain ⟨m, hm⟩ : ∃ q, k % 8 = q := ⟨_, rfl⟩
  have hqI : (k : Int) / 8 = (q : Int) := by omega
  have hmI : (k : Int) % 8 = (m : Int) := by omega
  go_enter Tryz.func87, Tryz.ntmps87
  go_upto_region 1 with fail
  generalize ((w.alloc (.cells ca 25)).alloc (.cells #[.bool false, .int .u8 0, .int .u8 0, .int .u8 0, .int .u8 0, .int .u8 0, .int .u8 0, .int .u8 0, .int .u8 0, .int .u8 0, .int .u8 0, .int .u8 0, .int .u8 0, .int .u8 0, .int .u8 0, .int .u8 0, .int .u8 0] 25)) = w1 at HM ⊢
  by_cases hlt : q < 16
  · have hm8 : m < 8 := by omega
    have fx := ((HM.out.blk 1 rfl).cell (1 + q)).trans (AddrM.ip_cell _ HO.out q hlt)
    have zx := (HM.out.blk 1 rfl).frozen (1 + q)
    have hset := AddrM.set_cell a q
    obtain ⟨x, hx⟩ : ∃ x, a.ip.getD q 0 = x := ⟨_, rfl⟩
    rw [hx] at fx
    have hcb := cut_bits x m hm8
    obtain ⟨y, hy⟩ : ∃ y, cutByte x m = y := ⟨_, rfl⟩
    rw [hy] at hcb
    have HC := Lib.hid (firstM_cells a h q m hlt k hq hm y (by rw [hx, hy]))
    have hmin : min m 8 = m := by omega
    have bq : (q : Int) < 16 := by omega
    have HN := Lib.hid (show Mem w [blkE (w.heap.size + 1) 25 (.bool false :: (List.replicate 16 (0 : UInt8)).map u8v), blkE w.heap.size 25 (AddrM.mk a.six (a.ip.set q y)).cells] ((w1.setCell ⟨w.heap.size, 1 + q, none⟩ (.int .u8 (y.toNat : Int))).drew) from by have h := HM.out.drew.setCell 1 rfl (1 + q) (u8v y); rw [hset] at h; exact h)
    have hset2 : (AddrM.mk a.six (a.ip.set q y)).ok := by show (a.ip.set q y).length = 16; rw [List.length_set]; exact HO.out
    clear hset hx hy HM hca h
    have hlI : decide ((q : Int) < 16) = true := by simp; omega
    go_upto_region 3 with fail
    go_region
    clear fx zx hcb hmin hlI
    generalize (w1.setCell ⟨w.heap.size, 1 + q, none⟩ (.int .u8 (y.toNat : Int))).drew = w2 at HN ⊢
    obtain ⟨off, hoff⟩ : ∃ off, (if 16 - (q + 1) = 0 then 1 else 1 + (q + 1)) = off := ⟨_, rfl⟩
    obtain ⟨z, hz⟩ : ∃ z, 16 - (q + 1) = z := ⟨_, rfl⟩
    have hcut := cut_off q off (AddrM.mk a.six (a.ip.set q y)).cells hoff
    have hfit : off + (16 - (q + 1)) ≤ (AddrM.mk a.six (a.ip.set q y)).cells.length := by rw [AddrM.cells_length (hset2 : (AddrM.mk a.six (a.ip.set q y)).ok), ← hoff]; split <;> omega
    rw [HC.out, hz] at hcut
    have HCUT := Lib.hid hcut
    rw [hz] at hfit
    have hsl : ∀ w', (Instr.sliceAt 23 (.pointer (some ⟨w.heap.size, 1, none⟩)) (some (.int .i64 ((q : Int) + 1))) none none).run Tryz.prog w' = .ok (.slice (some ⟨w.heap.size, off, none⟩) z z) w' := fun w' => by rw [← hz]; exact array_from w.heap.size q hlt off hoff w'
    clear hoff hz hcut
    go_upto_region 5 with (refine wpList_clear_blk w2 rfl (.tmp 23) 22 5 rfl Tryz.underlying22 u8_zero w.heap.size off z z rfl 25 (AddrM.mk a.six (a.ip.set q y)).cells (HN.out.blk 1 rfl) hfit ?_; intro w3 hb hg)
    rw [HCUT.out] at hb
    replace HM := Lib.hid (show Mem w [blkE (w.heap.size + 1) 25 (.bool false :: (List.replicate 16 (0 : UInt8)).map u8v), blkE w.heap.size 25 (firstM a k).cells] w3 from HN.out.put 1 rfl _ hg hb)
    clear HN hb hg hsl
    obtain ⟨cf, hcf⟩ : ∃ x, (firstM a k).cells.toArray = x := ⟨_, rfl⟩
    have HCF := Lib.hid hcf
    clear hcf
    go_wp2_with (first | (refine wpList_load_obj rfl 25 (.tmp 2) rfl w.heap.size 0 rfl (firstM a k).cells (HM.out.blk 1 rfl).all _ Tryz.underlying25 rfl (addr_cellsOf _ HF.out) ?_; rw [HCF.out]) | (refine wpList_store_blk rfl 25 (.tmp 4) (.tmp 24) rfl (w.heap.size + 1) (firstM a k).cells rfl (by show Value.agg cf = _; rw [HCF.out]) 25 (.bool false :: (List.replicate 16 (0 : UInt8)).map u8v) (HM.out.blk 0 rfl) (addr_cellsOf _ HF.out) (by rw [AddrM.cells_length HF.out]; rfl) (AddrM.one _) ?_; intro w9 hb9 hg9))
    exact bodyPost_ret (results_obj rfl _ _ (w.heap.size + 1) 25 (firstM a k).cells _ rfl hb9 Tryz.underlying25 rfl (addr_cellsOf _ HF.out)) rfl ⟨rfl, (HM.out.put 0 rfl _ hg9 hb9).bel⟩
  · have hlI : decide ((q : Int) < 16) = false := by simp; omega
    have hfa : firstM a k = a := by rw [firstM, if_neg (by omega)]
    rw [← hfa] at HM
    obtain ⟨cf, hcf⟩ : ∃ x, (firstM a k).cells.toArray = x := ⟨_, rfl⟩
    have HCF := Lib.hid hcf
    clear hcf
    go_upto_region 5 with fail
    go_wp2_with (first | (refine wpList_load_obj rfl 25 (.tmp 2) rfl w.heap.size 0 rfl (firstM a k).cells (HM.out.blk 1 rfl).all _ Tryz.underlying25 rfl (addr_cellsOf _ HF.out) ?_; rw [HCF.out]) | (refine wpList_store_blk rfl 25 (.tmp 4) (.tmp 24) rfl (w.heap.size + 1) (firstM a k).cells rfl (by show Value.agg cf = _; rw [HCF.out]) 25 (.bool false :: (List.replicate 16 (0 : UInt8)).map u8v) (HM.out.blk 0 rfl) (addr_cellsOf _ HF.out) (by rw [AddrM.cells_length HF.out]; rfl) (AddrM.one _) ?_; intro w9 hb9 hg9))
    exact bodyPost_ret (results_obj rfl _ _ (w.heap.size + 1) 25 (firstM a k).cells _ rfl hb9 Tryz.underlying25 rfl (addr_cellsOf _ HF.out)) rfl ⟨rfl, (HM.out.put 0 rfl _ hg9 hb9).bel⟩
end Go.Proofs.YtkhghmmgegkiiaaGreatDoor
