/-
  Configurations that lie in memory; two rows that grow in turn. A quick look whether an operation is the one that is meant. The contract of strings.IndexByte off the library's shelf, at this translation's numbers. The contract of codec.Little: for a size from 1 to 8 it returns a new slice with the size lowest bytes of n, the least significant one first; for any other size nothing. The contract of slices.Reverse at a byte slice that the call's own memory holds: behind the call the slice reads as the reversed list; nothing else has changed. The contract of codec.Big: for a size from 1 to 8 it returns a new slice with the size lowest bytes of n, the most significant one first; for any other size nothing. The contracts of codec.readGroup (four characters of base64) and codec.ParseKey (the key of a text, or the error). The contract of the program's codec.ParseKey. The contract of config's collect. The first place of a list for which something holds. Equality of two objects decides whether their cells are equal. No function of the program is named here. Equality of keys. Equality of two structs, as an operation. An address is found equal to itself. Equality of addresses and prefixes by their cells. Equality of two structs under a guard, as an operation. Two objects are compared by == or !=, in a list of operations and in a drawn region. No function of the program is named here. What a walk keeps of what lies under the world's size, whoever made it: a list of facts that whatever is made above leaves alone. Words for a region that draws its order, in which several loads may come up at once, all ahead of what changes memory: such a load can be taken first, though its cell is written later. The contracts of slices.Index at keys and at prefixes. Parts of slices of keys and of prefixes. No statement is proved here.
-/
import Derived.Shelf.Small.Strs
import Derived.Shelf.Strings.Search1
import Derived.Test.YtcbfchkhbngpkaaGreatDoorProg
import Derived.RegionTactic
import Derived.BigRegion
import Derived.ChangeAlike
import Derived.Outline
import Derived.Laws.BitsAllLaws
import Derived.BigQuiet
import Derived.Deep.QuietTactic
import Derived.Deep.RegionLaw
import Derived.Lib.SmallJoins
import Derived.Lib.Strings
import Derived.Deep.DeepCutAuto
import Derived.DeepKeys2
import Derived.Test.YtcbfchkhbngpkaaGreatDoorConfigReturnsB2
namespace Go.Proofs.YtcbfchkhbngpkaaGreatDoor
open Go.RowKit

/-- peers that lie one after the other below B, each with its prefixes -/
def PeRd (W : World) (B : Nat) (A : Option Addr) (n : Nat) (ps : List PeerM) : Prop :=
  ∃ vs : List Value, vs.length = ps.length ∧ RdRow W B A 85 n (peersV ps vs) ∧ (∀ p ∈ ps, p.ok) ∧ ∀ (i : Nat) (p : PeerM) (x : Value), ps[i]? = some p → vs[i]? = some x → ∃ A' c, x = .slice A' p.al.length c ∧ p.al.length ≤ c ∧ c ≤ maxLen ∧ PfRd W B A' p.al.length p.al
theorem peersV_len (ps : List PeerM) (vs : List Value) (h : vs.length = ps.length) : (peersV ps vs).length = ps.length := by rw [peersV, List.length_zipWith, h, Nat.min_self]
theorem peersV_at {ps : List PeerM} {vs : List Value} {i : Nat} {p : PeerM} {x : Value} (hp : ps[i]? = some p) (hx : vs[i]? = some x) : (peersV ps vs)[i]? = some (p.cells x) := by rw [peersV, List.getElem?_zipWith, hp, hx]
theorem PeRd.below {w W : World} {B n : Nat} {A : Option Addr} {ps : List PeerM} (h : PeRd w B A n ps) (hb : Below B w W) : PeRd W B A n ps := by
  obtain ⟨vs, h1, h2, h3, h4⟩ := h
  exact ⟨vs, h1, h2.below hb, h3, fun i p x hp hx => by
    obtain ⟨A', c, e, e1, e2, hr⟩ := h4 i p x hp hx
    exact ⟨A', c, e, e1, e2, hr.below hb⟩⟩
theorem PeRd.mono {W : World} {B C n : Nat} {A : Option Addr} {ps : List PeerM} (h : PeRd W B A n ps) (hc : B ≤ C) : PeRd W C A n ps := by
  obtain ⟨vs, h1, h2, h3, h4⟩ := h
  exact ⟨vs, h1, h2.mono hc, h3, fun i p x hp hx => by
    obtain ⟨A', c, e, e1, e2, hr⟩ := h4 i p x hp hx
    exact ⟨A', c, e, e1, e2, hr.mono hc⟩⟩
theorem PeRd.len {W : World} {B n : Nat} {A : Option Addr} {ps : List PeerM} (h : PeRd W B A n ps) : ps.length = n := by
  obtain ⟨vs, h1, h2, _⟩ := h
  rw [← h2.1, peersV_len ps vs h1]
theorem PeRd.nil {W : World} {B : Nat} {A : Option Addr} : PeRd W B A 0 [] := ⟨[], rfl, RdRow.nil, by simp, by simp⟩
theorem PeRd.addr {W : World} {B n : Nat} {A : Option Addr} {ps : List PeerM} (h : PeRd W B A n ps) (h0 : 0 < n) : ∃ b off, A = some ⟨b, off, none⟩ := by
  obtain ⟨vs, _, h2, _⟩ := h
  exact h2.addr h0
theorem PeRd.at {W : World} {B n b off : Nat} {ps : List PeerM} (h : PeRd W B (some ⟨b, off, none⟩) n ps) (i : Nat) (p : PeerM) (hi : ps[i]? = some p) : p.ok ∧ ∃ A' c, p.al.length ≤ c ∧ c ≤ maxLen ∧ PfRd W B A' p.al.length p.al ∧ b < B ∧ At W b (off + i * 85) (p.cells (.slice A' p.al.length c)) := by
  obtain ⟨vs, h1, h2, h3, h4⟩ := h
  have hlt := (List.getElem?_eq_some_iff.1 hi).1
  have hx : vs[i]? = some vs[i] := List.getElem?_eq_getElem (by omega)
  obtain ⟨A', c, e, e1, e2, hr⟩ := h4 i p _ hi hx
  rw [e] at hx
  have hat := h2.at i _ (peersV_at hi hx)
  exact ⟨h3 p (List.mem_of_getElem? hi), A', c, e1, e2, hr, hat.1, hat.2⟩
/-- peers in rows of the call's own can be read -/
theorem PeersAt.rd {base : Nat} {W : World} {Bs : List Nat} {A : Option Addr} {c n : Nat} {ps : List PeerM} (h : PeersAt base W Bs (.slice A n c) ps) (hn : ps.length = n) (hk : ∀ p ∈ ps, p.ok) : PeRd W W.heap.size A n ps := by
  obtain ⟨vs, hl, h1, h2, _⟩ := h
  rw [hn] at h1
  refine ⟨vs, hl, RdRow.of_own (by rw [peersV_len ps vs hl, hn]) (fun o ho => ?_) h1, hk, fun i p x hp hx => ?_⟩
  · obtain ⟨i, hi, rfl⟩ := List.getElem_of_mem ho
    rw [peersV_len ps vs hl] at hi
    have e := peersV_at (List.getElem?_eq_getElem hi) (List.getElem?_eq_getElem (by omega : i < vs.length))
    rw [List.getElem?_eq_getElem (by rw [peersV_len ps vs hl]; exact hi)] at e
    injection e with e
    rw [e]
    exact PeerM.cells_length (hk _ (List.getElem_mem hi)) _
  · have h3 := h2 i p x hp hx
    have hpk := (hk p (List.mem_of_getElem? hp)).2.2.2.2.2
    rcases h3.2 with ⟨rfl, h0⟩ | ⟨g, cap, cur, rfl, _, _, hnc, hcm, _⟩
    · refine ⟨none, 0, by rw [h0], by omega, Nat.zero_le _, ?_⟩
      have he : p.al = [] := List.length_eq_zero_iff.1 h0
      rw [he]
      exact PfRd.nil
    · exact ⟨_, cap, rfl, hnc, hcm, PfRd.of_own rfl hpk h3⟩
/-- two rows of the call's own that do not share a block -/
def TwoR (base : Nat) (e1 : TypeId) (k1 : Nat) (v1 : Value) (n1 : Nat) (xs1 : List Value) (e2 : TypeId) (k2 : Nat) (v2 : Value) (n2 : Nat) (xs2 : List Value) (W : World) : Prop :=
  W.ownsRow base e1 k1 v1 n1 xs1 ∧ W.ownsRow base e2 k2 v2 n2 xs2 ∧ ∀ k, v1.ownBlock = some k → v2.ownBlock ≠ some k
section
variable {base : Nat} {e1 e2 : TypeId} {k1 k2 n1 n2 : Nat} {v1 v2 : Value} {xs1 xs2 : List Value} {W W' : World}
theorem TwoR.below (h : TwoR base e1 k1 v1 n1 xs1 e2 k2 v2 n2 xs2 W) (hb : Below W.heap.size W W') : TwoR base e1 k1 v1 n1 xs1 e2 k2 v2 n2 xs2 W' :=
  ⟨own_kept h.1 fun k e => hb.block k (own_lt h.1 e).2, own_kept h.2.1 fun k e => hb.block k (own_lt h.2.1 e).2, h.2.2⟩
theorem TwoR.first (h : TwoR base e1 k1 v1 n1 xs1 e2 k2 v2 n2 xs2 W) {u : Value} {m : Nat} {ys : List Value} (ho : W'.ownsRow base e1 k1 u m ys) (hg : W.grownBy W' v1.ownBlock) (hb : u.ownBlock = v1.ownBlock ∨ u.ownBlock = some W.heap.size) : TwoR base e1 k1 u m ys e2 k2 v2 n2 xs2 W' := by
  refine ⟨ho, own_kept h.2.1 fun k e => hg.block k (own_lt h.2.1 e).2 (fun e2 => h.2.2 k e2.symm e), fun b hu hv => ?_⟩
  rcases hb with e | e
  · exact h.2.2 b (e ▸ hu) hv
  · have := (own_lt h.2.1 hv).2
    rw [e] at hu
    injection hu with hu
    omega
theorem TwoR.swap (h : TwoR base e1 k1 v1 n1 xs1 e2 k2 v2 n2 xs2 W) : TwoR base e2 k2 v2 n2 xs2 e1 k1 v1 n1 xs1 W := ⟨h.2.1, h.1, fun k h1 h2 => h.2.2 k h2 h1⟩
theorem TwoR.grown (h : TwoR base e1 k1 v1 n1 xs1 e2 k2 v2 n2 xs2 W) {w0 : World} (hb : Below w0.heap.size w0 W) (hw : w0.heap.size ≤ base) (hg : W.grownBy W' v1.ownBlock) : Below w0.heap.size w0 W' :=
  hb.grown hg hb.size fun _ e => Nat.le_trans hw (own_lt h.1 e).1
end
end Go.Proofs.YtcbfchkhbngpkaaGreatDoor
namespace Go.Proofs.YtcbfchkhbngpkaaGreatDoor
open Go.RowKit

theorem at_op {P : Program} {w : World} {ops : Array Oper} {rest : List Oper} {o : Oper} {a : Act} {Q : Exit → Act → World → Prop} (p : Op) (_ : o.op = p) (h : wpList P ops Q (o :: rest) a w) : wpList P ops Q (o :: rest) a w := h
end Go.Proofs.YtcbfchkhbngpkaaGreatDoor
namespace Go.Proofs.YtcbfchkhbngpkaaGreatDoor
open Go.Shelf
def idx_ren : Go.Shelf.Ren := ⟨fun | 137 => 172 | 217 => 132 | 266 => 159 | n => n, fun | 9 => 9 | 5 => 5 | 3 => 3 | n => n, fun | n => n⟩
theorem idx_lays : Go.Proofs.Lays.n137 Tryz.prog idx_ren := {
  mixed := by kernel_rfl
  f137 := Tryz.func172.trans (congrArg some (by kernel_rfl))
  f217 := Tryz.func132.trans (congrArg some (by kernel_rfl))
  f266 := Tryz.func159.trans (congrArg some (by kernel_rfl))
  t3 := Tryz.underlying3
  a3 := Tryz.isAgg3
  z3 := Tryz.sizeOf3
  v3 := Tryz.zeroValue3
  t5 := Tryz.underlying5
  a5 := Tryz.isAgg5
  z5 := Tryz.sizeOf5
  v5 := Tryz.zeroValue5
  t9 := Tryz.underlying9
  a9 := Tryz.isAgg9
  z9 := Tryz.sizeOf9
  v9 := Tryz.zeroValue9 }
open Go.RowKit in
theorem indexByte_any (s : ByteArray) (c : Int) (w : World) :
    Calls Tryz.prog 172 #[.string s, .int .u8 c] w fun e w' => e = .returned (.int .i64 (Lib.indexByte s.data.toList c.toNat.toUInt8)) ∧ w' = w := Any.strings_IndexByte idx_lays s c w
end Go.Proofs.YtcbfchkhbngpkaaGreatDoor
namespace Go.Proofs.YtcbfchkhbngpkaaGreatDoor
open Go.RowKit

set_option maxRecDepth 100000 in
theorem little_any (n : Nat) (_hn : n < 18446744073709551616) (k : Nat) (h1 : 1 ≤ k) (h8 : k ≤ 8) (w : World) :
    Calls Tryz.prog 178 #[.int .u64 n, .int .i64 k] w fun e w' => e = .returned (.slice (some ⟨w.heap.size, 0, none⟩) k k) ∧ w'.ownsRow w.heap.size 5 1 (.slice (some ⟨w.heap.size, 0, none⟩) k k) k ((littleL n k).map u8v) ∧ Below w.heap.size w w' := by
  obtain ⟨i0, hi, hz0, hz1, hz2⟩ := info_parts Tryz.info5
  go_enter Tryz.func178, Tryz.ntmps178
  go_wp2_with (refine wpList_make_full _ rfl (.tmp 13) (.tmp 13) 22 rfl w.heap.size 5 i0 (.int .u8 0) 1 Tryz.underlying22 hi hz0 hz1 .i64 .i64 k k k rfl rfl rfl rfl (by rw [hz2]; omega) (by unfold maxLen; omega) (Nat.le_refl _) ?_; intro w1 hown1 hg1)
  go_loopw [16, 6] (fun i _ wr => ∃ j : Nat, j ≤ k ∧ i = .int .i64 j ∧ wr.ownsRow w.heap.size 5 1 (.slice (some ⟨w.heap.size, 0, none⟩) k k) k ((littleRow n k j).map u8v) ∧ Below w.heap.size w wr) (fun i _ _ => k - (intOf i).toNat)
  case atStart =>
    refine ⟨0, by omega, rfl, ?_, (Below.refl _ _).grown hg1 (Nat.le_refl _) (by simp)⟩
    rw [littleRow_zero, List.map_replicate]
    rw [show (Value.int IntKind.u8 0).cells = #[.int .u8 0] from rfl, toList_madeCells_one, Nat.mul_one] at hown1
    exact hown1
  case round =>
    obtain ⟨j, hj, rfl, hown, hb⟩ := hrel
    by_cases hlt : j < k
    · have hfz := hown.frozenAt j
      have hcl : ∃ u, wr.cell? ⟨w.heap.size, j, none⟩ = some u := by
        rw [hown.cellAt j (by omega)]
        exact ⟨_, List.getElem?_eq_getElem (by rw [hown.1]; omega)⟩
      obtain ⟨u, hcl⟩ := hcl
      obtain ⟨hs1, hs2⟩ := hown.stored j (u8v (byteOf n j))
      have HS := Lib.hid hs1
      clear hs1
      go_wp2
      go_roundw
      case rel =>
        refine ⟨j + 1, by omega, by go_num, ?_, ?_⟩
        · have h := HS.out
          rw [← List.map_set, littleRow_set n k j hlt] at h
          simp only [u8v, byteOf_cast] at h
          exact h
        · exact hb.setCell (Nat.le_refl _) _
      case measure => simp [intOf]; omega
    · obtain rfl : j = k := by omega
      rw [littleRow_end] at hown
      go_wp2
      go_ret
      exact ⟨rfl, hown, hb⟩

end Go.Proofs.YtcbfchkhbngpkaaGreatDoor
namespace Go.Proofs.YtcbfchkhbngpkaaGreatDoor
open Go.RowKit

set_option maxHeartbeats 400000 in
set_option maxRecDepth 100000 in
theorem reverse_own (B g n cap : Nat) (l : List UInt8) (hn : n ≤ 1000000) (w : World) (hown : w.ownsRow B 5 1 (.slice (some ⟨g, 0, none⟩) n cap) n (l.map u8v)) :
    Calls Tryz.prog 179 #[.slice (some ⟨g, 0, none⟩) n cap] w fun e w' => e = .returned (.tuple #[]) ∧ w'.ownsRow B 5 1 (.slice (some ⟨g, 0, none⟩) n cap) n (l.reverse.map u8v) ∧ w.grownBy w' (some g) := by
  have hl : l.length = n := by simpa using hown.1
  go_enter Tryz.func179, Tryz.ntmps179
  go_wp2
  go_loopw [2, 3] (fun i j wr => ∃ k : Nat, 2 * k ≤ n ∧ i = .int .i64 k ∧ j = .int .i64 ((n : Int) - 1 - k) ∧ wr.ownsRow B 5 1 (.slice (some ⟨g, 0, none⟩) n cap) n ((revRow l k).map u8v) ∧ w.grownBy wr (some g)) (fun i _ _ => n - (intOf i).toNat)
  case atStart => exact ⟨0, by omega, rfl, by simp, by rw [revRow_zero]; exact hown, World.grownBy.refl w _⟩
  case round =>
    obtain ⟨k, hk, rfl, rfl, how, hg⟩ := hrel
    by_cases hlt : (k : Int) < (n : Int) - 1 - k
    · have hfz1 := how.frozenAt k
      have hfz2 := how.frozenAt (n - 1 - k)
      have hc1 := how.cellAt k (by omega)
      have hc2 := how.cellAt (n - 1 - k) (by omega)
      rw [map_u8v_getElem? _ _ (by rw [revRow_length]; omega)] at hc1 hc2
      have HO := Lib.hid how
      clear how
      go_wp2
      go_region
      all_goals
        go_wp2
        go_roundw
        case rel =>
          have h2 := (HO.out.stored k (u8v ((revRow l k).getD (l.length - 1 - k) 0))).1.stored (l.length - 1 - k) (u8v ((revRow l k).getD k 0))
          have h3 := (HO.out.stored k (u8v ((revRow l k).getD (l.length - 1 - k) 0))).2
          rw [← List.map_set, ← List.map_set, revRow_step l k (by omega), getD_lt (by rw [revRow_length]; omega), getD_lt (by rw [revRow_length]; omega)] at h2
          rw [getD_lt (by rw [revRow_length]; omega)] at h3
          simp only [hl, u8v] at h2 h3
          exact ⟨k + 1, by omega, by go_num, by go_num, h2.1.drew, only_drew (grownBy_trans (grownBy_trans hg h3) h2.2)⟩
        case measure => simp [intOf]; omega
    · rw [revRow_end l k (by omega)] at how
      go_wp2
      go_end0
      exact ⟨rfl, by rw [← List.map_reverse]; exact how, hg⟩
end Go.Proofs.YtcbfchkhbngpkaaGreatDoor
namespace Go.Proofs.YtcbfchkhbngpkaaGreatDoor
open Go.RowKit

set_option maxRecDepth 100000 in
theorem big_any (n : Nat) (hn : n < 18446744073709551616) (k : Nat) (h1 : 1 ≤ k) (h8 : k ≤ 8) (w : World) :
    Calls Tryz.prog 169 #[.int .u64 n, .int .i64 k] w fun e w' => e = .returned (.slice (some ⟨w.heap.size, 0, none⟩) k k) ∧ w'.ownsRow w.heap.size 5 1 (.slice (some ⟨w.heap.size, 0, none⟩) k k) k ((littleL n k).reverse.map u8v) ∧ Below w.heap.size w w' := by
  have L := little_any n hn k h1 h8
  have HL := Lib.hid L
  clear L hn
  go_enter Tryz.func169, Tryz.ntmps169
  go_wp2_with fail
  refine (HL.out _).mono ?_
  rintro e w1 ⟨rfl, hown, hb⟩
  have R := reverse_own w.heap.size w.heap.size k k (littleL n k) (by omega) w1 hown
  have HR := Lib.hid R
  clear R
  go_wp2_with fail
  refine HR.out.mono ?_
  rintro e w2 ⟨rfl, hown2, hg2⟩
  go_wp2_with fail
  go_ret
  exact ⟨rfl, hown2, hb.grown hg2 hb.size (by simp)⟩
set_option maxRecDepth 100000 in
/-- slices.Reverse at nothing -/
theorem reverse_nil (w : World) : Calls Tryz.prog 179 #[.slice none 0 0] w fun e w' => e = .returned (.tuple #[]) ∧ w = w' := by
  go_enter Tryz.func179, Tryz.ntmps179
  go_wp2
  go_loop [2, 3] (fun i j => i = .int .i64 0 ∧ j = .int .i64 (-1)) (fun _ _ => 0)
  case atStart => exact ⟨rfl, rfl⟩
  case round =>
    obtain ⟨rfl, rfl⟩ := hrel
    go_wp2
    go_end0
    exact ⟨rfl, rfl⟩
end Go.Proofs.YtcbfchkhbngpkaaGreatDoor
namespace Go.Proofs.YtcbfchkhbngpkaaGreatDoor
open Go.RowKit

theorem index_b64 (c : UInt8) (w : World) :
    Calls Tryz.prog 172 #[.string ⟨#[65, 66, 67, 68, 69, 70, 71, 72, 73, 74, 75, 76, 77, 78, 79, 80, 81, 82, 83, 84, 85, 86, 87, 88, 89, 90, 97, 98, 99, 100, 101, 102, 103, 104, 105, 106, 107, 108, 109, 110, 111, 112, 113, 114, 115, 116, 117, 118, 119, 120, 121, 122, 48, 49, 50, 51, 52, 53, 54, 55, 56, 57, 43, 47]⟩, .int .u8 (c.toNat : Int)] w fun e w' => e = .returned (.int .i64 (b64V c)) ∧ w = w' := by
  refine (indexByte_any _ _ w).mono fun e w' ⟨he, hw⟩ => ⟨?_, hw.symm⟩
  rw [he, Int.toNat_natCast]
  congr 2
  have : c.toNat.toUInt8 = c := UInt8.toNat_inj.1 (by simp)
  rw [this]
  rfl

theorem or64_six (n v : Nat) (hn : n < 16777216) (hv : v < 64) : bits BinOp.or IntKind.u64 ((n : Int) * 64) (v : Int) = ((n * 64 + v : Nat) : Int) := by
  have e1 : (n : Int) * 64 = ((n * 64 : Nat) : Int) := by omega
  rw [e1, u64_or_nat _ _ (by omega) (by omega), nat_join 6 _ _ (by omega) (by omega)]

set_option maxHeartbeats 400000 in
theorem readGroup_any (S : ByteArray) (l : List UInt8) (hS : S = ⟨l.toArray⟩) (h4 : l.length = 4) (b : Bool) (G : Nat) (hb : grpOk l = b) (hG : G = if b then grpN l else 0) (w : World) :
    Calls Tryz.prog 168 #[.string S] w fun e w' => e = .returned (.tuple #[.int .u64 (G : Int), .bool b]) ∧ w = w' := by
  have hsz : S.size = 4 := by rw [hS]; simpa [ByteArray.size] using h4
  have hat : ∀ i (h : i < S.size), S[i] = l.getD i 0 := by
    intro i h
    subst hS
    have hi : i < l.length := by simpa [ByteArray.size] using h
    rw [getD_lt hi]
    rfl
  have HAT := Lib.hid hat
  have H4 := Lib.hid h4
  have HB := Lib.hid hb
  have HG := Lib.hid hG
  clear hat hS h4 hb hG
  go_enter Tryz.func168, Tryz.ntmps168
  go_wp2
  go_loop [4, 9] (fun n i => ∃ j : Nat, j ≤ 4 ∧ i = .int .i64 j ∧ n = .int .u64 (grpN (l.take j) : Nat) ∧ Hid ((l.take j).all valid = true)) (fun _ i => 4 - (intOf i).toNat)
  case atStart => exact ⟨0, by omega, rfl, rfl, Lib.hid rfl⟩
  case round =>
    obtain ⟨j, hj, rfl, rfl, hall⟩ := hrel
    by_cases hlt : j < 4
    · obtain ⟨c, hc⟩ : ∃ c, l.getD j 0 = c := ⟨_, rfl⟩
      have hjl : j < l.length := by have := H4.out; omega
      have hI : ∀ h, S[j]'h = c := fun h => by rw [HAT.out, hc]
      have hnext : l.take (j + 1) = l.take j ++ [c] := by rw [List.take_succ_eq_append_getElem hjl, ← hc, getD_lt hjl]
      have HN := Lib.hid hnext
      clear hc hnext
      have hlt3 : grpN (l.take j) < 16777216 := by
        have h := grpN_lt (l.take j)
        have : (64 : Nat) ^ (l.take j).length ≤ 64 ^ 3 := Nat.pow_le_pow_right (by omega) (by rw [List.length_take]; omega)
        omega
      obtain ⟨N, hN⟩ : ∃ N, grpN (l.take j) = N := ⟨_, rfl⟩
      rw [hN] at hlt3 ⊢
      have HNN := Lib.hid hN
      clear hN
      by_cases hv : valid c = true
      · obtain ⟨v, hvv⟩ : ∃ v : Nat, b64V c = (v : Int) := ⟨(b64V c).toNat, by rw [valid_iff] at hv; omega⟩
        have hv64 : v < 64 := by have := b64V_lt c; omega
        have HV := Lib.hid hvv
        have HVD := Lib.hid hv
        have C := index_b64 c
        rw [hvv] at C
        have HC := Lib.hid C
        clear C hvv hv
        have hor := or64_six N v hlt3 hv64
        go_wp2_with fail
        refine (HC.out _).mono ?_
        rintro e w2 ⟨rfl, rfl⟩
        go_wp2_with fail
        go_round
        case rel =>
          refine ⟨j + 1, by omega, by go_num, ?_, Lib.hid ?_⟩
          · rw [HN.out, grpN_concat, HNN.out, HV.out, Int.toNat_natCast]; go_num
          · rw [HN.out, List.all_append, hall.out]; simp [HVD.out]
        case measure => simp [intOf]; omega
      · have hv0 : b64V c < 0 := by
          have : ¬ 0 ≤ b64V c := fun h => hv ((valid_iff c).2 h)
          omega
        have hno : grpOk l = false := by
          unfold grpOk
          rw [← Bool.not_eq_true]
          intro h
          rw [List.all_eq_true] at h
          exact hv (h c (by have : c ∈ l.take (j + 1) := by rw [HN.out]; simp
                            exact List.mem_of_mem_take this))
        obtain rfl : b = false := by rw [← HB.out, hno]
        obtain rfl : G = 0 := by rw [HG.out]; rfl
        have HC := Lib.hid (index_b64 c)
        clear hv hno HB HG
        go_wp2_with fail
        refine (HC.out _).mono ?_
        rintro e w2 ⟨rfl, rfl⟩
        go_wp2
        go_ret2
        exact ⟨rfl, rfl⟩
    · obtain rfl : j = 4 := by omega
      have hl4 : l.take 4 = l := List.take_of_length_le (by have := H4.out; omega)
      have hok : grpOk l = true := by have := hall.out; rwa [hl4] at this
      obtain rfl : b = true := by rw [← HB.out, hok]
      obtain rfl : G = grpN l := by rw [HG.out]; rfl
      rw [hl4]
      clear hok hl4 HB HG
      go_wp2
      go_ret2
      exact ⟨rfl, rfl⟩

def keyA (k : List UInt8) : Array Value := (k.map u8v).toArray
def zeros (n : Nat) : List Value := List.replicate n (.int .u8 0)
theorem zeros_one (n : Nat) : ∀ v ∈ zeros n, v.oneCell' = true := by
  intro v hv
  rw [List.eq_of_mem_replicate hv]
  rfl
theorem zeros_map (n : Nat) : (List.replicate n (0 : UInt8)).map u8v = zeros n := by rw [List.map_replicate]; rfl
theorem zeros_key : keyA (List.replicate 32 0) = (zeros 32).toArray := by unfold keyA; rw [zeros_map]
/-- what a call of ParseKey gives -/
def KeyRes (l : List UInt8) (w : World) (e : Ending) (w' : World) : Prop :=
  (∃ q, parseK l = some q ∧ e = .returned (.tuple #[.agg (keyA q), .int .i64 0]) ∧ Below w.heap.size w w') ∨
  (parseK l = none ∧ e = .returned (.tuple #[.agg (keyA (List.replicate 32 0)), .int .i64 5]) ∧ Below w.heap.size w w')

set_option maxRecDepth 100000 in
set_option maxHeartbeats 1000000 in
theorem parseKey_short (S : ByteArray) (l : List UInt8) (hS : S = ⟨l.toArray⟩) (hn : l.length ≤ 1000000) (h : ¬ l.length = 44) (w : World) :
    Calls Tryz.prog 148 #[.string S] w (KeyRes l w) := by
  have hnone : parseK l = none := by
    unfold parseK
    rw [if_neg]
    rintro ⟨h', _⟩
    exact h h'
  have HNO := Lib.hid hnone
  have hsz : S.size = l.length := by rw [hS]; simp [ByteArray.size]
  have b1 : ¬ (S.size : Int) = 44 := by omega
  have b2 : S.size ≤ 1000000 := by omega
  clear hnone h hsz hS hn
  go_enter Tryz.func148, Tryz.ntmps148
  go_wp2_with (refine wpList_store_blk rfl 24 (.tmp 2) (.tmp 18) rfl w.heap.size (zeros 32) rfl rfl 24 (zeros 32) (Blk.new w 24 (zeros 32)) (by kernel_rfl) rfl (zeros_one 32) ?_; intro w9 hb9 hg9)
  refine bodyPost_ret (results_key rfl _ _ w.heap.size 24 (zeros 32) 32 5 rfl hb9 Tryz.underlying24 (by kernel_rfl)) rfl (.inr ⟨HNO.out, ?_, ?_⟩)
  · rw [zeros_key]; rfl
  · exact below_blk ((Below.refl _ _).alloc (Nat.le_refl _) _) hg9 (Nat.le_refl _)

theorem string_at (S : ByteArray) (l : List UInt8) (hS : S = ⟨l.toArray⟩) : S.size = l.length ∧ ∀ i (h : i < S.size), S[i] = l.getD i 0 := by
  subst hS
  refine ⟨by simp [ByteArray.size], fun i h => ?_⟩
  have hi : i < l.length := by simpa [ByteArray.size] using h
  rw [getD_lt hi]
  rfl

set_option maxRecDepth 100000 in
set_option maxHeartbeats 1000000 in
theorem parseKey_pad (S : ByteArray) (l : List UInt8) (hS : S = ⟨l.toArray⟩) (hn : l.length = 44) (h : ¬ l.getD 43 0 = 61) (w : World) :
    Calls Tryz.prog 148 #[.string S] w (KeyRes l w) := by
  have hnone : parseK l = none := by
    unfold parseK
    rw [if_neg]
    rintro ⟨_, h'⟩
    exact h h'
  have HNO := Lib.hid hnone
  obtain ⟨hsz, hat⟩ := string_at S l hS
  have hs44 : S.size = 44 := by rw [hsz, hn]
  obtain ⟨c, hc⟩ : ∃ c, l.getD 43 0 = c := ⟨_, rfl⟩
  have hI : ∀ h, S[43]'h = c := fun h => by rw [hat, hc]
  have hc61 : ¬ (c.toNat : Int) = 61 := by
    intro e
    apply h
    rw [hc]
    exact UInt8.toNat_inj.1 (by have : (61 : UInt8).toNat = 61 := rfl; omega)
  clear hnone h hsz hS hn hat hc
  go_enter Tryz.func148, Tryz.ntmps148
  go_wp2_with (refine wpList_store_blk rfl 24 (.tmp 2) (.tmp 18) rfl w.heap.size (zeros 32) rfl rfl 24 (zeros 32) (Blk.new w 24 (zeros 32)) (by kernel_rfl) rfl (zeros_one 32) ?_; intro w9 hb9 hg9)
  refine bodyPost_ret (results_key rfl _ _ w.heap.size 24 (zeros 32) 32 5 rfl hb9 Tryz.underlying24 (by kernel_rfl)) rfl (.inr ⟨HNO.out, ?_, ?_⟩)
  · rw [zeros_key]; rfl
  · exact below_blk ((Below.refl _ _).alloc (Nat.le_refl _) _) hg9 (Nat.le_refl _)

def fillRow (D : List UInt8) (g : Nat) : List UInt8 := fill D g ++ List.replicate (33 - 3 * g) 0
theorem key_size : (Tryz.prog.info? 24).map (·.size) = some 32 := by kernel_rfl
theorem fillRow_length (D : List UInt8) (g : Nat) (h : g ≤ 11) : (fillRow D g).length = 33 := by simp [fillRow, fill_length]; omega
theorem fillRow_step (D : List UInt8) (g N : Nat) (h : g < 11) (hN : grpN (grp D g) = N) :
    ((fillRow D g).map u8v).take (g * 3) ++ (bytes3 N).map u8v ++ ((fillRow D g).map u8v).drop (g * 3 + ((bytes3 N).map u8v).length) = (fillRow D (g + 1)).map u8v := by
  have hl := fill_length D g
  have e1 : ((fillRow D g).map u8v).take (g * 3) = (fill D g).map u8v := by
    rw [← List.map_take, fillRow, List.take_append_of_le_length (by omega), List.take_of_length_le (by omega)]
  have e2 : ((fillRow D g).map u8v).drop (g * 3 + ((bytes3 N).map u8v).length) = (List.replicate (33 - 3 * (g + 1)) 0).map u8v := by
    rw [List.length_map, bytes3_length, ← List.map_drop, fillRow, List.drop_append, List.drop_of_length_le (by omega), List.nil_append, List.drop_replicate]
    congr 2
    omega
  rw [e1, e2, fillRow, ← List.map_append, ← List.map_append]
  congr 2
  unfold fill
  rw [flat3_succ, hN]
theorem own_read {w : World} {B g n c : Nat} {l : List UInt8} (h : w.ownsRow B 5 1 (.slice (some ⟨g, 0, none⟩) n c) n (l.map u8v)) : ∀ j v, (l.map u8v)[j]? = some v → w.cell? ((⟨g, 0, none⟩ : Addr).add j) = some v := by
  intro j v hj
  have hlt : j < (l.map u8v).length := (List.getElem?_eq_some_iff.1 hj).1
  rw [Go.WideShapes.add_plain, Nat.zero_add, h.cellAt j (by have := h.1; omega), hj]
/-- the first 32 bytes of the 33 -/
theorem blk_read {w : World} {g t : Nat} {l : List UInt8} {r : List Value} (h : Blk w g t (l.map u8v ++ r)) : ∀ j v, (l.map u8v)[j]? = some v → w.cell? ((⟨g, 0, none⟩ : Addr).add j) = some v := by
  intro j v hj
  have hlt : j < (l.map u8v).length := (List.getElem?_eq_some_iff.1 hj).1
  rw [Go.WideShapes.add_plain, Nat.zero_add, h.cell, List.getElem?_append_left hlt, hj]
theorem digits_string (S : ByteArray) (l : List UInt8) (hS : S = ⟨l.toArray⟩) : S.extract 0 43 ++ ByteArray.extract ⟨#[65, 66, 67, 68, 69, 70, 71, 72, 73, 74, 75, 76, 77, 78, 79, 80, 81, 82, 83, 84, 85, 86, 87, 88, 89, 90, 97, 98, 99, 100, 101, 102, 103, 104, 105, 106, 107, 108, 109, 110, 111, 112, 113, 114, 115, 116, 117, 118, 119, 120, 121, 122, 48, 49, 50, 51, 52, 53, 54, 55, 56, 57, 43, 47]⟩ 0 1 = ⟨(digitsOf l).toArray⟩ := by
  have e2 : ByteArray.extract ⟨#[65, 66, 67, 68, 69, 70, 71, 72, 73, 74, 75, 76, 77, 78, 79, 80, 81, 82, 83, 84, 85, 86, 87, 88, 89, 90, 97, 98, 99, 100, 101, 102, 103, 104, 105, 106, 107, 108, 109, 110, 111, 112, 113, 114, 115, 116, 117, 118, 119, 120, 121, 122, 48, 49, 50, 51, 52, 53, 54, 55, 56, 57, 43, 47]⟩ 0 1 = ⟨#[65]⟩ := by decide +kernel
  subst hS
  rw [e2]
  apply Go.WideShapes.bytes_inj
  rw [Go.Joins.data_append, Lib.extract_data]
  simp [digitsOf]
theorem grp_string (D : ByteArray) (d : List UInt8) (hD : D = ⟨d.toArray⟩) (g : Nat) : D.extract (g * 4) ((g + 1) * 4) = ⟨(grp d g).toArray⟩ := by
  subst hD
  apply Go.WideShapes.bytes_inj
  rw [Lib.extract_data]
  simp [grp]
  congr 1
  omega

set_option maxRecDepth 100000 in
set_option maxHeartbeats 2000000 in
theorem parseKey_main (S : ByteArray) (l : List UInt8) (hS : S = ⟨l.toArray⟩) (hn : l.length = 44) (h : l.getD 43 0 = 61) (w : World) :
    Calls Tryz.prog 148 #[.string S] w (KeyRes l w) := by
  obtain ⟨i0, hi, hz0, hz1, hz2⟩ := info_parts Tryz.info5
  obtain ⟨hsz, hat⟩ := string_at S l hS
  have hs44 : S.size = 44 := by rw [hsz, hn]
  have hI : ∀ h, S[43]'h = 61 := fun _ => by rw [hat, h]
  have HDS := Lib.hid (digits_string S l hS)
  have HN := Lib.hid hn
  have H61 := Lib.hid h
  have HDL := Lib.hid (digits_length l hn)
  clear hS hn h hsz hat
  go_enter Tryz.func148, Tryz.ntmps148
  go_wp2_with fail
  go_region
  generalize hD : S.extract 0 43 ++ _ = D
  have HD := Lib.hid (show D = ⟨(digitsOf l).toArray⟩ by rw [← hD, HDS.out])
  clear hD HDS
  generalize hW : w.alloc _ = W
  have hb1 : Blk W w.heap.size 24 (zeros 32) := by rw [← hW]; exact Blk.new w 24 (zeros 32)
  have hbw0 : Below w.heap.size w W := by rw [← hW]; exact (Below.refl _ _).alloc (Nat.le_refl _) _
  have hsW : w.heap.size + 1 = W.heap.size := by rw [← hW]; simp
  have HsW := Lib.hid hsW
  have hDs : D.size = 44 := by rw [HD.out]; simp [ByteArray.size, HDL.out]
  clear hW hsW
  have hlw : w.heap.size < W.heap.size := by have := HsW.out; omega
  go_wp2_with fail
  generalize hW1 : World.drew _ = W1
  have c1 : Blk W1 w.heap.size 24 (zeros 32) := by rw [← hW1]; exact (hb1.alloc _).drew
  have c2 : Blk W1 W.heap.size 89 (zeros 33) := by rw [← hW1]; exact (Blk.new W 89 (zeros 33)).drew
  have hbw1 : Below w.heap.size w W1 := by rw [← hW1]; exact (hbw0.alloc (by omega) _).drew
  have C1 := Lib.hid c1
  have C2 := Lib.hid c2
  have HBW := Lib.hid hbw1
  clear hW1 c1 c2 hbw1 hb1 hbw0
  go_loopw [23] (fun i wr => ∃ g : Nat, g ≤ 11 ∧ i = .int .i64 g ∧ Hid (allOk (digitsOf l) g = true) ∧ Blk wr W.heap.size 89 ((fillRow (digitsOf l) g).map u8v) ∧ Blk wr w.heap.size 24 (zeros 32) ∧ Below w.heap.size w wr) (fun i _ => 11 - (intOf i).toNat)
  case atStart =>
    refine ⟨0, by omega, rfl, Lib.hid rfl, ?_, C1.out, HBW.out⟩
    have h := C2.out
    have e : (fillRow (digitsOf l) 0).map u8v = zeros 33 := by rw [← zeros_map]; rfl
    rw [e]
    exact h
  case round =>
    obtain ⟨g, hg, rfl, hok, hbF, hbK, hbw⟩ := hrel
    by_cases hlt : g < 11
    · have hgs := grp_string D (digitsOf l) HD.out g
      have hg4 : (grp (digitsOf l) g).length = 4 := by simp [grp, HDL.out]; omega
      obtain ⟨b, hb⟩ : ∃ b, grpOk (grp (digitsOf l) g) = b := ⟨_, rfl⟩
      obtain ⟨N, hN⟩ : ∃ N, N = (if b then grpN (grp (digitsOf l) g) else 0) := ⟨_, rfl⟩
      have HR := Lib.hid (fun w' : World => readGroup_any _ (grp (digitsOf l) g) hgs hg4 b N hb hN w')
      have HBB := Lib.hid hb
      have HNN := Lib.hid hN
      have hN24 : N < 16777216 := by
        rw [hN]
        have := grpN_lt (grp (digitsOf l) g)
        rw [hg4] at this
        split
        · exact this
        · omega
      have s1 : (g : Int) * 4 ≤ ((g : Int) + 1) * 4 := by omega
      have s2 : ((g : Int) + 1) * 4 ≤ 44 := by omega
      have BW := Lib.hid hbw
      clear hgs hg4 hb hN hbw
      rcases b with _ | _
      · have hnone : parseK l = none := by
          unfold parseK
          rw [if_pos ⟨HN.out, H61.out⟩, if_neg]
          rintro ⟨h, _⟩
          unfold allOk at h
          rw [List.all_eq_true] at h
          have := h g (List.mem_range.2 hlt)
          rw [HBB.out] at this
          cases this
        have HNO := Lib.hid hnone
        clear hnone
        go_wp2_with fail
        refine (HR.out _).mono ?_
        rintro e w2 ⟨rfl, rfl⟩
        go_wp2_with (refine wpList_store_blk rfl 24 (.tmp 2) (.tmp 39) rfl w.heap.size (zeros 32) rfl rfl 24 (zeros 32) hbK (by kernel_rfl) rfl (zeros_one 32) ?_; intro w9 hb9 hg9)
        refine bodyPost_ret (results_key rfl _ _ w.heap.size 24 (zeros 32) 32 5 rfl hb9 Tryz.underlying24 (by kernel_rfl)) rfl (.inr ⟨HNO.out, by rw [zeros_key]; rfl, below_blk BW.out hg9 (Nat.le_refl _)⟩)
      · have HB := Lib.hid (big_any N (by omega) 3 (by omega) (by omega))
        have hwr : IntKind.i64.wrap ((g : Int) * 3) = (g : Int) * 3 := IntWalk.i64_in _ (by omega)
        have hsl : ∀ w' : World, (Instr.sliceAt 89 (.pointer (some ⟨W.heap.size, 0, none⟩)) (some (.int .i64 ((g : Int) * 3))) none none).run Tryz.prog w' = .ok (.slice (some ⟨W.heap.size, g * 3, none⟩) (33 - g * 3) (33 - g * 3)) w' :=
          fun w' => run_slice_array_from (P := Tryz.prog) w' 89 5 33 Tryz.underlying89 i0 hi hz1 W.heap.size .i64 (g * 3) ((g : Int) * 3) (by omega) (by omega)
        go_wp2_with fail
        refine (HR.out _).mono ?_
        rintro e w2 ⟨rfl, rfl⟩
        go_wp2_with fail
        refine wp_region_held_drew (S := fun _ => True) (by kernel_rfl) (trivial) (fun hHeld => ?_)
        refine take_first (v := ?_) 0 rfl (by kernel_rfl) (by kernel_rfl) (by kernel_rfl) (fun _ _ _ h => h) (Or.inl ⟨by rfl, ?_⟩) (by assumption) ?_
        rotate_left
        · (intro w hSw; (try dsimp only at hSw); go_simp; try with_reducible rfl)
        (try simp only [Act.put, List.setIfInBounds_toArray, List.set_cons_zero, List.set_cons_succ])
        refine take_first (v := ?_) 1 rfl (by kernel_rfl) (by kernel_rfl) (by kernel_rfl) (fun _ _ _ h => h) (Or.inl ⟨by rfl, ?_⟩) (by assumption) ?_
        rotate_left
        · (intro w hSw; (try dsimp only at hSw); go_simp; try with_reducible rfl)
        (try simp only [Act.put, List.setIfInBounds_toArray, List.set_cons_zero, List.set_cons_succ])
        refine take_first (v := ?_) 2 rfl (by kernel_rfl) (by kernel_rfl) (by kernel_rfl) (fun _ _ _ h => h) (Or.inl ⟨by rfl, ?_⟩) (by assumption) ?_
        rotate_left
        · (intro w hSw; (try dsimp only at hSw); go_simp; try with_reducible rfl)
        (try simp only [Act.put, List.setIfInBounds_toArray, List.set_cons_zero, List.set_cons_succ])
        refine take_first (v := ?_) 3 rfl (by kernel_rfl) (by kernel_rfl) (by kernel_rfl) (fun _ _ _ h => h) (Or.inl ⟨by rfl, ?_⟩) (by assumption) ?_
        rotate_left
        · (intro w hSw; (try dsimp only at hSw); go_simp; try with_reducible rfl)
        (try simp only [Act.put, List.setIfInBounds_toArray, List.set_cons_zero, List.set_cons_succ])
        refine step_one 4 rfl (by kernel_rfl) (fun K hK => ?_)
        go_simp
        refine (HB.out _).mono ?_
        rintro e w3 ⟨rfl, hown3, hbel⟩
        go_wp2_with fail
        refine hK.out _ _ (trivial) (fun hHeld => ?_)
        clear hK K
        (try simp only [Act.put, List.setIfInBounds_toArray, List.set_cons_zero, List.set_cons_succ])
        refine step_one 5 rfl (by kernel_rfl) (fun K hK => ?_)
        refine step_copy_bytes _ rfl (.tmp 42) (.tmp 44) 22 22 (by rfl) 5 Tryz.underlying22 (by kernel_rfl) W.heap.size (g * 3) (33 - g * 3) (33 - g * 3) ⟨wr.heap.size, 0, none⟩ 3 3 (by rfl) (by rfl) ((fillRow (digitsOf l) g).map u8v) 89 (hbF.drew.below hbel hbF.lt) ((bytes3 N).map u8v) (by rw [List.length_map, bytes3_length]; show 3 = min 3 (33 - g * 3); omega) (own_read hown3) (by rw [List.length_map, List.length_map, bytes3_length, fillRow_length _ g hg]; omega) (u8v_one _) ?_
        intro w4 hb4 hg4
        refine hK.out _ _ (trivial) (fun hHeld => ?_)
        clear hK K
        (try simp only [Act.put, List.setIfInBounds_toArray, List.set_cons_zero, List.set_cons_succ])
        refine wpAnyH_done (by kernel_rfl) ?_ _
        have BW4 := Lib.hid (below_blk ((BW.out.drew).trans (hbel.mono BW.out.drew.size)) hg4 (by omega))
        have hbK4 := ((hbK.drew).below hbel hbK.drew.lt).grown hg4 (by simp; omega)
        have hN' : grpN (grp (digitsOf l) g) = N := by rw [HNN.out]; rfl
        rw [fillRow_step (digitsOf l) g N hlt hN'] at hb4
        have HB4 := Lib.hid hb4
        have HK4 := Lib.hid hbK4
        clear hb4 hg4 hbK4 hbel hown3 hHeld hbF hbK hN'
        go_wp2
        go_roundw
        case rel => exact ⟨g + 1, by omega, by go_num, Lib.hid (by rw [allOk_succ, hok.out, HBB.out]; rfl), HB4.out, HK4.out, BW4.out⟩
        case measure => simp [intOf]; omega
    · obtain rfl : g = 11 := by omega
      have hF : fillRow (digitsOf l) 11 = fill (digitsOf l) 11 := by simp [fillRow]
      rw [hF] at hbF
      have hFl := fill_length (digitsOf l) 11
      obtain ⟨x, hx⟩ : ∃ x, (fill (digitsOf l) 11).getD 32 0 = x := ⟨_, rfl⟩
      have hcx : wr.cell? ⟨W.heap.size, 32, none⟩ = some (.int .u8 (x.toNat : Int)) := by
        rw [hbF.cell 32, map_u8v_getElem? _ 32 (by omega), ← hx, getD_lt (by omega)]
      have HX := Lib.hid hx
      have HFL := Lib.hid hFl
      have BW := Lib.hid hbw
      clear hF hFl hx hbw
      by_cases hx0 : x.toNat = 0
      · obtain ⟨q, hq⟩ : ∃ q, (fill (digitsOf l) 11).take 32 = q := ⟨_, rfl⟩
        have hq32 : q.length = 32 := by rw [← hq, List.length_take, HFL.out]; rfl
        have hsome : parseK l = some q := by
          unfold parseK
          rw [if_pos ⟨HN.out, H61.out⟩, if_pos ⟨hok.out, by rw [HX.out]; exact UInt8.toNat_inj.1 (by rw [hx0]; rfl)⟩, hq]
        have HSO := Lib.hid hsome
        have HQ := Lib.hid hq32
        obtain ⟨r, hr⟩ : ∃ r, (fill (digitsOf l) 11).map u8v = q.map u8v ++ r := ⟨((fill (digitsOf l) 11).drop 32).map u8v, by rw [← hq, ← List.map_append, List.take_append_drop]⟩
        rw [hr] at hbF
        have hx0' : (x.toNat : Int) = 0 := by omega
        clear hsome hq hq32 hr hx0
        go_wp2_with fail
        generalize hW5 : wr.alloc _ = W5
        have k1 : Blk W5 wr.heap.size 24 (zeros 32) := by rw [← hW5]; exact Blk.new wr 24 (zeros 32)
        have k2 : Blk W5 W.heap.size 89 (q.map u8v ++ r) := by rw [← hW5]; exact hbF.alloc _
        have k3 : Blk W5 w.heap.size 24 (zeros 32) := by rw [← hW5]; exact hbK.alloc _
        have k4 : Below w.heap.size w W5 := by rw [← hW5]; exact BW.out.alloc (BW.out.size) _
        have hl1 : W.heap.size < wr.heap.size := hbF.lt
        have K1 := Lib.hid k1
        have K2 := Lib.hid k2
        have K3 := Lib.hid k3
        have K4 := Lib.hid k4
        clear hW5 k1 k2 k3 k4 hbF hbK hcx
        refine wp_region_held_drew (S := fun _ => True) (by kernel_rfl) (trivial) (fun hHeld => ?_)
        refine take_first (v := ?_) 0 rfl (by kernel_rfl) (by kernel_rfl) (by kernel_rfl) (fun _ _ _ h => h) (Or.inl ⟨by rfl, ?_⟩) (by assumption) ?_
        rotate_left
        · (intro w hSw; (try dsimp only at hSw); go_simp; try with_reducible rfl)
        (try simp only [Act.put, List.setIfInBounds_toArray, List.set_cons_zero, List.set_cons_succ])
        refine take_first (v := ?_) 1 rfl (by kernel_rfl) (by kernel_rfl) (by kernel_rfl) (fun _ _ _ h => h) (Or.inl ⟨by rfl, ?_⟩) (by assumption) ?_
        rotate_left
        · (intro w hSw; (try dsimp only at hSw); go_simp; try with_reducible rfl)
        (try simp only [Act.put, List.setIfInBounds_toArray, List.set_cons_zero, List.set_cons_succ])
        refine step_one 2 rfl (by kernel_rfl) (fun K hK => ?_)
        refine step_copy_bytes _ rfl (.tmp 51) (.tmp 52) 22 22 (by rfl) 5 Tryz.underlying22 (by kernel_rfl) wr.heap.size 0 32 32 ⟨W.heap.size, 0, none⟩ 33 33 (by rfl) (by rfl) (zeros 32) 24 K1.out.drew (q.map u8v) (by simp [HQ.out]) (blk_read K2.out.drew) (by simp [HQ.out, zeros]) (u8v_one _) ?_
        intro w6 hb6 hg6
        refine hK.out _ _ (trivial) (fun hHeld => ?_)
        clear hK K
        (try simp only [Act.put, List.setIfInBounds_toArray, List.set_cons_zero, List.set_cons_succ])
        refine wpAnyH_done (by kernel_rfl) ?_ _
        have m1 : q.map u8v = (zeros 32).take 0 ++ q.map u8v ++ (zeros 32).drop (0 + (q.map u8v).length) := by simp [HQ.out, zeros]
        rw [← m1] at hb6
        have k5 := (K3.out.drew).grown hg6 (by simp; omega)
        have k6 := Lib.hid (below_blk (K4.out.drew) hg6 (by omega))
        clear hg6 hHeld m1
        go_wp2_with (first | (refine wpList_load_blk rfl 24 (.tmp 9) rfl wr.heap.size rfl 24 (q.map u8v) hb6 32 5 Tryz.underlying24 (by rw [List.length_map, HQ.out]; exact key_size) ?_) | (refine wpList_store_blk rfl 24 (.tmp 2) (.tmp 54) rfl w.heap.size (q.map u8v) rfl rfl 24 (zeros 32) k5 (by rw [List.length_map, HQ.out]; exact key_size) (by simp [HQ.out, zeros]) (u8v_one _) ?_; intro w9 hb9 hg9))
        refine bodyPost_ret (results_key rfl _ _ w.heap.size 24 (q.map u8v) 32 5 rfl hb9 Tryz.underlying24 (by rw [List.length_map, HQ.out]; exact key_size)) rfl (.inl ⟨q, HSO.out, rfl, below_blk k6.out hg9 (Nat.le_refl _)⟩)
      · have hnone : parseK l = none := by
          unfold parseK
          rw [if_pos ⟨HN.out, H61.out⟩, if_neg]
          rintro ⟨_, h⟩
          rw [HX.out] at h
          apply hx0
          rw [h]
          rfl
        have HNO := Lib.hid hnone
        have hx0' : ¬ (x.toNat : Int) = 0 := by omega
        clear hnone hx0
        go_wp2_with (refine wpList_store_blk rfl 24 (.tmp 2) (.tmp 50) rfl w.heap.size (zeros 32) rfl rfl 24 (zeros 32) hbK (by kernel_rfl) rfl (zeros_one 32) ?_; intro w9 hb9 hg9)
        refine bodyPost_ret (results_key rfl _ _ w.heap.size 24 (zeros 32) 32 5 rfl hb9 Tryz.underlying24 (by kernel_rfl)) rfl (.inr ⟨HNO.out, by rw [zeros_key]; rfl, below_blk BW.out hg9 (Nat.le_refl _)⟩)
end Go.Proofs.YtcbfchkhbngpkaaGreatDoor
namespace Go.Proofs.YtcbfchkhbngpkaaGreatDoor
open Go.RowKit

theorem size32 {n : Nat} (h : n = 32) : (Tryz.prog.info? 24).map (·.size) = some n := by rw [h]; exact key_size
theorem parseKey_any (S : ByteArray) (l : List UInt8) (hS : S = ⟨l.toArray⟩) (hn : l.length ≤ 1000000) (w : World) :
    Calls Tryz.prog 148 #[.string S] w (KeyRes l w) := by
  by_cases h1 : l.length = 44
  · by_cases h2 : l.getD 43 0 = 61
    · exact parseKey_main S l hS h1 h2 w
    · exact parseKey_pad S l hS h1 h2 w
  · exact parseKey_short S l hS hn h1 w
end Go.Proofs.YtcbfchkhbngpkaaGreatDoor
namespace Go.Proofs.YtcbfchkhbngpkaaGreatDoor
open Go.RowKit

def pubsV (ps : List PeerM) : List (List Value) := ps.map fun p => p.pub.map u8v
def alls (ps : List PeerM) : List (AddrM × Int) := ps.flatMap fun p => p.al
theorem pubsV_snoc (l : List PeerM) (p : PeerM) : (pubsV (l ++ [p])).flatten = (pubsV l).flatten ++ p.pub.map u8v := by simp [pubsV]
theorem alls_snoc (l : List PeerM) (p : PeerM) : alls (l ++ [p]) = alls l ++ p.al := by simp [alls]
theorem pfs_app (a b : List (AddrM × Int)) : (pfsV (a ++ b)).flatten = (pfsV a).flatten ++ (pfsV b).flatten := by simp [pfsV]
theorem alls_le {ps : List PeerM} (h : ∀ p ∈ ps, p.al.length ≤ 1000) : (alls ps).length ≤ 1000 * ps.length := by
  induction ps with
  | nil => simp [alls]
  | cons p r ih =>
    have h1 := h p (List.mem_cons_self ..)
    have h2 := ih fun q hq => h q (List.mem_cons_of_mem _ hq)
    simp only [alls, List.flatMap_cons, List.length_append, List.length_cons] at h2 ⊢
    omega
theorem pfs_one (l : List (AddrM × Int)) : ∀ u ∈ (pfsV l).flatten, u.oneCell' = true := by
  intro u hu
  obtain ⟨o, ho, hu⟩ := List.mem_flatten.1 hu
  obtain ⟨q, _, rfl⟩ := List.mem_map.1 ho
  exact prefC_one _ _ u hu
theorem peer_one (p : PeerM) (A : Option Addr) (n c : Nat) : ∀ v ∈ p.cells (.slice A n c), v.oneCell' = true := by
  intro v hv
  simp only [PeerM.cells, List.mem_append, List.mem_cons, List.mem_map, List.not_mem_nil, or_false] at hv
  rcases hv with ⟨x, _, rfl⟩ | ⟨x, _, rfl⟩ | rfl | hv | rfl | rfl
  · rfl
  · rfl
  · rfl
  · exact prefC_one _ _ v hv
  · rfl
  · rfl
theorem peer_cellsOf (p : PeerM) (h : p.ok) (v : Value) : (Tryz.prog.info? 57).map (·.size) = some (p.cells v).length := by
  rw [PeerM.cells_length h]; kernel_rfl
theorem peer_al {w : World} {g : Nat} {t : TypeId} {p : PeerM} {v : Value} (h : Blk w g t (p.cells v)) (hp : p.ok) : w.cell? ⟨g, 84, none⟩ = some v := by
  rw [h.cell]
  have h1 : (p.pub.map u8v).length = 32 := by rw [List.length_map, hp.1]
  have h2 : (p.sha.map u8v).length = 32 := by rw [List.length_map, hp.2.1]
  rw [PeerM.cells, List.getElem?_append_right (by omega), List.getElem?_append_right (by omega), h1, h2, show 84 - 32 - 32 = 19 + 1 from rfl, List.getElem?_cons_succ, List.getElem?_append_right (by rw [prefC_length p.ea hp.2.2.1]; omega), prefC_length p.ea hp.2.2.1]
  rfl
theorem peer_pub {w : World} {g : Nat} {t : TypeId} {p : PeerM} {v : Value} (h : Blk w g t (p.cells v)) : At w g 0 (p.pub.map u8v) := fun j u hj => h.all j u (by
  rw [PeerM.cells, List.getElem?_append_left (List.getElem?_eq_some_iff.1 hj).1]; exact hj)
set_option maxRecDepth 100000 in
set_option maxHeartbeats 8000000 in
theorem collect_any (A : Option Addr) (n c : Nat) (ps : List PeerM) (w : World) (hr : PeRd w w.heap.size A n ps) (hn : n ≤ 1000) (ha : ∀ p ∈ ps, p.al.length ≤ 1000) :
    Calls Tryz.prog 31 #[.slice A n c] w fun e w' => ∃ v1 v2, e = .returned (.tuple #[v1, v2]) ∧ TwoR w.heap.size 24 32 v1 n (pubsV ps).flatten 60 18 v2 (alls ps).length (pfsV (alls ps)).flatten w' ∧ Below w.heap.size w w' := by
  have HR := Lib.hid hr
  have HA := Lib.hid ha
  have HN := Lib.hid hn
  have hlen := hr.len
  obtain ⟨ki, hki, hkz, hks, hkb⟩ := keyInfo
  obtain ⟨pi, hpi, hpz, hps, hpb⟩ := prefInfo
  have HKI := Lib.hid (And.intro hki (And.intro hkz (And.intro hks hkb)))
  have HPI := Lib.hid (And.intro hpi (And.intro hpz (And.intro hps hpb)))
  clear hki hkz hks hkb hpi hpz hps hpb hr ha hn
  go_enter Tryz.func31, Tryz.ntmps31
  go_wp2_with fail
  go_loopw [10, 4, 5] (fun i v1 v2 wr => ∃ j : Nat, j ≤ n ∧ i = .int .i64 (j : Int) ∧ TwoR w.heap.size 24 32 v1 j (pubsV (ps.take j)).flatten 60 18 v2 (alls (ps.take j)).length (pfsV (alls (ps.take j))).flatten wr ∧ Below w.heap.size w wr) (fun i _ _ _ => n - (intOf i).toNat)
  case atStart => exact ⟨0, Nat.zero_le _, rfl, ⟨⟨rfl, .inl ⟨rfl, rfl⟩⟩, ⟨rfl, .inl ⟨rfl, rfl⟩⟩, fun k h => by cases h⟩, Below.refl _ _⟩
  case round =>
    obtain ⟨j, hj, rfl, hT, hW⟩ := hrel
    have HT := Lib.hid hT
    have HW := Lib.hid hW
    clear hT hW
    by_cases hjn : j < n
    · have d1 : decide ((j : Int) < (n : Int)) = true := by simp; omega
      obtain ⟨b, off, rfl⟩ := HR.out.addr (by omega)
      obtain ⟨p, hp⟩ : ∃ p, ps[j]? = some p := ⟨ps[j]'(by omega), List.getElem?_eq_getElem _⟩
      obtain ⟨hpk, A', c', hcc, hcm, hpf, hbl, hat⟩ := HR.out.at j p hp
      have hal := HA.out p (List.mem_of_getElem? hp)
      have HP := Lib.hid (And.intro hp (And.intro hpk (And.intro hal (And.intro hcc hcm))))
      have HPF0 := Lib.hid hpf
      have HAT := Lib.hid (show At wr b (off + j * 85) (p.cells (.slice A' p.al.length c')) from fun q v hv => (World.cell?_of_block (HW.out.block b hbl)).trans (hat q v hv))
      obtain ⟨oc, hoc⟩ : ∃ z, (p.cells (.slice A' p.al.length c')).toArray = z := ⟨_, rfl⟩
      have HOC := Lib.hid hoc
      have HSZ := Lib.hid hlen
      obtain ⟨zs, hzs⟩ : ∃ z, (#[.int .u8 0, .int .u8 0, .int .u8 0, .int .u8 0, .int .u8 0, .int .u8 0, .int .u8 0, .int .u8 0, .int .u8 0, .int .u8 0, .int .u8 0, .int .u8 0, .int .u8 0, .int .u8 0, .int .u8 0, .int .u8 0, .int .u8 0, .int .u8 0, .int .u8 0, .int .u8 0, .int .u8 0, .int .u8 0, .int .u8 0, .int .u8 0, .int .u8 0, .int .u8 0, .int .u8 0, .int .u8 0, .int .u8 0, .int .u8 0, .int .u8 0, .int .u8 0, .int .u8 0, .int .u8 0, .int .u8 0, .int .u8 0, .int .u8 0, .int .u8 0, .int .u8 0, .int .u8 0, .int .u8 0, .int .u8 0, .int .u8 0, .int .u8 0, .int .u8 0, .int .u8 0, .int .u8 0, .int .u8 0, .int .u8 0, .int .u8 0, .int .u8 0, .int .u8 0, .int .u8 0, .int .u8 0, .int .u8 0, .int .u8 0, .int .u8 0, .int .u8 0, .int .u8 0, .int .u8 0, .int .u8 0, .int .u8 0, .int .u8 0, .int .u8 0, .bool false, .bool false, .int .u8 0, .int .u8 0, .int .u8 0, .int .u8 0, .int .u8 0, .int .u8 0, .int .u8 0, .int .u8 0, .int .u8 0, .int .u8 0, .int .u8 0, .int .u8 0, .int .u8 0, .int .u8 0, .int .u8 0, .int .u8 0, .int .i64 0, .int .i64 0, .slice none 0 0] : Array Value).toList = z := ⟨_, rfl⟩
      have HZB := Lib.hid (show Blk (wr.alloc (.cells #[.int .u8 0, .int .u8 0, .int .u8 0, .int .u8 0, .int .u8 0, .int .u8 0, .int .u8 0, .int .u8 0, .int .u8 0, .int .u8 0, .int .u8 0, .int .u8 0, .int .u8 0, .int .u8 0, .int .u8 0, .int .u8 0, .int .u8 0, .int .u8 0, .int .u8 0, .int .u8 0, .int .u8 0, .int .u8 0, .int .u8 0, .int .u8 0, .int .u8 0, .int .u8 0, .int .u8 0, .int .u8 0, .int .u8 0, .int .u8 0, .int .u8 0, .int .u8 0, .int .u8 0, .int .u8 0, .int .u8 0, .int .u8 0, .int .u8 0, .int .u8 0, .int .u8 0, .int .u8 0, .int .u8 0, .int .u8 0, .int .u8 0, .int .u8 0, .int .u8 0, .int .u8 0, .int .u8 0, .int .u8 0, .int .u8 0, .int .u8 0, .int .u8 0, .int .u8 0, .int .u8 0, .int .u8 0, .int .u8 0, .int .u8 0, .int .u8 0, .int .u8 0, .int .u8 0, .int .u8 0, .int .u8 0, .int .u8 0, .int .u8 0, .int .u8 0, .bool false, .bool false, .int .u8 0, .int .u8 0, .int .u8 0, .int .u8 0, .int .u8 0, .int .u8 0, .int .u8 0, .int .u8 0, .int .u8 0, .int .u8 0, .int .u8 0, .int .u8 0, .int .u8 0, .int .u8 0, .int .u8 0, .int .u8 0, .int .i64 0, .int .i64 0, .slice none 0 0] 57)) wr.heap.size 57 zs from by rw [← hzs]; exact Blk.new wr 57 _)
      have HZL := Lib.hid (show zs.length = 85 from by rw [← hzs]; rfl)
      clear hp hpk hal hpf hbl hat hoc hcc hcm hzs
      go_upto_region 5 with fail
      go_upto_region 6 with (first | ((with_reducible refine at_op (.load 57 (.tmp 12)) rfl ?_); refine wpList_load_obj rfl 57 (.tmp 12) rfl b _ rfl _ HAT.out _ Tryz.underlying57 rfl (peer_cellsOf p HP.out.2.1 _) ?_; rw [HOC.out]) | ((with_reducible refine at_op (.store 57 (.tmp 7) (.tmp 13)) rfl ?_); refine wpList_store_obj rfl 57 (.tmp 7) (.tmp 13) rfl wr.heap.size 0 (p.cells (.slice A' p.al.length c')) rfl (by show Value.agg oc = _; rw [HOC.out]) 57 zs HZB.out (peer_cellsOf p HP.out.2.1 _) (by rw [PeerM.cells_length HP.out.2.1, HZL.out]; decide) (peer_one p A' _ c') ?_; intro w2 hb2 hg2))
      rw [setL_all zs _ (by rw [PeerM.cells_length HP.out.2.1, HZL.out])] at hb2
      have hbl2 : Below wr.heap.size wr w2 := ((Below.refl _ _).alloc (Nat.le_refl _) _).grown hg2 (by simp) (by intro k hk; injection hk with hk; omega)
      have HBK := Lib.hid hb2
      have HT2 := Lib.hid (HT.out.below hbl2)
      have HW2 := Lib.hid (HW.out.trans (hbl2.mono HW.out.size))
      have HG := Lib.hid (And.intro hb2.lt HW.out.size)
      have HNE := Lib.hid (show (∀ k, u4.ownBlock = some k → k < wr.heap.size) ∧ (∀ k, u5.ownBlock = some k → k < wr.heap.size) from ⟨fun k e => (own_lt HT.out.1 e).2, fun k e => (own_lt HT.out.2.1 e).2⟩)
      generalize wr.heap.size = g at HBK HG HNE hb2 hg2 hbl2 HZB ⊢
      clear hb2 hg2 hbl2 HZB HAT HOC HW HT
      have hpk := HP.out.2.1
      obtain ⟨kc, hkc⟩ : ∃ z, (p.pub.map u8v).toArray = z := ⟨_, rfl⟩
      have HKC := Lib.hid hkc
      clear hkc
      have HTA := Lib.hid (HT2.out.below ((Below.refl _ _).alloc (Nat.le_refl _) (.cells kc 24)))
      have HWA := Lib.hid (HW2.out.trans (((Below.refl _ _).alloc (Nat.le_refl _) (.cells kc 24)).mono HW2.out.size))
      have HBA := Lib.hid (HBK.out.below ((Below.refl _ _).alloc (Nat.le_refl _) (.cells kc 24)) HBK.out.lt)
      have HRK := Lib.hid (show RdRow (w2.alloc (.cells kc 24)) (w2.alloc (.cells kc 24)).heap.size (some ⟨w2.heap.size, 0, none⟩) 32 1 [p.pub.map u8v] from blk_row (t := 24) (rest := []) (by rw [← HKC.out]; simpa using Blk.new w2 24 (p.pub.map u8v)) (by intro o ho; rw [List.mem_singleton] at ho; rw [ho, List.length_map, HP.out.2.1.1]) rfl)
      have hpl := (alls_le fun q hq => HA.out q (List.mem_of_mem_take hq : q ∈ ps) : (alls (ps.take j)).length ≤ 1000 * (ps.take j).length)
      have HPL := Lib.hid (show (alls (ps.take j)).length + p.al.length ≤ 10000000 ∧ j + 1 ≤ 1000 from by
        have h1 := HP.out.2.2.1
        have h2 := HN.out
        rw [List.length_take] at hpl
        omega)
      have HML := Lib.hid (show maxLen = 9223372036854775807 from rfl)
      clear hpl
      go_upto_region 7 with (first | ((with_reducible refine at_op (.load 24 (.tmp 15)) rfl ?_); refine wpList_load_obj rfl 24 (.tmp 15) rfl g 0 rfl (p.pub.map u8v) (peer_pub HBK.out) _ Tryz.underlying24 rfl (size32 (by rw [List.length_map, HP.out.2.1.1])) ?_; rw [HKC.out]) | (refine wpList_buildOne rfl 70 24 (.tmp 16) rfl kc rfl 32 Tryz.underlying70 ki HKI.out.1 HKI.out.2.2.1 _ HKI.out.2.1 (by decide) (by decide) (by rw [← HKC.out, List.size_toArray, List.length_map, HP.out.2.1.1]) ?_) | (at_builtin; refine wpList_append_rows _ rfl (.tmp 14) (.tmp 17) 70 rfl w.heap.size 24 ki _ 32 32 Tryz.underlying70 HKI.out.1 HKI.out.2.1 HKI.out.2.2.1 HKI.out.2.2.2 (by rfl) (by decide) _ j (pubsV (ps.take j)).flatten rfl HTA.out.1 _ _ 1 1 [p.pub.map u8v] rfl HRK.out (by simpa using u8v_one p.pub) (by have := HPL.out; have := HML.out; omega) (by have := HPL.out; omega) HWA.out.size ?_; intro v3 w3 ho3 hg3 hv3))
      have hT3 := HTA.out.first ho3 hg3 hv3
      have hW3 := HTA.out.grown HWA.out (Nat.le_refl _) hg3
      have hB3 : Blk w3 g 57 (p.cells (.slice A' p.al.length c')) := by
        have h0 := HBA.out
        unfold Blk at h0 ⊢
        rw [hg3.block g HBA.out.lt (fun e => by have := HNE.out.1 g e.symm; omega)]
        exact h0
      have hal3 := peer_al hB3 HP.out.2.1
      have HT3 := Lib.hid hT3.swap
      have HW3 := Lib.hid hW3
      have HPF3 := Lib.hid (HPF0.out.below hW3)
      clear hT3 hW3 hB3 ho3 hg3 hv3 HTA HWA HBA HRK
      go_upto_region 7 with fail
      go_upto_region 8 with (at_builtin; refine wpList_append_rows _ rfl (.tmp 19) (.tmp 21) 49 rfl w.heap.size 60 pi _ 18 32 Tryz.underlying49 HPI.out.1 HPI.out.2.1 HPI.out.2.2.1 HPI.out.2.2.2 (by rfl) (by decide) _ (alls (ps.take j)).length (pfsV (alls (ps.take j))).flatten rfl HT3.out.1 _ _ p.al.length c' (pfsV p.al) rfl HPF3.out.1 (pfs_one p.al) (by have := HPL.out; have := HML.out; omega) (by have := HPL.out; omega) HW3.out.size ?_; intro v4 w4 ho4 hg4 hv4)
      have hT4 := (HT3.out.first ho4 hg4 hv4).swap
      have hW4 := HT3.out.grown HW3.out (Nat.le_refl _) hg4
      have HT4 := Lib.hid hT4
      have HW4 := Lib.hid hW4
      clear hT4 hW4 ho4 hg4 hv4 HT3 HW3 HPF3 hal3
      obtain ⟨j2, hj2⟩ : ∃ z, j + 1 = z := ⟨_, rfl⟩
      have e8 : (j : Int) + 1 = (j2 : Int) := by omega
      have w8' : IntKind.i64.wrap (j2 : Int) = (j2 : Int) := by have := HPL.out; rw [IntKind.wrap_i64]; omega
      have HJ2 := Lib.hid (show j2 = j + 1 ∧ j + 1 ≤ n ∧ n - j2 < n - j from by omega)
      clear hj2 hj hjn
      go_wp2_with fail
      go_roundw
      case rel => exact ⟨j2, by have := HJ2.out; omega, rfl, by
        have h := HT4.out
        have e : ps.take j2 = ps.take j ++ [p] := by rw [HJ2.out.1]; exact take_snoc HP.out.1
        rw [e, pubsV_snoc, alls_snoc, pfs_app, List.length_append, HJ2.out.1]
        simpa using h, HW4.out⟩
      case measure => have := HJ2.out; simp [intOf]; omega
    · obtain rfl : j = n := by omega
      have d1 : decide ((j : Int) < (j : Int)) = false := by simp
      have HT9 := HT
      have HW9 := HW
      have HE := Lib.hid (show ps.take j = ps from List.take_of_length_le (by omega))
      go_wp2
      go_ret2
      exact ⟨_, _, rfl, by have h := HT9.out; rw [HE.out] at h; exact h, HW9.out⟩
end Go.Proofs.YtcbfchkhbngpkaaGreatDoor
namespace Go.Proofs.YtcbfchkhbngpkaaGreatDoor
open Go.RowKit

def idxN (p : Nat → Bool) (n : Nat) : Int := match (List.range n).find? p with
  | none => -1
  | some i => (i : Int)
theorem idxN_none {p : Nat → Bool} {n : Nat} (h : ∀ q, q < n → p q = false) : idxN p n = -1 := by
  have e : (List.range n).find? p = none := List.find?_eq_none.2 fun x hx => by rw [h x (List.mem_range.1 hx)]; simp
  rw [idxN, e]
theorem idxN_some {p : Nat → Bool} {n j : Nat} (hj : j < n) (hp : p j = true) (h : ∀ q, q < j → p q = false) : idxN p n = (j : Int) := by
  have e : (List.range n).find? p = some j := by
    rw [List.find?_eq_some_iff_append]
    refine ⟨hp, List.range j, (List.range (n - (j + 1))).map (· + (j + 1)), ?_, fun x hx => by rw [h x (List.mem_range.1 hx)]; rfl⟩
    have h1 : List.range n = List.range (j + 1 + (n - (j + 1))) := by rw [show j + 1 + (n - (j + 1)) = n by omega]
    rw [h1, List.range_add, List.range_succ, List.append_assoc]
    congr 1
    simp only [List.singleton_append, List.cons.injEq, true_and]
    exact List.map_congr_left fun x _ => by omega
  rw [idxN, e]
theorem idxN_ge (p : Nat → Bool) (n : Nat) : decide (0 ≤ idxN p n) = (List.range n).any p := by
  unfold idxN
  cases h : (List.range n).find? p with
  | none =>
    rw [List.find?_eq_none] at h
    have : (List.range n).any p = false := by
      rw [List.any_eq_false]
      exact h
    rw [this]
    rfl
  | some i =>
    have h1 := List.find?_some h
    have h2 := List.mem_of_find?_eq_some h
    have : (List.range n).any p = true := List.any_eq_true.2 ⟨i, h2, h1⟩
    rw [this]
    simp
end Go.Proofs.YtcbfchkhbngpkaaGreatDoor
namespace Go.Proofs.YtcbfchkhbngpkaaGreatDoor
open Go.RowKit

theorem eq_obj {P : Program} (m D : Nat) (t : TypeId) (hm : m ≤ 10000) (hk : P.keyTypeAt m t = true) (ht : P.tiled m t = true) (cs ds : List Value) (hc : LitsAt P D t cs) (hd : LitsAt P D t ds) (d : TypeDesc) (hu : P.underlying t = some d) (ho : isObj d = true) (hs : P.cellsOf t = cs.length) (hs2 : P.cellsOf t = ds.length) (b : Bool) (hb : b = true ↔ cs = ds) (w : World) :
    (Op.equalIn 10000 t (.agg cs.toArray) (.agg ds.toArray)).run P w = .ok b w := by
  obtain ⟨la, hla⟩ := hc
  obtain ⟨lb, hlb⟩ := hd
  have hf : (Value.agg cs.toArray).formed P t = true := by
    cases d <;> simp_all [Value.formed, isObj]
  have hg : (Value.agg ds.toArray).formed P t = true := by
    cases d <;> simp_all [Value.formed, isObj]
  obtain ⟨r, hr, hiff⟩ := run_equalIn_deep (P := P) (10000 - m) m t hk w D D (.agg cs.toArray) (.agg ds.toArray) la lb hf hg hla hlb
  rw [Nat.sub_add_cancel hm] at hr
  rw [hr]
  have h : r = true ↔ cs = ds := by
    rw [hiff]
    constructor
    · intro e
      rw [cells_of_lits m t ht D cs la hla, cells_of_lits m t ht D ds lb hlb, e]
    · rintro rfl
      rw [hla] at hlb
      exact Option.some.inj hlb
  rw [show r = b by rw [Bool.eq_iff_iff, h, hb]]
end Go.Proofs.YtcbfchkhbngpkaaGreatDoor
namespace Go.Proofs.YtcbfchkhbngpkaaGreatDoor
open Go.RowKit

theorem u8v_inj {x y : List UInt8} : x.map u8v = y.map u8v ↔ x = y := by
  refine List.map_inj_right (fun a b hab => ?_)
  have : ((a.toNat : Nat) : Int) = (b.toNat : Int) := by simpa [u8v] using hab
  exact UInt8.toNat.inj (by omega)
theorem key_lits (D : Nat) (k : List UInt8) (h : k.length = 32) : LitsAt Tryz.prog (D + 2) 24 (k.map u8v) :=
  lits_bytes Tryz.underlying24 Tryz.underlying5 (by kernel_rfl) k h (by kernel_rfl)
theorem key_eq (k l : List UInt8) (hk : k.length = 32) (hl : l.length = 32) (w : World) : (Op.equalIn 10000 24 (.agg (k.map u8v).toArray) (.agg (l.map u8v).toArray)).run Tryz.prog w = .ok (decide (k = l)) w :=
  eq_obj 5 3 24 (by omega) (by kernel_rfl) (by kernel_rfl) (k.map u8v) (l.map u8v) (key_lits 1 k hk) (key_lits 1 l hl) _ Tryz.underlying24 rfl (by rw [List.length_map, hk]; kernel_rfl) (by rw [List.length_map, hl]; kernel_rfl) _ (by rw [decide_eq_true_iff, u8v_inj]) w
theorem key_noguard : Tryz.prog.eqGuardType Tryz.prog.depth 24 = false := by kernel_rfl
end Go.Proofs.YtcbfchkhbngpkaaGreatDoor
namespace Go.Proofs.YtcbfchkhbngpkaaGreatDoor
open Go.RowKit

theorem run_eql_agg {P : Program} (ρ : Operand → Value) (o : Oper) (t r : TypeId) (i j : Tmp) (ho : o.op = .binOp .eql t (.tmp i) (.tmp j) r) (u v : Array Value) (b : Bool) (w : World) (hx : ρ (.tmp i) = .agg u) (hy : ρ (.tmp j) = .agg v) (hg : P.eqGuardType P.depth t = false) (he : (Op.equalIn 10000 t (.agg u) (.agg v)).run P w = .ok b w) :
    (execOp ρ o).run P w = .ok (.value (.bool b)) w := by
  have he2 : (Op.equalIn Op.maxDepth t (.agg u) (.agg v)).run P w = .ok b w := he
  unfold execOp
  simp only [ho, hx, hy, eqGuard]
  simp [binOp, Op.equal, he2, hg, Result.andThen]
end Go.Proofs.YtcbfchkhbngpkaaGreatDoor
namespace Go.Proofs.YtcbfchkhbngpkaaGreatDoor
open Go.RowKit

theorem addr_noguard : Tryz.prog.eqGuardType Tryz.prog.depth 53 = false := by kernel_rfl
theorem addr_lits (D : Nat) (a : AddrM) (h : a.ok) : LitsAt Tryz.prog (D + 3) 53 a.cells := by
  refine lits_struct Tryz.underlying53 a.cells ?_ (by simp) ?_
  · rw [AddrM.cells_length h]; kernel_rfl
  · intro f hf
    simp only [List.mem_cons, List.not_mem_nil, or_false] at hf
    rcases hf with rfl | rfl
    · have e : (a.cells.drop 0).take (Tryz.prog.cellsOf 4) = [.bool a.six] := by
        rw [show Tryz.prog.cellsOf 4 = 1 by kernel_rfl]; rfl
      exact e ▸ lits_bool Tryz.underlying4 a.six
    · have e : (a.cells.drop 1).take (Tryz.prog.cellsOf 51) = a.ip.map u8v := by
        rw [show Tryz.prog.cellsOf 51 = 16 by kernel_rfl, AddrM.cells, List.drop_succ_cons, List.drop_zero, List.take_of_length_le (by rw [List.length_map, h]; omega)]
      exact e ▸ lits_bytes Tryz.underlying51 Tryz.underlying5 (by kernel_rfl) a.ip h (by kernel_rfl)
end Go.Proofs.YtcbfchkhbngpkaaGreatDoor
namespace Go.Proofs.YtcbfchkhbngpkaaGreatDoor
open Go.RowKit

theorem addr_inj {a b : AddrM} : a.cells = b.cells ↔ a = b := by
  refine ⟨fun h => ?_, fun h => by rw [h]⟩
  cases a; cases b
  simp only [AddrM.cells, List.cons.injEq] at h
  obtain ⟨h1, h2⟩ := h
  injection h1 with h1
  rw [u8v_inj] at h2
  rw [h1, h2]
theorem prefC_inj {a b : AddrM} {i j : Int} (ha : a.ok) (hb : b.ok) : prefC a i = prefC b j ↔ a = b ∧ i = j := by
  refine ⟨fun h => ?_, fun h => by rw [h.1, h.2]⟩
  rw [prefC, prefC] at h
  have h1 := List.append_inj h (by rw [AddrM.cells_length ha, AddrM.cells_length hb])
  refine ⟨addr_inj.1 h1.1, ?_⟩
  have h2 := h1.2
  simp only [List.cons.injEq, Value.int.injEq, and_true, true_and] at h2
  exact h2
theorem pref_lits (D : Nat) (a : AddrM) (h : a.ok) (q : Int) (hq : inI64 q) : LitsAt Tryz.prog (D + 4) 60 (prefC a q) := by
  refine lits_struct Tryz.underlying60 (prefC a q) ?_ (by simp) ?_
  · rw [prefC_length a h q]; kernel_rfl
  · intro f hf
    simp only [List.mem_cons, List.not_mem_nil, or_false] at hf
    rcases hf with rfl | rfl
    · have e : ((prefC a q).drop 0).take (Tryz.prog.cellsOf 53) = a.cells := by
        rw [show Tryz.prog.cellsOf 53 = 17 by kernel_rfl]
        exact prefC_addr a h q
      exact e ▸ addr_lits D _ h
    · have e : ((prefC a q).drop 17).take (Tryz.prog.cellsOf 3) = [.int .i64 q] := by
        rw [show Tryz.prog.cellsOf 3 = 1 by kernel_rfl, prefC, List.drop_left' (AddrM.cells_length h)]; rfl
      exact e ▸ lits_int Tryz.underlying3 _ ⟨by simp [IntKind.min, IntKind.signed, IntKind.bits]; exact hq.1, by simp [IntKind.max, IntKind.signed, IntKind.bits]; exact hq.2⟩
theorem pref_eqd (a b : AddrM) (i j : Int) (ha : a.ok) (hb : b.ok) (hi : inI64 i) (hj : inI64 j) (w : World) : (Op.equalIn 10000 60 (.agg (prefC a i).toArray) (.agg (prefC b j).toArray)).run Tryz.prog w = .ok (decide (a = b ∧ i = j)) w :=
  eq_obj 7 4 60 (by omega) (by kernel_rfl) (by kernel_rfl) (prefC a i) (prefC b j) (pref_lits 0 a ha i hi) (pref_lits 0 b hb j hj) _ Tryz.underlying60 rfl (by rw [prefC_length a ha]; kernel_rfl) (by rw [prefC_length b hb]; kernel_rfl) _ (by rw [decide_eq_true_iff, prefC_inj ha hb]) w
theorem prefix_noguard : Tryz.prog.eqGuardType Tryz.prog.depth 60 = false := by kernel_rfl
end Go.Proofs.YtcbfchkhbngpkaaGreatDoor
namespace Go.Proofs.YtcbfchkhbngpkaaGreatDoor
open Go.RowKit

theorem wpList_eql_agg {P : Program} {w : World} {ops : Array Oper} {rest : List Oper} {o : Oper} {a : Act} {Q : Exit → Act → World → Prop} (hw : Region.wanted o (yielded ops a.tmps) = true) (t r : TypeId) (i j : Tmp) (ho : o.op = .binOp .eql t (.tmp i) (.tmp j) r) (u v : Array Value) (b : Bool)
    (hx : a.eval (.tmp i) = .agg u) (hy : a.eval (.tmp j) = .agg v) (hg : P.eqGuardType P.depth t = false) (he : (Op.equalIn 10000 t (.agg u) (.agg v)).run P w = .ok b w)
    (h : wpList P ops Q rest (a.put o.dst (.bool b)) w) : wpList P ops Q (o :: rest) a w :=
  wpList_step fun K hK => by
    rw [if_pos hw]
    have he2 : (Op.equalIn Op.maxDepth t (.agg u) (.agg v)).run P w = .ok b w := he
    have hr : (execOp a.eval o).run P w = .ok (.value (.bool b)) w := by
      unfold execOp
      simp only [ho, hx, hy, eqGuard]
      simp [binOp, Op.equal, he2, hg, Result.andThen]
    unfold Oper.wp
    rw [hr]
    exact hK _ _ h
end Go.Proofs.YtcbfchkhbngpkaaGreatDoor
namespace Go.Proofs.YtcbfchkhbngpkaaGreatDoor
open Go.RowKit

theorem run_cmp_agg {P : Program} (ρ : Operand → Value) (o : Oper) (t r : TypeId) (i j : Tmp) (neg : Bool) (ho : o.op = .binOp (if neg then .neq else .eql) t (.tmp i) (.tmp j) r) (u v : Array Value) (b : Bool) (w : World) (hx : ρ (.tmp i) = .agg u) (hy : ρ (.tmp j) = .agg v) (hg : P.eqGuardType P.depth t = false) (he : (Op.equalIn 10000 t (.agg u) (.agg v)).run P w = .ok b w) :
    (execOp ρ o).run P w = .ok (.value (.bool (if neg then !b else b))) w := by
  have he2 : (Op.equalIn Op.maxDepth t (.agg u) (.agg v)).run P w = .ok b w := he
  unfold execOp
  cases neg
  · rw [if_neg (by decide)] at ho
    simp only [ho, hx, hy, eqGuard]
    simp [binOp, Op.equal, he2, hg, Result.andThen]
  · rw [if_pos rfl] at ho
    simp only [ho, hx, hy, eqGuard]
    simp [binOp, Op.equal, he2, hg, Result.andThen]
theorem wpList_neq_agg {P : Program} {w : World} {ops : Array Oper} {rest : List Oper} {o : Oper} {a : Act} {Q : Exit → Act → World → Prop} (hw : Region.wanted o (yielded ops a.tmps) = true) (t r : TypeId) (i j : Tmp) (ho : o.op = .binOp .neq t (.tmp i) (.tmp j) r) (u v : Array Value) (b : Bool)
    (hx : a.eval (.tmp i) = .agg u) (hy : a.eval (.tmp j) = .agg v) (hg : P.eqGuardType P.depth t = false) (he : (Op.equalIn 10000 t (.agg u) (.agg v)).run P w = .ok b w)
    (h : wpList P ops Q rest (a.put o.dst (.bool (!b))) w) : wpList P ops Q (o :: rest) a w :=
  wpList_step fun K hK => by
    rw [if_pos hw]
    have hr := run_cmp_agg a.eval o t r i j true ho u v b w hx hy hg he
    unfold Oper.wp
    rw [hr]
    exact hK _ _ h
theorem yields_cmp_agg {P : Program} {ops : Array Oper} {S : World → Prop} {o : Oper} {a : Act} (neg : Bool) (hw : Region.wanted o (yielded ops a.tmps) = true) (t r : TypeId) (i j : Tmp) (ho : o.op = .binOp (if neg then .neq else .eql) t (.tmp i) (.tmp j) r) (u v : Array Value) (b : Bool)
    (hx : a.eval (.tmp i) = .agg u) (hy : a.eval (.tmp j) = .agg v) (hg : P.eqGuardType P.depth t = false) (he : ∀ w, (Op.equalIn 10000 t (.agg u) (.agg v)).run P w = .ok b w) : YieldsIf P ops S o (.bool (if neg then !b else b)) a :=
  .inl ⟨hw, fun w _ => run_cmp_agg a.eval o t r i j neg ho u v b w hx hy hg (he w)⟩
end Go.Proofs.YtcbfchkhbngpkaaGreatDoor
namespace Go.Proofs.YtcbfchkhbngpkaaGreatDoor
open Go.RowKit

structure Low where
  P : World → Prop
  keep : ∀ W W' : World, Below W.heap.size W W' → P W → P W'
/-- bytes that a slice reads as -/
def rdL (A : Option Addr) (n : Nat) (l : List UInt8) : Low := ⟨fun W => Rd W W.heap.size A n l, fun _ _ hb h => (h.below hb).mono hb.size⟩
/-- a block -/
def blkL (g : Nat) (t : TypeId) (cs : List Value) : Low := ⟨fun W => Blk W g t cs, fun _ _ hb h => h.below hb h.lt⟩
/-- a row of bytes that was made above base -/
def ownL (base : Nat) (v : Value) (n : Nat) (xs : List Value) : Low := ⟨fun W => W.ownsRow base 5 1 v n xs, fun _ _ hb h => ⟨h.1, by
  rcases h.2 with h1 | ⟨g, cap, cur, hv, hbg, hg, hr⟩
  · exact .inl h1
  · exact .inr ⟨g, cap, cur, hv, hbg, (hb.block g (h.lt g (by rw [hv]; rfl)).2).trans hg, hr⟩⟩⟩
def Lows (w0 : World) (E : List Low) (W : World) : Prop := (∀ f ∈ E, f.P W) ∧ Below w0.heap.size w0 W
section
variable {w0 W W' : World} {E : List Low}
theorem Lows.nil (w0 : World) : Lows w0 [] w0 := ⟨fun f hf => absurd hf (by simp), Below.refl _ _⟩
theorem Lows.bel (h : Lows w0 E W) : Below w0.heap.size w0 W := h.2
theorem Lows.size (h : Lows w0 E W) : w0.heap.size ≤ W.heap.size := h.2.size
theorem Lows.below (h : Lows w0 E W) (hb : Below W.heap.size W W') : Lows w0 E W' := ⟨fun f hf => f.keep _ _ hb (h.1 f hf), h.2.trans (hb.mono h.2.size)⟩
theorem Lows.drew (h : Lows w0 E W) : Lows w0 E W.drew := h.below ((Below.refl _ _).drew)
theorem Lows.cons (h : Lows w0 E W) (f : Low) (hf : f.P W) : Lows w0 (f :: E) W :=
  ⟨fun g hg => by
    rcases List.mem_cons.1 hg with rfl | hg
    · exact hf
    · exact h.1 g hg, h.2⟩
theorem Lows.get (h : Lows w0 E W) (i : Nat) {f : Low} (he : E[i]? = some f) : f.P W := h.1 _ (List.mem_of_getElem? he)
theorem Lows.rd (h : Lows w0 E W) (i : Nat) {A : Option Addr} {n : Nat} {l : List UInt8} (he : E[i]? = some (rdL A n l)) : Rd W W.heap.size A n l := h.get i he
theorem Lows.blk (h : Lows w0 E W) (i : Nat) {g : Nat} {t : TypeId} {cs : List Value} (he : E[i]? = some (blkL g t cs)) : Blk W g t cs := h.get i he
theorem Lows.own (h : Lows w0 E W) (i : Nat) {base : Nat} {v : Value} {n : Nat} {xs : List Value} (he : E[i]? = some (ownL base v n xs)) : W.ownsRow base 5 1 v n xs := h.get i he
theorem Lows.tail (h : Lows w0 E W) (i : Nat) : Lows w0 (E.eraseIdx i) W := ⟨fun f hf => h.1 f (List.mem_of_mem_eraseIdx hf), h.2⟩
/-- a new block -/
theorem Lows.alloc (h : Lows w0 E W) (t : TypeId) (arr : Array Value) (cs : List Value) (ha : arr = cs.toArray) : Lows w0 (blkL W.heap.size t cs :: E) (W.alloc (.cells arr t)) := by
  subst ha
  exact (h.below ((Below.refl _ _).alloc (Nat.le_refl _) _)).cons (blkL _ _ _) (Blk.new W t cs)
/-- a block above is written -/
theorem Lows.grown (h : Lows w0 E W) {W2 : World} (hb : Below W.heap.size W W') {row : Option Nat} (hg : W'.grownBy W2 row) (hr : ∀ k, row = some k → W.heap.size ≤ k) : Lows w0 E W2 := h.below (hb.grown hg hb.size hr)
/-- a new block that is written at once -/
theorem Lows.stored (h : Lows w0 E W) {t : TypeId} {arr : Array Value} {cs : List Value} {W2 : World} (hg : (W.alloc (.cells arr t)).grownBy W2 (some W.heap.size)) (hb : Blk W2 W.heap.size t cs) : Lows w0 (blkL W.heap.size t cs :: E) W2 :=
  (h.grown ((Below.refl _ _).alloc (Nat.le_refl _) _) hg (by intro k hk; injection hk with hk; omega)).cons (blkL _ _ _) hb
end
end Go.Proofs.YtcbfchkhbngpkaaGreatDoor
namespace Go.Proofs.YtcbfchkhbngpkaaGreatDoor
open Go.RowKit

section
variable {P : Program} {ops : Array Oper} {Q : Exit → Act → World → Prop} {md : Region.Mode} {S : World → Prop}
end
end Go.Proofs.YtcbfchkhbngpkaaGreatDoor
namespace Go.Proofs.YtcbfchkhbngpkaaGreatDoor
open Go.RowKit

set_option maxRecDepth 100000 in
set_option maxHeartbeats 8000000 in
theorem keyIndex_any (A : Option Addr) (n c : Nat) (l : List (List UInt8)) (x : List UInt8) (w : World) (hr : RdRow w w.heap.size A 32 n (l.map fun z => (z).map u8v)) (hk : ∀ z ∈ l, (z).length = 32) (hx : (x).length = 32) (hn : n ≤ 1000000) :
    Calls Tryz.prog 82 #[.slice A n c, .agg ((x).map u8v).toArray] w fun e w' => e = .returned (.int .i64 (idxN (fun i => l[i]?.any fun z => eqK x z) n)) ∧ Below w.heap.size w w' := by
  have HR := Lib.hid hr
  have HK := Lib.hid hk
  have HX := Lib.hid hx
  have HLN := Lib.hid (show l.length = n from by have h := hr.1; rwa [List.length_map] at h)
  obtain ⟨p, hp⟩ : ∃ p : Nat → Bool, (fun i => l[i]?.any fun z => eqK x z) = p := ⟨_, rfl⟩
  rw [hp]
  have HPP := Lib.hid (show ∀ j z, l[j]? = some z → p j = eqK x z from fun j z h => by rw [← hp]; simp only [h, Option.any_some])
  obtain ⟨cx, hcx⟩ : ∃ z, ((x).map u8v).toArray = z := ⟨_, rfl⟩
  rw [hcx]
  have HCX := Lib.hid hcx
  have HM0 := Lib.hid ((Lows.nil w).alloc 24 cx ((x).map u8v) hcx.symm)
  clear hr hk hx hp hcx
  go_enter Tryz.func82, Tryz.ntmps82
  go_upto_region 1 with fail
  generalize w.alloc (.cells cx 24) = w1 at HM0 ⊢
  obtain ⟨g, hg⟩ : ∃ g, w.heap.size = g := ⟨_, rfl⟩
  have HG := Lib.hid hg
  rw [show blkL w.heap.size 24 ((x).map u8v) = blkL g 24 ((x).map u8v) from by rw [hg]] at HM0
  rw [hg]
  clear hg
  go_wp2_with fail
  go_loopw [8] (fun i wr => ∃ j : Nat, j ≤ n ∧ i = .int .i64 (j : Int) ∧ Lows w [blkL g 24 ((x).map u8v)] wr ∧ ∀ q, q < j → p q = false) (fun i _ => n - (intOf i).toNat)
  case atStart => exact ⟨0, Nat.zero_le _, rfl, HM0.out, fun q h => absurd h (Nat.not_lt_zero _)⟩
  case round =>
    clear HM0
    obtain ⟨j, hj, rfl, hM, hno⟩ := hrel
    have HM := Lib.hid hM
    have HNO := Lib.hid hno
    clear hM hno
    by_cases hjn : j < n
    · have d1 : decide ((j : Int) < (n : Int)) = true := by simp; omega
      obtain ⟨b, off, rfl⟩ := HR.out.addr (by omega)
      obtain ⟨z, hz⟩ : ∃ z, l[j]? = some z := ⟨l[j]'(by rw [HLN.out]; exact hjn), List.getElem?_eq_getElem _⟩
      have HZ := Lib.hid (And.intro hz (HK.out z (List.mem_of_getElem? hz)))
      have hat := HR.out.at j ((z).map u8v) (by rw [List.getElem?_map, hz]; rfl)
      have HAT := Lib.hid (show ∀ W, Below w.heap.size w W → At W b (off + j * 32) ((z).map u8v) from fun W hW => hat.2.mono hW hat.1)
      have heq := fun w' : World => (show _ = Result.ok (eqK x z) w' from key_eq x z HX.out (HK.out z (List.mem_of_getElem? hz)) w')
      have hpj := HPP.out j z hz
      obtain ⟨y, hy⟩ : ∃ y, eqK x z = y := ⟨_, rfl⟩
      rw [HCX.out] at heq
      rw [hy] at heq hpj
      obtain ⟨co, hco⟩ : ∃ c, ((z).map u8v).toArray = c := ⟨_, rfl⟩
      rw [hco] at heq
      have HCO := Lib.hid hco
      have HEQ := Lib.hid heq
      have HPJ := Lib.hid hpj
      clear hz hat heq hpj hy hco
      go_upto_region 4 with fail
      clear d1
      refine wp_region_held_drew (S := fun W' => Lows w [blkL g 24 ((x).map u8v)] W') (by kernel_rfl) (HM.out.drew) (fun hHeld => ?_)
      refine take_first (v := .agg cx) 0 rfl (by kernel_rfl) (by kernel_rfl) (by kernel_rfl) (fun _ _ _ h => h) (by rw [← HCX.out]; exact yields_load_obj (by rfl) 24 (.tmp 3) rfl g 0 rfl _ (fun W hW => (Lows.blk hW 0 rfl).all) _ Tryz.underlying24 rfl (size32 (by rw [List.length_map, HX.out]))) (by assumption) ?_
      (try simp only [Act.put, List.setIfInBounds_toArray, List.set_cons_zero, List.set_cons_succ])
      refine take_first (v := ?_) 1 rfl (by kernel_rfl) (by kernel_rfl) (by kernel_rfl) (fun _ _ _ h => h) (Or.inl ⟨by rfl, ?_⟩) (by assumption) ?_
      rotate_left
      · (intro w hSw; (try dsimp only at hSw); go_simp; try with_reducible rfl)
      (try simp only [Act.put, List.setIfInBounds_toArray, List.set_cons_zero, List.set_cons_succ])
      refine take_first (v := ?_) 2 rfl (by kernel_rfl) (by kernel_rfl) (by kernel_rfl) (fun _ _ _ h => h) (Or.inl ⟨by rfl, ?_⟩) (by assumption) ?_
      rotate_left
      · (intro w hSw; (try dsimp only at hSw); go_simp; try with_reducible rfl)
      (try simp only [Act.put, List.setIfInBounds_toArray, List.set_cons_zero, List.set_cons_succ])
      refine take_first (v := ?_) 3 rfl (by kernel_rfl) (by kernel_rfl) (by kernel_rfl) (fun _ _ _ h => h) (Or.inl ⟨by rfl, ?_⟩) (by assumption) ?_
      rotate_left
      · (intro w hSw; (try dsimp only at hSw); go_simp; try with_reducible rfl)
      (try simp only [Act.put, List.setIfInBounds_toArray, List.set_cons_zero, List.set_cons_succ])
      refine take_first (v := .agg co) 4 rfl (by kernel_rfl) (by kernel_rfl) (by kernel_rfl) (fun _ _ _ h => h) (by rw [← HCO.out]; exact yields_load_obj (by rfl) 24 (.tmp 14) rfl b _ rfl _ (fun W hW => HAT.out W hW.bel) _ Tryz.underlying24 rfl (size32 (by rw [List.length_map, HZ.out.2]))) (by assumption) ?_
      (try simp only [Act.put, List.setIfInBounds_toArray, List.set_cons_zero, List.set_cons_succ])
      refine take_first (v := .bool y) 5 rfl (by kernel_rfl) (by kernel_rfl) (by kernel_rfl) (fun _ _ _ h => h) (yields_cmp_agg false (by rfl) 24 24 11 15 rfl cx co y rfl rfl key_noguard (fun w' => HEQ.out w')) (by assumption) ?_
      (try simp only [Act.put, List.setIfInBounds_toArray, List.set_cons_zero, List.set_cons_succ])
      refine wpAnyH_done (by kernel_rfl) ?_ _
      have hS9 := hHeld
      clear hHeld
      have HS9 := Lib.hid hS9
      clear hS9
      cases y with
      | true =>
        go_wp2
        go_ret
        exact ⟨by rw [idxN_some hjn HPJ.out HNO.out]; rfl, HS9.out.bel⟩
      | false =>
        go_wp2_with fail
        go_roundw
        case rel => exact ⟨j + 1, by omega, by go_num, HS9.out, fun q hq => by
          rcases Nat.lt_or_ge q j with h | h
          · exact HNO.out q h
          · obtain rfl : q = j := by omega
            exact HPJ.out⟩
        case measure => simp [intOf]; omega
    · obtain rfl : j = n := by omega
      have d1 : decide ((j : Int) < (j : Int)) = false := by simp
      have HF := Lib.hid HM.out
      have HX2 := Lib.hid (idxN_none HNO.out)
      clear HM HNO
      go_wp2
      go_ret
      exact ⟨by rw [HX2.out]; rfl, HF.out.bel⟩
set_option maxRecDepth 100000 in
set_option maxHeartbeats 8000000 in
theorem prefIndex_any (A : Option Addr) (n c : Nat) (l : List (AddrM × Int)) (x : AddrM × Int) (w : World) (hr : RdRow w w.heap.size A 18 n (l.map fun z => prefC (z).1 (z).2)) (hk : ∀ z ∈ l, okP z) (hx : okP x) (hn : n ≤ 1000000) :
    Calls Tryz.prog 83 #[.slice A n c, .agg (prefC (x).1 (x).2).toArray] w fun e w' => e = .returned (.int .i64 (idxN (fun i => l[i]?.any fun z => eqP x z) n)) ∧ Below w.heap.size w w' := by
  have HR := Lib.hid hr
  have HK := Lib.hid hk
  have HX := Lib.hid hx
  have HLN := Lib.hid (show l.length = n from by have h := hr.1; rwa [List.length_map] at h)
  obtain ⟨p, hp⟩ : ∃ p : Nat → Bool, (fun i => l[i]?.any fun z => eqP x z) = p := ⟨_, rfl⟩
  rw [hp]
  have HPP := Lib.hid (show ∀ j z, l[j]? = some z → p j = eqP x z from fun j z h => by rw [← hp]; simp only [h, Option.any_some])
  obtain ⟨cx, hcx⟩ : ∃ z, (prefC (x).1 (x).2).toArray = z := ⟨_, rfl⟩
  rw [hcx]
  have HCX := Lib.hid hcx
  have HM0 := Lib.hid ((Lows.nil w).alloc 60 cx (prefC (x).1 (x).2) hcx.symm)
  clear hr hk hx hp hcx
  go_enter Tryz.func83, Tryz.ntmps83
  go_upto_region 1 with fail
  generalize w.alloc (.cells cx 60) = w1 at HM0 ⊢
  obtain ⟨g, hg⟩ : ∃ g, w.heap.size = g := ⟨_, rfl⟩
  have HG := Lib.hid hg
  rw [show blkL w.heap.size 60 (prefC (x).1 (x).2) = blkL g 60 (prefC (x).1 (x).2) from by rw [hg]] at HM0
  rw [hg]
  clear hg
  go_wp2_with fail
  go_loopw [8] (fun i wr => ∃ j : Nat, j ≤ n ∧ i = .int .i64 (j : Int) ∧ Lows w [blkL g 60 (prefC (x).1 (x).2)] wr ∧ ∀ q, q < j → p q = false) (fun i _ => n - (intOf i).toNat)
  case atStart => exact ⟨0, Nat.zero_le _, rfl, HM0.out, fun q h => absurd h (Nat.not_lt_zero _)⟩
  case round =>
    clear HM0
    obtain ⟨j, hj, rfl, hM, hno⟩ := hrel
    have HM := Lib.hid hM
    have HNO := Lib.hid hno
    clear hM hno
    by_cases hjn : j < n
    · have d1 : decide ((j : Int) < (n : Int)) = true := by simp; omega
      obtain ⟨b, off, rfl⟩ := HR.out.addr (by omega)
      obtain ⟨z, hz⟩ : ∃ z, l[j]? = some z := ⟨l[j]'(by rw [HLN.out]; exact hjn), List.getElem?_eq_getElem _⟩
      have HZ := Lib.hid (And.intro hz (HK.out z (List.mem_of_getElem? hz)))
      have hat := HR.out.at j (prefC (z).1 (z).2) (by rw [List.getElem?_map, hz]; rfl)
      have HAT := Lib.hid (show ∀ W, Below w.heap.size w W → At W b (off + j * 18) (prefC (z).1 (z).2) from fun W hW => hat.2.mono hW hat.1)
      have heq := fun w' : World => (show _ = Result.ok (eqP x z) w' from pref_eqd x.1 z.1 x.2 z.2 HX.out.1 (HK.out z (List.mem_of_getElem? hz)).1 HX.out.2 (HK.out z (List.mem_of_getElem? hz)).2 w')
      have hpj := HPP.out j z hz
      obtain ⟨y, hy⟩ : ∃ y, eqP x z = y := ⟨_, rfl⟩
      rw [HCX.out] at heq
      rw [hy] at heq hpj
      obtain ⟨co, hco⟩ : ∃ c, (prefC (z).1 (z).2).toArray = c := ⟨_, rfl⟩
      rw [hco] at heq
      have HCO := Lib.hid hco
      have HEQ := Lib.hid heq
      have HPJ := Lib.hid hpj
      clear hz hat heq hpj hy hco
      go_upto_region 4 with fail
      clear d1
      refine wp_region_held_drew (S := fun W' => Lows w [blkL g 60 (prefC (x).1 (x).2)] W') (by kernel_rfl) (HM.out.drew) (fun hHeld => ?_)
      refine take_first (v := .agg cx) 0 rfl (by kernel_rfl) (by kernel_rfl) (by kernel_rfl) (fun _ _ _ h => h) (by rw [← HCX.out]; exact yields_load_obj (by rfl) 60 (.tmp 3) rfl g 0 rfl _ (fun W hW => (Lows.blk hW 0 rfl).all) _ Tryz.underlying60 rfl (pref_cellsOf' x.1 HX.out.1 x.2)) (by assumption) ?_
      (try simp only [Act.put, List.setIfInBounds_toArray, List.set_cons_zero, List.set_cons_succ])
      refine take_first (v := ?_) 1 rfl (by kernel_rfl) (by kernel_rfl) (by kernel_rfl) (fun _ _ _ h => h) (Or.inl ⟨by rfl, ?_⟩) (by assumption) ?_
      rotate_left
      · (intro w hSw; (try dsimp only at hSw); go_simp; try with_reducible rfl)
      (try simp only [Act.put, List.setIfInBounds_toArray, List.set_cons_zero, List.set_cons_succ])
      refine take_first (v := ?_) 2 rfl (by kernel_rfl) (by kernel_rfl) (by kernel_rfl) (fun _ _ _ h => h) (Or.inl ⟨by rfl, ?_⟩) (by assumption) ?_
      rotate_left
      · (intro w hSw; (try dsimp only at hSw); go_simp; try with_reducible rfl)
      (try simp only [Act.put, List.setIfInBounds_toArray, List.set_cons_zero, List.set_cons_succ])
      refine take_first (v := ?_) 3 rfl (by kernel_rfl) (by kernel_rfl) (by kernel_rfl) (fun _ _ _ h => h) (Or.inl ⟨by rfl, ?_⟩) (by assumption) ?_
      rotate_left
      · (intro w hSw; (try dsimp only at hSw); go_simp; try with_reducible rfl)
      (try simp only [Act.put, List.setIfInBounds_toArray, List.set_cons_zero, List.set_cons_succ])
      refine take_first (v := .agg co) 4 rfl (by kernel_rfl) (by kernel_rfl) (by kernel_rfl) (fun _ _ _ h => h) (by rw [← HCO.out]; exact yields_load_obj (by rfl) 60 (.tmp 14) rfl b _ rfl _ (fun W hW => HAT.out W hW.bel) _ Tryz.underlying60 rfl (pref_cellsOf' z.1 HZ.out.2.1 z.2)) (by assumption) ?_
      (try simp only [Act.put, List.setIfInBounds_toArray, List.set_cons_zero, List.set_cons_succ])
      refine take_first (v := .bool y) 5 rfl (by kernel_rfl) (by kernel_rfl) (by kernel_rfl) (fun _ _ _ h => h) (yields_cmp_agg false (by rfl) 60 60 11 15 rfl cx co y rfl rfl prefix_noguard (fun w' => HEQ.out w')) (by assumption) ?_
      (try simp only [Act.put, List.setIfInBounds_toArray, List.set_cons_zero, List.set_cons_succ])
      refine wpAnyH_done (by kernel_rfl) ?_ _
      have hS9 := hHeld
      clear hHeld
      have HS9 := Lib.hid hS9
      clear hS9
      cases y with
      | true =>
        go_wp2
        go_ret
        exact ⟨by rw [idxN_some hjn HPJ.out HNO.out]; rfl, HS9.out.bel⟩
      | false =>
        go_wp2_with fail
        go_roundw
        case rel => exact ⟨j + 1, by omega, by go_num, HS9.out, fun q hq => by
          rcases Nat.lt_or_ge q j with h | h
          · exact HNO.out q h
          · obtain rfl : q = j := by omega
            exact HPJ.out⟩
        case measure => simp [intOf]; omega
    · obtain rfl : j = n := by omega
      have d1 : decide ((j : Int) < (j : Int)) = false := by simp
      have HF := Lib.hid HM.out
      have HX2 := Lib.hid (idxN_none HNO.out)
      clear HM HNO
      go_wp2
      go_ret
      exact ⟨by rw [HX2.out]; rfl, HF.out.bel⟩
end Go.Proofs.YtcbfchkhbngpkaaGreatDoor
namespace Go.Proofs.YtcbfchkhbngpkaaGreatDoor
open Go.RowKit

theorem ks_under : Tryz.prog.underlying 70 = some (.slice (Tryz.prog.elem 70)) := by kernel_rfl
theorem ks_elem : Tryz.prog.elem 70 = 24 := by kernel_rfl
theorem ks_sizeOf (w : World) : (sizeOf (Tryz.prog.elem 70)).run Tryz.prog w = .ok 32 w := by
  obtain ⟨i0, hi, _, hs, _⟩ := keyInfo
  rw [ks_elem]
  simp [sizeOf, typeInfo, hi, hs]
set_option maxRecDepth 100000 in
theorem ks_h {n : Nat} (A : Option Addr) (c j : Nat) (h2 : j ≤ n) (h3 : n ≤ c) (w : World) : (Instr.sliceAt 70 (.slice A n c) none (some (.int .i64 (j : Int))) none).run Tryz.prog w = .ok (.slice (addrK A 0 c 32) j c) w := by
  rw [run_sliceAt_slice (P := Tryz.prog) (w := w) 70 _ _ _ _ ks_under, run_slice_h (P := Tryz.prog) (w := w) 70 A n c ks_under .i64 j (by omega) (by omega), ks_sizeOf]
  simp only [Result.andThen, sliced, Int.toNat_natCast, Nat.sub_zero]
  rfl
theorem ps_under : Tryz.prog.underlying 49 = some (.slice (Tryz.prog.elem 49)) := by kernel_rfl
theorem ps_elem : Tryz.prog.elem 49 = 60 := by kernel_rfl
theorem ps_sizeOf (w : World) : (sizeOf (Tryz.prog.elem 49)).run Tryz.prog w = .ok 18 w := by
  obtain ⟨i0, hi, _, hs, _⟩ := prefInfo
  rw [ps_elem]
  simp [sizeOf, typeInfo, hi, hs]
set_option maxRecDepth 100000 in
theorem ps_h {n : Nat} (A : Option Addr) (c j : Nat) (h2 : j ≤ n) (h3 : n ≤ c) (w : World) : (Instr.sliceAt 49 (.slice A n c) none (some (.int .i64 (j : Int))) none).run Tryz.prog w = .ok (.slice (addrK A 0 c 18) j c) w := by
  rw [run_sliceAt_slice (P := Tryz.prog) (w := w) 49 _ _ _ _ ps_under, run_slice_h (P := Tryz.prog) (w := w) 49 A n c ps_under .i64 j (by omega) (by omega), ps_sizeOf]
  simp only [Result.andThen, sliced, Int.toNat_natCast, Nat.sub_zero]
  rfl
set_option maxRecDepth 100000 in
theorem ps_l (A : Option Addr) (n c i : Nat) (h2 : i ≤ n) (w : World) : (Instr.sliceAt 49 (.slice A n c) (some (.int .i64 (i : Int))) none none).run Tryz.prog w = .ok (.slice (addrK A i c 18) (n - i) (c - i)) w := by
  rw [run_sliceAt_slice (P := Tryz.prog) (w := w) 49 _ _ _ _ ps_under, run_slice_l (P := Tryz.prog) (w := w) 49 A n c ps_under .i64 i (by omega) (by omega), ps_sizeOf]
  simp only [Result.andThen, sliced, Int.toNat_natCast]
  rfl
end Go.Proofs.YtcbfchkhbngpkaaGreatDoor
