/-
  The contract of config's readInterface on entries that it accepts. The contract of the parser's endSection where nothing is missing. The contract of the parser's readEntry in the section of the interface. Contracts of Go library functions that layer 13 reads and writes configurations by, laid by the kit shelf: Trim, TrimLeft, TrimRight, FormatInt, Split. The contracts of strings.Trim, TrimLeft, TrimRight at spaces and tabs. The contract of the parser's readLine: a line that is ignored, the line of the interface, an entry of it. The parser's readLine: the line of the interface. The parser's readLine: an entry, over what its readEntry gives. The parser's readLine for the texts of a configuration without peers; the parser's read. The text of ConfigLimits as Parse reads it. Rows of prefixes: the zero prefix, single cells, one more prefix. Rows of keys: a slice built of one key, and the append of one key to a row of the call's own. Configurations that lie in memory; two rows that grow in turn. The first place of a list for which something holds. Equality of two objects decides whether their cells are equal. No function of the program is named here. Equality of keys. Equality of addresses and prefixes by their cells. Equality of two structs under a guard, as an operation. Two objects are compared by == or !=, in a list of operations and in a drawn region. No function of the program is named here. What a walk keeps of what lies under the world's size, whoever made it: a list of facts that whatever is made above leaves alone. Words for a region that draws its order, in which several loads may come up at once, all ahead of what changes memory: such a load can be taken first, though its cell is written later. The contracts of slices.Index at keys and at prefixes. Parts of slices of keys and of prefixes. No statement is proved here.
-/
import Derived.RegionTactic
import Derived.Deep.DeepCutAuto
import Derived.Laws.Cover3
import Derived.Shelf.Strings.SlTrimAscii
import Derived.Shelf.Strings.Split
import Derived.Shelf.Strconv.Itoa4
import Derived.Carry
import Derived.Maps.AppendAt
import Derived.DeepKeys2
import Derived.Test.YthebekheejikgaaGreatDoorConfigLimitsB3
namespace Go.Proofs.YthebekheejikgaaGreatDoor
open Go.RowKit

theorem iface_cases {c d : ConfM} {name value : List UInt8} (h : ifaceM c name value = some d) : (name = tPriv ∧ ∃ k, parseK value = some k ∧ d = { c with priv := k }) ∨ (name = tPort ∧ (numP value 10).2 = true ∧ d = { c with port := ((numP value 10).1 : Int) }) := by
  unfold ifaceM at h
  split at h
  · rename_i hn
    cases hk : parseK value with
    | none => rw [hk] at h; cases h
    | some k =>
      rw [hk] at h
      simp only [Option.map_some, Option.some.injEq] at h
      exact .inl ⟨hn, k, rfl, h.symm⟩
  · split at h
    · rename_i hn
      split at h
      · rename_i hv
        simp only [Option.some.injEq] at h
        exact .inr ⟨hn, hv, h.symm⟩
      · cases h
    · cases h
theorem key_some {l k : List UInt8} {w w' : World} {e : Ending} (hk : parseK l = some k) (h : KeyRes l w e w') : e = .returned (.tuple #[.agg (k.map u8v).toArray, .int .i64 0]) ∧ Below w.heap.size w w' := by
  rcases h with ⟨q, hq, he, hb⟩ | ⟨hn, _⟩
  · have h2 := hk.symm.trans hq
    injection h2 with h2
    subst h2
    exact ⟨he, hb⟩
  · rw [hk] at hn; cases hn
theorem grown_own {w0 W W' : World} {g : Nat} (h : Below w0.heap.size w0 W) (hg : W.grownBy W' (some g)) (hl : w0.heap.size ≤ g) : Below w0.heap.size w0 W' := h.grown hg h.size (by intro k hk; injection hk with hk; omega)
theorem set_own {w0 W : World} {g j : Nat} {v : Value} (h : Below w0.heap.size w0 W) (hl : w0.heap.size ≤ g) : Below w0.heap.size w0 (W.setCell ⟨g, j, none⟩ v) := h.setCell hl _
set_option maxRecDepth 100000 in
set_option maxHeartbeats 8000000 in
theorem iface_any (w0 W : World) (gp m line : Nat) (s : PsM) (mv v : Value) (Bs : List Nat) (name value : List UInt8) (c : ConfM) (hlv : LvCf w0) (hb0 : Below w0.heap.size w0 W) (hp : PsAt w0.heap.size gp m W s line mv v Bs) (hv : value.length ≤ 4000) (h : ifaceM s.conf name value = some c) :
    Calls Tryz.prog 123 #[.pointer (some ⟨gp, 0, none⟩), .string ⟨name.toArray⟩, .string ⟨value.toArray⟩] W fun e W' => e = .returned (.tuple #[]) ∧ PsAt w0.heap.size gp m W' ⟨c, s.seen⟩ line mv v Bs ∧ Below w0.heap.size w0 W' := by
  have HP := Lib.hid hp
  have HB := Lib.hid hb0
  have HLV := Lib.hid hlv
  have HV := Lib.hid hv
  clear hp hb0 hlv hv
  rcases iface_cases h with ⟨rfl, k, hk, rfl⟩ | ⟨rfl, hn, rfl⟩
  · have HK := Lib.hid hk
    clear hk h
    rw [show tPriv.toArray = #[80, 114, 105, 118, 97, 116, 101, 75, 101, 121] from rfl]
    obtain ⟨S, hS⟩ : ∃ S : ByteArray, ⟨value.toArray⟩ = S := ⟨_, rfl⟩
    rw [hS]
    have HS := Lib.hid hS
    clear hS
    go_enter Tryz.func123, Tryz.ntmps123
    go_wp2_with fail
    refine (parseKey_any S value HS.out.symm (by have := HV.out; omega) _).mono ?_
    intro e w2 hk2
    obtain ⟨rfl, hb⟩ := key_some HK.out hk2
    have hk32 := (text_parse value k HK.out).1
    have HK32 := Lib.hid hk32
    replace HP := Lib.hid (HP.out.below hb)
    replace HB := Lib.hid (HB.out.trans (hb.mono HB.out.size))
    clear hb hk32 hk2
    go_wp2_with fail
    refine (must_key (k.map u8v) (by rw [List.length_map, HK32.out]) (u8v_one k) _).mono ?_
    rintro e w3 ⟨rfl, hb⟩
    replace HP := Lib.hid (HP.out.below hb)
    replace HB := Lib.hid (HB.out.trans (hb.mono HB.out.size))
    clear hb
    obtain ⟨kc, hkc⟩ : ∃ z, (k.map u8v).toArray = z := ⟨_, rfl⟩
    rw [hkc]
    have HKC := Lib.hid hkc
    clear hkc
    go_wp2_with ((with_reducible refine at_op (.store 24 (.tmp 17) (.tmp 15)) rfl ?_); refine wpList_store_obj rfl 24 (.tmp 17) (.tmp 15) rfl gp 0 (k.map u8v) rfl (by show Value.agg kc = _; rw [HKC.out]) 84 (psC s.conf line mv v) HP.out.blk (size32 (by rw [List.length_map, HK32.out])) (by rw [List.length_map, HK32.out, psC_length HP.out.ok]; decide) (u8v_one k) ?_; intro w9 hb9 hg9)
    rw [psC_set_priv HP.out.ok line mv v k HK32.out] at hb9
    go_end0
    exact ⟨rfl, HP.out.put (.of_grown hg9) ⟨HK32.out, HP.out.ok.2⟩ rfl hb9, grown_own HB.out hg9 HP.out.low⟩
  · have HN := Lib.hid hn
    clear hn h
    rw [show tPort.toArray = #[76, 105, 115, 116, 101, 110, 80, 111, 114, 116] from rfl]
    have hnum := fun W' (hb : Below w0.heap.size w0 W') => number_any value (by have := HV.out; omega) W' (HLV.out.below hb)
    rw [HN.out] at hnum
    have hlt := numP_lt value 10
    obtain ⟨S, hS⟩ : ∃ S : ByteArray, ⟨value.toArray⟩ = S := ⟨_, rfl⟩
    rw [hS] at hnum ⊢
    obtain ⟨n, hn⟩ : ∃ n, (numP value 10).1 = n := ⟨_, rfl⟩
    rw [hn] at hnum hlt ⊢
    have HNUM := Lib.hid hnum
    have HIN := Lib.hid (show inI64 (n : Int) from ⟨by omega, by simp only [Nat.reducePow] at hlt; omega⟩)
    clear hnum hlt hS hn
    go_enter Tryz.func123, Tryz.ntmps123
    go_wp2_with fail
    refine (HNUM.out _ HB.out).mono ?_
    rintro e w2 ⟨rfl, hb⟩
    replace HP := Lib.hid (HP.out.below hb)
    replace HB := Lib.hid (HB.out.trans (hb.mono HB.out.size))
    clear hb HNUM
    go_wp2_with fail
    refine (must_i64 _ _).mono ?_
    rintro e w3 ⟨rfl, rfl⟩
    have fo := HP.out.portC
    have zx := HP.out.blk.frozen 32
    have hm9 : Blk (w3.setCell ⟨gp, 32, none⟩ (.int .i64 (n : Int))) gp 84 _ := HP.out.blk.set_ 32 (.int .i64 (n : Int))
    rw [psC_set_port HP.out.ok line mv v] at hm9
    have HM9 := Lib.hid hm9
    clear hm9
    go_wp2
    go_end0
    exact ⟨rfl, HP.out.put .of_set ⟨HP.out.ok.1, HIN.out, HP.out.ok.2.2⟩ rfl HM9.out, set_own HB.out HP.out.low⟩
end Go.Proofs.YthebekheejikgaaGreatDoor
namespace Go.Proofs.YthebekheejikgaaGreatDoor
open Go.RowKit

theorem boolZero (w : World) : (zeroValue 4).run Tryz.prog w = .ok (.bool false) w := by kernel_rfl
theorem endOk_cases {s : PsM} (h : endOk s = true) : ∃ S, s.seen = some S ∧ ((s.conf.peers = [] ∧ S.contains tPriv = true ∧ S.contains tPort = true) ∨ (s.conf.peers ≠ [] ∧ S.contains tPub = true)) := by
  unfold endOk at h
  cases hs : s.seen with
  | none => rw [hs] at h; cases h
  | some S =>
    rw [hs] at h
    simp only at h
    refine ⟨S, rfl, ?_⟩
    cases hp : s.conf.peers with
    | nil =>
      rw [hp] at h
      exact .inl ⟨rfl, by simpa using h⟩
    | cons p r =>
      rw [hp] at h
      exact .inr ⟨by simp, by simpa using h⟩
set_option maxRecDepth 100000 in
set_option maxHeartbeats 8000000 in
theorem endSection_any (base : Nat) (W : World) (gp m line : Nat) (s : PsM) (mv v : Value) (Bs : List Nat) (hp : PsAt base gp m W s line mv v Bs) (h : endOk s = true) :
    Calls Tryz.prog 73 #[.pointer (some ⟨gp, 0, none⟩)] W fun e W' => e = .returned (.tuple #[]) ∧ W' = W := by
  obtain ⟨S, hs, hc⟩ := endOk_cases h
  have hseen := hp.seen
  rw [hs] at hseen
  obtain ⟨gm, rfl, _, _, _, _, hnm⟩ := hseen
  obtain ⟨A, c, rfl, _, _⟩ := hp.slice
  have HNM := Lib.hid hnm
  have fv := hp.peersC
  have fs := hp.seenC
  clear h hnm hp hs
  obtain ⟨n, hn⟩ : ∃ n, s.conf.peers.length = n := ⟨_, rfl⟩
  rw [hn] at fv
  rcases hc with ⟨he, h1, h2⟩ | ⟨he, h1⟩
  · obtain rfl : n = 0 := by rw [← hn, he]; rfl
    have H1 := Lib.hid h1
    have H2 := Lib.hid h2
    clear h1 h2 hn he
    go_enter Tryz.func73, Tryz.ntmps73
    go_wp2_with (at_lookup; first | (refine wpList_lookup_names (by rfl) (.tmp 12) (.const (.string ⟨#[80, 114, 105, 118, 97, 116, 101, 75, 101, 121]⟩)) 82 rfl 9 4 Tryz.underlying9 Tryz.underlying82 Tryz.underlying4 boolZero gm _ S rfl HNM.out tPriv (by decide) rfl _ H1.out ?_) | (refine wpList_lookup_names (by rfl) (.tmp 18) (.const (.string ⟨#[76, 105, 115, 116, 101, 110, 80, 111, 114, 116]⟩)) 82 rfl 9 4 Tryz.underlying9 Tryz.underlying82 Tryz.underlying4 boolZero gm _ S rfl HNM.out tPort (by decide) rfl _ H2.out ?_))
    refine (require_true _).mono ?_
    rintro e w2 ⟨rfl, rfl⟩
    go_wp2
    go_end0
    exact ⟨rfl, rfl⟩
  · have H1 := Lib.hid h1
    have h0 : ¬ n = 0 := fun e => he (List.length_eq_zero_iff.1 (hn.trans e))
    have d1 : ((n : Int) == 0) = false := beq_eq_false_iff_ne.2 (by omega)
    have d2 : (n == 0) = false := beq_eq_false_iff_ne.2 h0
    clear h1 hn he
    go_enter Tryz.func73, Tryz.ntmps73
    go_wp2_with (at_lookup; (refine wpList_lookup_names (by rfl) (.tmp 25) (.const (.string ⟨#[80, 117, 98, 108, 105, 99, 75, 101, 121]⟩)) 82 rfl 9 4 Tryz.underlying9 Tryz.underlying82 Tryz.underlying4 boolZero gm _ S rfl HNM.out tPub (by decide) rfl _ H1.out ?_))
    refine (require_true _).mono ?_
    rintro e w2 ⟨rfl, rfl⟩
    go_wp2
    go_end0
    exact ⟨rfl, rfl⟩
end Go.Proofs.YthebekheejikgaaGreatDoor
namespace Go.Proofs.YthebekheejikgaaGreatDoor
open Go.RowKit

theorem entry_iface_cases {s t : PsM} {name value : List UInt8} (hp : s.conf.peers = []) (h : entryM s name value = some t) : ∃ S c, s.seen = some S ∧ S.contains name = false ∧ ifaceM s.conf name value = some c ∧ t = ⟨c, some (name :: S)⟩ := by
  unfold entryM at h
  cases hs : s.seen with
  | none => rw [hs] at h; cases h
  | some S =>
    rw [hs] at h
    simp only [hp, List.getLast?_nil] at h
    cases hc : S.contains name with
    | true => rw [hc, if_pos rfl] at h; cases h
    | false =>
      rw [hc, if_neg (by simp)] at h
      cases hi : ifaceM s.conf name value with
      | none => rw [hi] at h; cases h
      | some c =>
        rw [hi] at h
        simp only [Option.map_some, Option.some.injEq] at h
        exact ⟨S, c, rfl, hc, rfl, h.symm⟩
set_option maxRecDepth 100000 in
set_option maxHeartbeats 8000000 in
theorem entry_iface (w0 W : World) (gp m line : Nat) (s t : PsM) (name value : List UInt8) (hlv : LvCf w0) (hb0 : Below w0.heap.size w0 W) (hp : PsA w0.heap.size gp m W s line) (hm : m ≤ 5000) (hnl : name.length ≤ 4000) (hvl : value.length ≤ 4000) (hpe : s.conf.peers = []) (h : entryM s name value = some t) :
    Calls Tryz.prog 97 #[.pointer (some ⟨gp, 0, none⟩), .string ⟨name.toArray⟩, .string ⟨value.toArray⟩] W fun e W' => e = .returned (.tuple #[]) ∧ PsA w0.heap.size gp (m + 1) W' t line ∧ Below w0.heap.size w0 W' := by
  obtain ⟨S, c, hs, hc, hi, rfl⟩ := entry_iface_cases hpe h
  obtain ⟨mv, v, Bs, hp⟩ := hp
  have hseen := hp.seen
  rw [hs] at hseen
  obtain ⟨gm, rfl, hgl, hgp, hgB, hSm, hnm⟩ := hseen
  obtain ⟨A, cp, rfl, _, _⟩ := hp.slice
  have fv := hp.peersC
  have fs := hp.seenC
  have HNM := Lib.hid hnm
  have HP := Lib.hid hp
  have HB := Lib.hid hb0
  have HLV := Lib.hid hlv
  have HC := Lib.hid hc
  have HS := Lib.hid hs
  have HI := Lib.hid hi
  have HL := Lib.hid (And.intro hnl hvl)
  have HGL := Lib.hid hgl
  have hml : S.length < maxLen := by have : maxLen = 9223372036854775807 := rfl; omega
  have HML := Lib.hid hml
  rw [hpe, List.length_nil] at fv
  have HPE := Lib.hid hpe
  obtain ⟨N, hN⟩ : ∃ S : ByteArray, ⟨name.toArray⟩ = S := ⟨_, rfl⟩
  obtain ⟨V, hV⟩ : ∃ S : ByteArray, ⟨value.toArray⟩ = S := ⟨_, rfl⟩
  rw [hN, hV]
  have HN := Lib.hid hN
  have HV := Lib.hid hV
  clear h hi hs hc hp hb0 hlv hnm hgl hgp hgB hSm hml hpe hN hV hnl hvl hm
  have d1 : decide ((-1 : Int) ≥ 0) = false := by decide
  have hne : ∀ W : World, (binOp .neq 82 (.map (some gm)) (.map none)).run Tryz.prog W = .ok (.bool true) W := fun W => run_neq_map_nil (P := Tryz.prog) W 82 9 4 (some gm) Tryz.underlying82
  go_enter Tryz.func97, Tryz.ntmps97
  go_wp2_with (at_lookup; refine wpList_lookup_names (by rfl) (.tmp 16) (.tmp 17) 82 rfl 9 4 Tryz.underlying9 Tryz.underlying82 Tryz.underlying4 boolZero gm _ S rfl HNM.out name (by have := HL.out.1; omega) (by show Value.string N = _; rw [HN.out]) _ HC.out ?_)
  refine (require_true _).mono ?_
  rintro e w2 ⟨rfl, rfl⟩
  go_upto_region 2 with (at_mapUpdate; refine wpList_update_names rfl (.tmp 25) (.tmp 26) (.const (.bool true)) 82 rfl 9 4 Tryz.underlying9 Tryz.underlying82 Tryz.underlying4 gm _ S rfl HNM.out HML.out name (by have := HL.out.1; omega) (by show Value.string N = _; rw [HN.out]) rfl ?_; intro w3 hn3 hg3)
  have hp3 := HP.out.note HS.out (.of_grown hg3) hn3
  have hb3 := grown_own HB.out hg3 HGL.out
  replace HP := Lib.hid hp3
  replace HB := Lib.hid hb3
  have fv2 := HP.out.peersC
  clear hp3 hb3 hn3 hg3 HNM fv fs
  rw [HPE.out, List.length_nil] at fv2
  go_wp2_with fail
  have hcall := iface_any w0 w3 gp (m + 1) line ⟨s.conf, some (name :: S)⟩ _ _ _ name value c HLV.out HB.out HP.out HL.out.2 HI.out
  rw [HN.out, HV.out] at hcall
  refine hcall.mono ?_
  rintro e w4 ⟨rfl, hp4, hb4⟩
  have HP4 := Lib.hid hp4
  have HB4 := Lib.hid hb4
  clear hcall hp4 hb4 fv2
  go_wp2
  go_end0
  exact ⟨rfl, ⟨_, _, _, HP4.out⟩, HB4.out⟩
end Go.Proofs.YthebekheejikgaaGreatDoor
namespace Go.Proofs.YthebekheejikgaaGreatDoor
open Go.Shelf
def sh_lays161_ren : Go.Shelf.Ren := ⟨fun | 161 => 99 | 231 => 100 | 227 => 102 | 233 => 103 | 235 => 105 | 228 => 124 | 197 => 125 | 151 => 126 | 260 => 155 | 152 => 156 | 137 => 173 | 119 => 174 | 224 => 135 | 225 => 134 | 217 => 133 | 266 => 160 | n => n, fun | 9 => 9 | 4 => 4 | 3 => 3 | 5 => 5 | 117 => 136 | 116 => 135 | 0 => 0 | 124 => 139 | 105 => 158 | 21 => 21 | 119 => 203 | 46 => 87 | 139 => 206 | 138 => 205 | n => n, fun | 3 => 4 | 4 => 5 | n => n⟩
theorem sh_lays161 : Go.Proofs.Lays.n161 Tryz.prog sh_lays161_ren := {
  mixed := by kernel_rfl
  f119 := Tryz.func174.trans (congrArg some (by kernel_rfl))
  f137 := Tryz.func173.trans (congrArg some (by kernel_rfl))
  f151 := Tryz.func126.trans (congrArg some (by kernel_rfl))
  f152 := Tryz.func156.trans (congrArg some (by kernel_rfl))
  f161 := Tryz.func99.trans (congrArg some (by kernel_rfl))
  f197 := Tryz.func125.trans (congrArg some (by kernel_rfl))
  f217 := Tryz.func133.trans (congrArg some (by kernel_rfl))
  f224 := Tryz.func135.trans (congrArg some (by kernel_rfl))
  f225 := Tryz.func134.trans (congrArg some (by kernel_rfl))
  f227 := Tryz.func102.trans (congrArg some (by kernel_rfl))
  f228 := Tryz.func124.trans (congrArg some (by kernel_rfl))
  f231 := Tryz.func100.trans (congrArg some (by kernel_rfl))
  f233 := Tryz.func103.trans (congrArg some (by kernel_rfl))
  f235 := Tryz.func105.trans (congrArg some (by kernel_rfl))
  f260 := Tryz.func155.trans (congrArg some (by kernel_rfl))
  f266 := Tryz.func160.trans (congrArg some (by kernel_rfl))
  t0 := Tryz.underlying0
  a0 := Tryz.isAgg0
  z0 := Tryz.sizeOf0
  v0 := Tryz.zeroValue0
  t3 := Tryz.underlying3
  a3 := Tryz.isAgg3
  z3 := Tryz.sizeOf3
  v3 := Tryz.zeroValue3
  t4 := Tryz.underlying4
  a4 := Tryz.isAgg4
  z4 := Tryz.sizeOf4
  v4 := Tryz.zeroValue4
  t5 := Tryz.underlying5
  a5 := Tryz.isAgg5
  z5 := Tryz.sizeOf5
  v5 := Tryz.zeroValue5
  t9 := Tryz.underlying9
  a9 := Tryz.isAgg9
  z9 := Tryz.sizeOf9
  v9 := Tryz.zeroValue9
  t21 := Tryz.underlying21
  a21 := Tryz.isAgg21
  z21 := Tryz.sizeOf21
  v21 := Tryz.zeroValue21
  t46 := Tryz.underlying87
  a46 := Tryz.isAgg87
  z46 := Tryz.sizeOf87
  v46 := Tryz.zeroValue87
  t105 := Tryz.underlying158
  a105 := Tryz.isAgg158
  z105 := Tryz.sizeOf158
  v105 := Tryz.zeroValue158
  t116 := Tryz.underlying135
  a116 := Tryz.isAgg135
  z116 := Tryz.sizeOf135
  t117 := Tryz.underlying136
  a117 := Tryz.isAgg136
  z117 := Tryz.sizeOf136
  v117 := Tryz.zeroValue136
  t119 := Tryz.underlying203
  a119 := Tryz.isAgg203
  z119 := Tryz.sizeOf203
  t124 := Tryz.underlying139
  a124 := Tryz.isAgg139
  z124 := Tryz.sizeOf139
  v124 := Tryz.zeroValue139
  t138 := Tryz.underlying205
  a138 := Tryz.isAgg205
  z138 := Tryz.sizeOf205
  v138 := Tryz.zeroValue205
  t139 := Tryz.underlying206
  a139 := Tryz.isAgg206
  z139 := Tryz.sizeOf206
  v139 := Tryz.zeroValue206
  g3 := by kernel_rfl
  g4 := by kernel_rfl }
def sh_lays162_ren : Go.Shelf.Ren := ⟨fun | 162 => 98 | 232 => 101 | 227 => 102 | 234 => 104 | 236 => 106 | 228 => 124 | 271 => 127 | 151 => 126 | 120 => 157 | 197 => 125 | 152 => 156 | 260 => 155 | 137 => 173 | 119 => 174 | 224 => 135 | 225 => 134 | 217 => 133 | 266 => 160 | n => n, fun | 9 => 9 | 4 => 4 | 3 => 3 | 5 => 5 | 117 => 136 | 116 => 135 | 0 => 0 | 124 => 139 | 21 => 21 | 105 => 158 | 46 => 87 | 119 => 203 | 139 => 206 | 138 => 205 | n => n, fun | 3 => 4 | 4 => 5 | n => n⟩
theorem sh_lays162 : Go.Proofs.Lays.n162 Tryz.prog sh_lays162_ren := {
  mixed := by kernel_rfl
  f119 := Tryz.func174.trans (congrArg some (by kernel_rfl))
  f120 := Tryz.func157.trans (congrArg some (by kernel_rfl))
  f137 := Tryz.func173.trans (congrArg some (by kernel_rfl))
  f151 := Tryz.func126.trans (congrArg some (by kernel_rfl))
  f152 := Tryz.func156.trans (congrArg some (by kernel_rfl))
  f162 := Tryz.func98.trans (congrArg some (by kernel_rfl))
  f197 := Tryz.func125.trans (congrArg some (by kernel_rfl))
  f217 := Tryz.func133.trans (congrArg some (by kernel_rfl))
  f224 := Tryz.func135.trans (congrArg some (by kernel_rfl))
  f225 := Tryz.func134.trans (congrArg some (by kernel_rfl))
  f227 := Tryz.func102.trans (congrArg some (by kernel_rfl))
  f228 := Tryz.func124.trans (congrArg some (by kernel_rfl))
  f232 := Tryz.func101.trans (congrArg some (by kernel_rfl))
  f234 := Tryz.func104.trans (congrArg some (by kernel_rfl))
  f236 := Tryz.func106.trans (congrArg some (by kernel_rfl))
  f260 := Tryz.func155.trans (congrArg some (by kernel_rfl))
  f266 := Tryz.func160.trans (congrArg some (by kernel_rfl))
  f271 := Tryz.func127.trans (congrArg some (by kernel_rfl))
  t0 := Tryz.underlying0
  a0 := Tryz.isAgg0
  z0 := Tryz.sizeOf0
  v0 := Tryz.zeroValue0
  t3 := Tryz.underlying3
  a3 := Tryz.isAgg3
  z3 := Tryz.sizeOf3
  v3 := Tryz.zeroValue3
  t4 := Tryz.underlying4
  a4 := Tryz.isAgg4
  z4 := Tryz.sizeOf4
  v4 := Tryz.zeroValue4
  t5 := Tryz.underlying5
  a5 := Tryz.isAgg5
  z5 := Tryz.sizeOf5
  v5 := Tryz.zeroValue5
  t9 := Tryz.underlying9
  a9 := Tryz.isAgg9
  z9 := Tryz.sizeOf9
  v9 := Tryz.zeroValue9
  t21 := Tryz.underlying21
  a21 := Tryz.isAgg21
  z21 := Tryz.sizeOf21
  v21 := Tryz.zeroValue21
  t46 := Tryz.underlying87
  a46 := Tryz.isAgg87
  z46 := Tryz.sizeOf87
  v46 := Tryz.zeroValue87
  t105 := Tryz.underlying158
  a105 := Tryz.isAgg158
  z105 := Tryz.sizeOf158
  v105 := Tryz.zeroValue158
  t116 := Tryz.underlying135
  a116 := Tryz.isAgg135
  z116 := Tryz.sizeOf135
  t117 := Tryz.underlying136
  a117 := Tryz.isAgg136
  z117 := Tryz.sizeOf136
  v117 := Tryz.zeroValue136
  t119 := Tryz.underlying203
  a119 := Tryz.isAgg203
  z119 := Tryz.sizeOf203
  t124 := Tryz.underlying139
  a124 := Tryz.isAgg139
  z124 := Tryz.sizeOf139
  v124 := Tryz.zeroValue139
  t138 := Tryz.underlying205
  a138 := Tryz.isAgg205
  z138 := Tryz.sizeOf205
  v138 := Tryz.zeroValue205
  t139 := Tryz.underlying206
  a139 := Tryz.isAgg206
  z139 := Tryz.sizeOf206
  v139 := Tryz.zeroValue206
  g3 := by kernel_rfl
  g4 := by kernel_rfl }
def sh_lays160_ren : Go.Shelf.Ren := ⟨fun | 160 => 72 | 232 => 101 | 231 => 100 | 227 => 102 | 234 => 104 | 233 => 103 | 236 => 106 | 235 => 105 | 228 => 124 | 271 => 127 | 151 => 126 | 197 => 125 | 120 => 157 | 152 => 156 | 260 => 155 | 137 => 173 | 119 => 174 | 224 => 135 | 225 => 134 | 217 => 133 | 266 => 160 | n => n, fun | 9 => 9 | 4 => 4 | 3 => 3 | 5 => 5 | 117 => 136 | 116 => 135 | 0 => 0 | 124 => 139 | 21 => 21 | 105 => 158 | 46 => 87 | 119 => 203 | 139 => 206 | 138 => 205 | n => n, fun | 3 => 4 | 4 => 5 | n => n⟩
theorem sh_lays160 : Go.Proofs.Lays.n160 Tryz.prog sh_lays160_ren := {
  mixed := by kernel_rfl
  f119 := Tryz.func174.trans (congrArg some (by kernel_rfl))
  f120 := Tryz.func157.trans (congrArg some (by kernel_rfl))
  f137 := Tryz.func173.trans (congrArg some (by kernel_rfl))
  f151 := Tryz.func126.trans (congrArg some (by kernel_rfl))
  f152 := Tryz.func156.trans (congrArg some (by kernel_rfl))
  f160 := Tryz.func72.trans (congrArg some (by kernel_rfl))
  f197 := Tryz.func125.trans (congrArg some (by kernel_rfl))
  f217 := Tryz.func133.trans (congrArg some (by kernel_rfl))
  f224 := Tryz.func135.trans (congrArg some (by kernel_rfl))
  f225 := Tryz.func134.trans (congrArg some (by kernel_rfl))
  f227 := Tryz.func102.trans (congrArg some (by kernel_rfl))
  f228 := Tryz.func124.trans (congrArg some (by kernel_rfl))
  f231 := Tryz.func100.trans (congrArg some (by kernel_rfl))
  f232 := Tryz.func101.trans (congrArg some (by kernel_rfl))
  f233 := Tryz.func103.trans (congrArg some (by kernel_rfl))
  f234 := Tryz.func104.trans (congrArg some (by kernel_rfl))
  f235 := Tryz.func105.trans (congrArg some (by kernel_rfl))
  f236 := Tryz.func106.trans (congrArg some (by kernel_rfl))
  f260 := Tryz.func155.trans (congrArg some (by kernel_rfl))
  f266 := Tryz.func160.trans (congrArg some (by kernel_rfl))
  f271 := Tryz.func127.trans (congrArg some (by kernel_rfl))
  t0 := Tryz.underlying0
  a0 := Tryz.isAgg0
  z0 := Tryz.sizeOf0
  v0 := Tryz.zeroValue0
  t3 := Tryz.underlying3
  a3 := Tryz.isAgg3
  z3 := Tryz.sizeOf3
  v3 := Tryz.zeroValue3
  t4 := Tryz.underlying4
  a4 := Tryz.isAgg4
  z4 := Tryz.sizeOf4
  v4 := Tryz.zeroValue4
  t5 := Tryz.underlying5
  a5 := Tryz.isAgg5
  z5 := Tryz.sizeOf5
  v5 := Tryz.zeroValue5
  t9 := Tryz.underlying9
  a9 := Tryz.isAgg9
  z9 := Tryz.sizeOf9
  v9 := Tryz.zeroValue9
  t21 := Tryz.underlying21
  a21 := Tryz.isAgg21
  z21 := Tryz.sizeOf21
  v21 := Tryz.zeroValue21
  t46 := Tryz.underlying87
  a46 := Tryz.isAgg87
  z46 := Tryz.sizeOf87
  v46 := Tryz.zeroValue87
  t105 := Tryz.underlying158
  a105 := Tryz.isAgg158
  z105 := Tryz.sizeOf158
  v105 := Tryz.zeroValue158
  t116 := Tryz.underlying135
  a116 := Tryz.isAgg135
  z116 := Tryz.sizeOf135
  t117 := Tryz.underlying136
  a117 := Tryz.isAgg136
  z117 := Tryz.sizeOf136
  v117 := Tryz.zeroValue136
  t119 := Tryz.underlying203
  a119 := Tryz.isAgg203
  z119 := Tryz.sizeOf203
  t124 := Tryz.underlying139
  a124 := Tryz.isAgg139
  z124 := Tryz.sizeOf139
  v124 := Tryz.zeroValue139
  t138 := Tryz.underlying205
  a138 := Tryz.isAgg205
  z138 := Tryz.sizeOf205
  v138 := Tryz.zeroValue205
  t139 := Tryz.underlying206
  a139 := Tryz.isAgg206
  z139 := Tryz.sizeOf206
  v139 := Tryz.zeroValue206
  g3 := by kernel_rfl
  g4 := by kernel_rfl }
end Go.Proofs.YthebekheejikgaaGreatDoor
namespace Go.Proofs.YthebekheejikgaaGreatDoor
open Go.RowKit

theorem ascii_zero (w : World) : (zeroValue 135).run Tryz.prog w = .ok (.agg (Array.replicate 256 (.bool false))) w := by kernel_rfl
theorem ascii_size : (Tryz.prog.info? 135).map (·.size) = some 256 := by kernel_rfl
theorem bl2_ascii : ∀ (j : Nat) b, (ByteArray.mk bl2.toArray).data.toList[j]? = some b → b.toNat < 128 := by
  intro j b h
  have h2 := List.mem_of_getElem? h
  simp [bl2] at h2
  rcases h2 with rfl | rfl <;> decide
theorem trim_c (l : List UInt8) (hl : l.length ≤ 1000000) (w : World) :
    Calls Tryz.prog 72 #[.string ⟨l.toArray⟩, .string ⟨bl2.toArray⟩] w fun e w' => e = .returned (.string ⟨(Lib.trimS l bl2).toArray⟩) ∧ Below w.heap.size w w' := by
  have h := Any.strings_Trim_ascii sh_lays160 ascii_zero ascii_size ⟨l.toArray⟩ ⟨bl2.toArray⟩ w (by rw [mk_size]; omega) (by decide) bl2_ascii
  rw [mk_data, mk_data] at h
  exact h
theorem trimL_c (l : List UInt8) (_hl : l.length ≤ 1000000) (w : World) :
    Calls Tryz.prog 99 #[.string ⟨l.toArray⟩, .string ⟨bl2.toArray⟩] w fun e w' => e = .returned (.string ⟨(Lib.trimLeftS l bl2).toArray⟩) ∧ Below w.heap.size w w' := by
  have h := Any.strings_TrimLeft_ascii sh_lays161 ascii_zero ascii_size ⟨l.toArray⟩ ⟨bl2.toArray⟩ w (by decide) bl2_ascii
  rw [mk_data, mk_data] at h
  exact h
theorem trimR_c (l : List UInt8) (hl : l.length ≤ 1000000) (w : World) :
    Calls Tryz.prog 98 #[.string ⟨l.toArray⟩, .string ⟨bl2.toArray⟩] w fun e w' => e = .returned (.string ⟨(Lib.trimRightS l bl2).toArray⟩) ∧ Below w.heap.size w w' := by
  have h := Any.strings_TrimRight_ascii sh_lays162 ascii_zero ascii_size ⟨l.toArray⟩ ⟨bl2.toArray⟩ w (by rw [mk_size]; omega) (by decide) bl2_ascii
  rw [mk_data, mk_data] at h
  exact h
end Go.Proofs.YthebekheejikgaaGreatDoor
namespace Go.Proofs.YthebekheejikgaaGreatDoor
open Go.RowKit

/-- what a comparison of texts shows -/
theorem text_eq (S : ByteArray) (l k : List UInt8) (hS : ⟨l.toArray⟩ = S) (b : Bool) (h : decide (l = k) = b) : decide (S = ⟨k.toArray⟩) = b ∧ (S.toList == k) = b := by
  subst hS
  have e : (ByteArray.mk l.toArray = ⟨k.toArray⟩) ↔ l = k := by
    constructor
    · intro h; injection h with h; exact List.toArray_inj h
    · intro h; rw [h]
  refine ⟨?_, ?_⟩
  · rw [← h, Bool.eq_iff_iff, decide_eq_true_iff, decide_eq_true_iff]; exact e
  · rw [← h, Bool.eq_iff_iff, beq_iff_eq, decide_eq_true_iff, Lib.toList_data, mk_data]
theorem PsAt.later {base gp m m' : Nat} {W : World} {s : PsM} {line : Nat} {mv v : Value} {Bs : List Nat} (h : PsAt base gp m W s line mv v Bs) (hm : m ≤ m') : PsAt base gp m' W s line mv v Bs := ⟨h.ok, h.low, h.nd, h.nin, h.blk, h.peers, h.seen.mono hm⟩
set_option maxRecDepth 100000 in
set_option maxHeartbeats 8000000 in
theorem line_skip (w0 W : World) (gp m line : Nat) (s : PsM) (l : List UInt8) (hb0 : Below w0.heap.size w0 W) (hp : PsA w0.heap.size gp m W s line) (h : l = [] ∨ l.head? = some 35) :
    Calls Tryz.prog 71 #[.pointer (some ⟨gp, 0, none⟩), .string ⟨l.toArray⟩] W fun e W' => e = .returned (.tuple #[]) ∧ PsA w0.heap.size gp (m + 1) W' s line ∧ Below w0.heap.size w0 W' := by
  obtain ⟨mv, v, Bs, hp⟩ := hp
  have HP := Lib.hid (hp.later (Nat.le_succ m))
  have HB := Lib.hid hb0
  have HPF := Lib.hid (fun W => hasPrefix_c l [35] W)
  clear hp hb0
  by_cases h0 : l = []
  · subst h0
    go_enter Tryz.func71, Tryz.ntmps71
    go_wp2
    go_end0
    exact ⟨rfl, ⟨_, _, _, HP.out⟩, HB.out⟩
  · have hpf : ([35] : List UInt8).isPrefixOf l = true := by
      rcases h with h | h
      · exact absurd h h0
      · cases l with
        | nil => exact absurd rfl h0
        | cons a r =>
          simp only [List.head?_cons, Option.some.injEq] at h
          subst h
          rfl
    have HPT := Lib.hid hpf
    obtain ⟨S, hS⟩ : ∃ S : ByteArray, ⟨l.toArray⟩ = S := ⟨_, rfl⟩
    have hte := text_eq S l [] hS false (decide_eq_false h0)
    obtain ⟨q2, q3⟩ := hte
    have HS := Lib.hid hS
    rw [hS]
    clear h hpf hS h0
    go_enter Tryz.func71, Tryz.ntmps71
    go_wp2_with fail
    have hcall := HPF.out W
    rw [HPT.out, HS.out] at hcall
    refine hcall.mono ?_
    rintro e w2 ⟨rfl, hb⟩
    have HP2 := Lib.hid (HP.out.below hb)
    have HB2 := Lib.hid (HB.out.trans (hb.mono HB.out.size))
    clear hb hcall HPF
    go_wp2
    go_end0
    exact ⟨rfl, ⟨_, _, _, HP2.out⟩, HB2.out⟩
end Go.Proofs.YthebekheejikgaaGreatDoor
namespace Go.Proofs.YthebekheejikgaaGreatDoor
open Go.RowKit

theorem eql_map_nil (m : Option Nat) (w : World) : (binOp .eql 82 (.map m) (.map none)).run Tryz.prog w = .ok (.bool m.isNone) w := by
  have h := run_equal_map_nil (P := Tryz.prog) w 82 9 4 m Tryz.underlying82
  simp [binOp, h, Result.andThen]
/-- a map is made and put into the parser -/
theorem made_map {base gp m : Nat} {W : World} {s : PsM} {line : Nat} {mv v : Value} {Bs : List Nat} (h : PsAt base gp m W s line mv v Bs) (hw : base ≤ W.heap.size) : PsAt base gp m ((W.alloc (.map #[] 0)).setCell ⟨gp, 35, none⟩ (.map (some W.heap.size))) ⟨s.conf, some []⟩ line (.map (some W.heap.size)) v Bs := by
  have hlt := h.blk.lt
  have h1 : PsAt base gp m (W.alloc (.map #[] 0)) s line mv v Bs := h.below ((Below.refl _ _).alloc (Nat.le_refl _) _)
  have hb := h1.blk.set_ 35 (.map (some W.heap.size))
  rw [psC_set_seen h.ok] at hb
  have hn := World.ownsMap_made W Tryz.prog 9 (plainElem (H := Unit) Tryz.prog 4)
  refine h.newMap hw rfl ⟨by simp, fun k hk hne => (Below.heap_setCell _ _ _ _ hne).trans (((Below.refl W.heap.size W).alloc (Nat.le_refl _) _).block k hk)⟩ ?_ hb
  exact NamesAt.kept (S := []) hn (Below.heap_setCell _ _ _ _ (by
    show W.heap.size ≠ gp
    omega))
set_option maxRecDepth 100000 in
set_option maxHeartbeats 8000000 in
theorem line_iface (w0 W : World) (gp m line : Nat) (s : PsM) (hb0 : Below w0.heap.size w0 W) (hp : PsA w0.heap.size gp m W s line) (h : s.seen = none) :
    Calls Tryz.prog 71 #[.pointer (some ⟨gp, 0, none⟩), .string ⟨tIface.toArray⟩] W fun e W' => e = .returned (.tuple #[]) ∧ PsA w0.heap.size gp (m + 1) W' ⟨s.conf, some []⟩ line ∧ Below w0.heap.size w0 W' := by
  obtain ⟨mv, v, Bs, hp⟩ := hp
  have hseen := hp.seen
  rw [h] at hseen
  obtain rfl : mv = .map none := hseen
  have HP := Lib.hid (hp.later (Nat.le_succ m))
  have HB := Lib.hid hb0
  have HPF := Lib.hid (fun W => hasPrefix_c tIface [35] W)
  have fs := hp.seenC
  have zx := hp.blk.frozen 35
  have hlt := hp.blk.lt
  have heq : ∀ W : World, (binOp .eql 82 (.map none) (.map none)).run Tryz.prog W = .ok (.bool true) W := fun W => eql_map_nil none W
  have hmm := @run_makeMap Tryz.prog
  clear hp hb0 h
  rw [show tIface.toArray = #[91, 73, 110, 116, 101, 114, 102, 97, 99, 101, 93] from rfl] at HPF ⊢
  go_enter Tryz.func71, Tryz.ntmps71
  go_wp2_with fail
  refine (HPF.out W).mono ?_
  rintro e w2 ⟨rfl, hb⟩
  replace HP := Lib.hid (HP.out.below hb)
  replace HB := Lib.hid (HB.out.trans (hb.mono HB.out.size))
  clear hb HPF fs zx hlt
  have fs := HP.out.seenC
  have zx := HP.out.blk.frozen 35
  rw [show ([35] : List UInt8).isPrefixOf tIface = false from by decide]
  go_wp2_with fail
  refine (require_true _).mono ?_
  rintro e w3 ⟨rfl, rfl⟩
  have HN := Lib.hid (made_map HP.out HB.out.size)
  have HB3 := Lib.hid (set_own (j := 35) (v := .map (some w3.heap.size)) (HB.out.alloc HB.out.size (.map #[] 0)) HP.out.low)
  have fs3 : (w3.alloc (.map #[] 0)).cell? ⟨gp, 35, none⟩ = some (.map none) := (cell_below fs ((Below.refl _ _).alloc (Nat.le_refl _) _))
  have zx3 : (w3.alloc (.map #[] 0)).frozen? ⟨gp, 35, none⟩ = false := (HP.out.below ((Below.refl _ _).alloc (Nat.le_refl _) (.map #[] 0))).blk.frozen 35
  clear fs zx
  go_wp2
  go_end0
  exact ⟨rfl, ⟨_, _, _, HN.out⟩, HB3.out⟩
end Go.Proofs.YthebekheejikgaaGreatDoor
namespace Go.Proofs.YthebekheejikgaaGreatDoor
open Go.RowKit

theorem dropWhile_le {α : Type} (p : α → Bool) (l : List α) : (l.dropWhile p).length ≤ l.length := (List.dropWhile_sublist p).length_le
theorem trimR_le (l cs : List UInt8) : (Lib.trimRightS l cs).length ≤ l.length := by
  unfold Lib.trimRightS
  have := dropWhile_le (cs.contains ·) l.reverse
  simpa using this
theorem trimL_le (l cs : List UInt8) : (Lib.trimLeftS l cs).length ≤ l.length := dropWhile_le _ l
theorem trim_le (l cs : List UInt8) : (Lib.trimS l cs).length ≤ l.length := Nat.le_trans (trimL_le _ _) (trimR_le _ _)
theorem cut_le (l p : List UInt8) : (Lib.cut l p).1.length ≤ l.length ∧ (Lib.cut l p).2.1.length ≤ l.length := by
  unfold Lib.cut
  split
  · simp only [List.length_take, List.length_drop]
    omega
  · simp
set_option maxRecDepth 100000 in
set_option maxHeartbeats 8000000 in
theorem line_entry (w0 W : World) (gp m line : Nat) (s t : PsM) (l : List UInt8) (hlv : LvCf w0) (hb0 : Below w0.heap.size w0 W) (hp : PsA w0.heap.size gp m W s line) (hl : l.length ≤ 4000)
    (h1 : ¬(l = [] ∨ l.head? = some 35)) (h2 : l ≠ tIface) (h3 : l ≠ tPeer) (h4 : (Lib.cut l [61]).2.2 = true)
    (HE : ∀ W', Below w0.heap.size w0 W' → PsA w0.heap.size gp m W' s line → Calls Tryz.prog 97 #[.pointer (some ⟨gp, 0, none⟩), .string ⟨(Lib.trimRightS (Lib.cut l [61]).1 bl2).toArray⟩, .string ⟨(Lib.trimLeftS (Lib.cut l [61]).2.1 bl2).toArray⟩] W' fun e W' => e = .returned (.tuple #[]) ∧ PsA w0.heap.size gp (m + 1) W' t line ∧ Below w0.heap.size w0 W') :
    Calls Tryz.prog 71 #[.pointer (some ⟨gp, 0, none⟩), .string ⟨l.toArray⟩] W fun e W' => e = .returned (.tuple #[]) ∧ PsA w0.heap.size gp (m + 1) W' t line ∧ Below w0.heap.size w0 W' := by
  have hle := cut_le l [61]
  have HP := Lib.hid hp
  have HB := Lib.hid hb0
  have hpf : ([35] : List UInt8).isPrefixOf l = false := by
    cases l with
    | nil => exact absurd (.inl rfl) h1
    | cons a r =>
      have : a ≠ 35 := fun e => h1 (.inr (by rw [e]; rfl))
      simp [List.isPrefixOf, Ne.symm this]
  obtain ⟨S, hS⟩ : ∃ S : ByteArray, ⟨l.toArray⟩ = S := ⟨_, rfl⟩
  have hpfc := fun W => hasPrefix_c l [35] W
  have hcut := fun W' (hb : Below w0.heap.size w0 W') => cut_c l [61] (by omega) W' (hlv.below hb)
  rw [hpf, hS] at hpfc
  rw [h4, hS] at hcut
  obtain ⟨q2, q3⟩ := text_eq S l [] hS false (decide_eq_false fun e => h1 (.inl e))
  obtain ⟨q4, q5⟩ := text_eq S l tIface hS false (decide_eq_false h2)
  obtain ⟨q6, q7⟩ := text_eq S l tPeer hS false (decide_eq_false h3)
  rw [show tIface = [91, 73, 110, 116, 101, 114, 102, 97, 99, 101, 93] from rfl] at q4 q5
  rw [show tPeer = [91, 80, 101, 101, 114, 93] from rfl] at q6 q7
  obtain ⟨nm, hnm⟩ : ∃ z, (Lib.cut l [61]).1 = z := ⟨_, rfl⟩
  obtain ⟨vl, hvl⟩ : ∃ z, (Lib.cut l [61]).2.1 = z := ⟨_, rfl⟩
  rw [hnm, hvl] at hle hcut HE
  have HLE := Lib.hid (And.intro hle hl)
  have HPF := Lib.hid hpfc
  have HCUT := Lib.hid hcut
  have HEN := Lib.hid HE
  obtain ⟨N, hN⟩ : ∃ S : ByteArray, ⟨nm.toArray⟩ = S := ⟨_, rfl⟩
  obtain ⟨V, hV⟩ : ∃ S : ByteArray, ⟨vl.toArray⟩ = S := ⟨_, rfl⟩
  have HN := Lib.hid hN
  have HV := Lib.hid hV
  rw [hS]
  clear hle hcut HE hpfc hS hpf h1 h2 h3 h4 hp hb0 hnm hvl hN hV hl hlv
  go_enter Tryz.func71, Tryz.ntmps71
  go_wp2_with fail
  refine (HPF.out W).mono ?_
  rintro e w2 ⟨rfl, hb⟩
  replace HP := Lib.hid (HP.out.below hb)
  replace HB := Lib.hid (HB.out.trans (hb.mono HB.out.size))
  clear hb HPF
  go_wp2_with fail
  have hc2 := HCUT.out _ HB.out
  rw [HN.out, HV.out] at hc2
  refine hc2.mono ?_
  rintro e w3 ⟨rfl, hb⟩
  replace HP := Lib.hid (HP.out.below hb)
  replace HB := Lib.hid (HB.out.trans (hb.mono HB.out.size))
  clear hb HCUT hc2
  go_wp2_with fail
  refine (require_true _).mono ?_
  rintro e w4 ⟨rfl, rfl⟩
  go_wp2_with fail
  have ht1 := trimR_c nm (by have := HLE.out; omega) w4
  rw [HN.out, show bl2.toArray = #[32, 9] from rfl] at ht1
  refine ht1.mono ?_
  rintro e w5 ⟨rfl, hb⟩
  replace HP := Lib.hid (HP.out.below hb)
  replace HB := Lib.hid (HB.out.trans (hb.mono HB.out.size))
  clear hb ht1
  go_wp2_with fail
  have ht2 := trimL_c vl (by have := HLE.out; omega) w5
  rw [HV.out, show bl2.toArray = #[32, 9] from rfl] at ht2
  refine ht2.mono ?_
  rintro e w6 ⟨rfl, hb⟩
  replace HP := Lib.hid (HP.out.below hb)
  replace HB := Lib.hid (HB.out.trans (hb.mono HB.out.size))
  clear hb ht2
  go_wp2_with fail
  refine (HEN.out w6 HB.out HP.out).mono ?_
  rintro e w7 ⟨rfl, hp7, hb7⟩
  have HP7 := Lib.hid hp7
  have HB7 := Lib.hid hb7
  clear hp7 hb7 HEN
  go_wp2
  go_end0
  exact ⟨rfl, HP7.out, HB7.out⟩
end Go.Proofs.YthebekheejikgaaGreatDoor
namespace Go.Proofs.YthebekheejikgaaGreatDoor
open Go.RowKit

/-- what is asked of readLine -/
def LineC (ok : PsM → List UInt8 → Prop) : Prop := ∀ (w0 W : World) (gp m line : Nat) (s t : PsM) (l : List UInt8), LvCf w0 → Below w0.heap.size w0 W → PsA w0.heap.size gp m W s line → m ≤ 5000 → l.length ≤ 4000 → ok s l → lineM s l = some t →
  Calls Tryz.prog 71 #[.pointer (some ⟨gp, 0, none⟩), .string ⟨l.toArray⟩] W fun e W' => e = .returned (.tuple #[]) ∧ PsA w0.heap.size gp (m + 1) W' t line ∧ Below w0.heap.size w0 W'
def okI (s : PsM) (l : List UInt8) : Prop := s.conf.peers = [] ∧ l ≠ tPeer
theorem lineI : LineC okI := by
  intro w0 W gp m line s t l hlv hb hp hm hl ⟨hpe, hne⟩ h
  unfold lineM at h
  by_cases h1 : l = [] ∨ l.head? = some 35
  · rw [if_pos h1] at h
    injection h with h
    subst h
    exact line_skip w0 W gp m line s l hb hp h1
  · rw [if_neg h1] at h
    by_cases h2 : l = tIface
    · rw [if_pos h2] at h
      by_cases h3 : s.seen.isNone = true
      · rw [if_pos h3] at h
        injection h with h
        subst h h2
        have hs : s.seen = none := by cases hq : s.seen <;> simp_all
        exact line_iface w0 W gp m line s hb hp hs
      · rw [if_neg h3] at h; cases h
    · rw [if_neg h2, if_neg hne] at h
      by_cases h4 : (Lib.cut l [61]).2.2 = true
      · rw [if_pos h4] at h
        have hle := cut_le l [61]
        have hn := trimR_le (Lib.cut l [61]).1 bl2
        have hv := trimL_le (Lib.cut l [61]).2.1 bl2
        exact line_entry w0 W gp m line s t l hlv hb hp hl h1 h2 hne h4 fun W' hb' hp' => entry_iface w0 W' gp m line s t _ _ hlv hb' hp' hm (by omega) (by omega) hpe h
      · rw [if_neg h4] at h; cases h
/-- all lines are of a kind -/
def RunOk (ok : PsM → List UInt8 → Prop) : PsM → List (List UInt8) → Prop
  | _, [] => True
  | s, a :: r => ok s (Lib.trimS a bl2) ∧ ∀ t, lineM s (Lib.trimS a bl2) = some t → RunOk ok t r
theorem lines_cut {r : List UInt8} (h : r ≠ []) : linesB r = (Lib.cut r [10]).1 :: linesB (Lib.cut r [10]).2.1 ∧ (Lib.cut r [10]).2.1.length < r.length := by
  rcases index_at 10 r with ⟨h1, _⟩ | ⟨a, q, rfl, h1, _⟩
  · rw [cut_none h1, linesB_last h1 h]
    refine ⟨rfl, ?_⟩
    cases r with
    | nil => exact absurd rfl h
    | cons x y => simp
  · rw [cut_some h1, linesB_cons h1]
    exact ⟨rfl, by simp; omega⟩
def strLen : Value → Nat
  | .string s => s.size
  | _ => 0
theorem PsAt.setLine {base gp m : Nat} {W : World} {s : PsM} {line line' : Nat} {mv v : Value} {Bs : List Nat} (h : PsAt base gp m W s line mv v Bs) : PsAt base gp m (W.setCell ⟨gp, 34, none⟩ (.int .i64 (line' : Int))) s line' mv v Bs := by
  have hb := h.blk.set_ 34 (.int .i64 (line' : Int))
  rw [psC_set_line h.ok] at hb
  exact h.put .of_set h.ok rfl hb
set_option maxRecDepth 100000 in
set_option maxHeartbeats 8000000 in
theorem read_any {ok : PsM → List UInt8 → Prop} (HLC : LineC ok) (w0 W : World) (gp : Nat) (s t : PsM) (l : List UInt8) (hlv : LvCf w0) (hb0 : Below w0.heap.size w0 W) (hp : PsA w0.heap.size gp 0 W s 0) (hl : l.length ≤ 4000) (hok : RunOk ok s (linesB l)) (hr : runM s (linesB l) = some t) (he : endOk t = true) :
    Calls Tryz.prog 43 #[.pointer (some ⟨gp, 0, none⟩), .string ⟨l.toArray⟩] W fun e W' => e = .returned (.tuple #[]) ∧ (∃ m line, PsA w0.heap.size gp m W' t line) ∧ Below w0.heap.size w0 W' := by
  have HLV := Lib.hid hlv
  have HLN := Lib.hid HLC
  have HE := Lib.hid he
  have HST := Lib.hid (show ∃ (m : Nat) (r : List UInt8) (st : PsM), Value.string ⟨l.toArray⟩ = .string ⟨r.toArray⟩ ∧ m + r.length ≤ 4000 ∧ PsA w0.heap.size gp m W st m ∧ RunOk ok st (linesB r) ∧ runM st (linesB r) = some t ∧ Below w0.heap.size w0 W from ⟨0, l, s, rfl, by omega, hp, hok, hr, hb0⟩)
  clear hlv HLC hb0 hp hok hr he hl
  go_enter Tryz.func43, Tryz.ntmps43
  go_wp2_with fail
  go_loopw [1] (fun v wr => ∃ (m : Nat) (r : List UInt8) (st : PsM), v = .string ⟨r.toArray⟩ ∧ m + r.length ≤ 4000 ∧ PsA w0.heap.size gp m wr st m ∧ RunOk ok st (linesB r) ∧ runM st (linesB r) = some t ∧ Below w0.heap.size w0 wr) (fun v _ => strLen v)
  case atStart => exact HST.out
  case round =>
    clear HST
    obtain ⟨m, r, st, rfl, hmr, hp, hok, hr, hb⟩ := hrel
    by_cases h0 : r = []
    · subst h0
      rw [linesB_nil, runM] at hr
      injection hr with hr
      subst hr
      obtain ⟨mv, v, Bs, hp⟩ := hp
      have HP := Lib.hid hp
      have HB := Lib.hid hb
      have fl := hp.lineC
      have zx := hp.blk.frozen 34
      obtain ⟨m1, hm1⟩ : ∃ z, m + 1 = z := ⟨_, rfl⟩
      have e1 : (m : Int) + 1 = (m1 : Int) := by omega
      have w1' : IntKind.i64.wrap (m1 : Int) = (m1 : Int) := by rw [IntKind.wrap_i64]; omega
      have HP2 := Lib.hid (hp.setLine (line' := m1))
      have HB2 := Lib.hid (set_own (j := 34) (v := .int .i64 (m1 : Int)) hb hp.low)
      clear hp hb hok hmr hm1
      go_wp2_with fail
      refine (endSection_any _ _ gp m m1 st mv v Bs HP2.out HE.out).mono ?_
      rintro e w2 ⟨rfl, rfl⟩
      go_wp2
      go_end0
      exact ⟨rfl, ⟨m, m1, mv, v, Bs, HP2.out⟩, HB2.out⟩
    · obtain ⟨hlc, hlen⟩ := lines_cut h0
      have hle := cut_le r [10]
      obtain ⟨a, ha⟩ : ∃ z, (Lib.cut r [10]).1 = z := ⟨_, rfl⟩
      obtain ⟨q, hq⟩ : ∃ z, (Lib.cut r [10]).2.1 = z := ⟨_, rfl⟩
      rw [ha, hq] at hlc hle
      rw [hq] at hlen
      rw [hlc] at hr hok
      obtain ⟨hok1, hok2⟩ := hok
      rw [runM] at hr
      obtain ⟨t1, ht1⟩ : ∃ t1, lineM st (Lib.trimS a bl2) = some t1 := by
        cases hx : lineM st (Lib.trimS a bl2) with
        | none => rw [hx] at hr; cases hr
        | some t1 => exact ⟨t1, rfl⟩
      rw [ht1] at hr
      simp only at hr
      have HOK := Lib.hid (And.intro hok1 (hok2 t1 ht1))
      have HR := Lib.hid hr
      have HT1 := Lib.hid ht1
      have HLE := Lib.hid (show a.length ≤ 4000 ∧ q.length < r.length ∧ m + r.length ≤ 4000 from by omega)
      obtain ⟨mv, v, Bs, hp⟩ := hp
      have HP := Lib.hid hp
      have HB := Lib.hid hb
      have hcut := cut_c r [10] (by omega) wr (HLV.out.below hb)
      obtain ⟨bo, hbo⟩ : ∃ z, (Lib.cut r [10]).2.2 = z := ⟨_, rfl⟩
      rw [ha, hq, hbo] at hcut
      obtain ⟨R, hR⟩ : ∃ S : ByteArray, ⟨r.toArray⟩ = S := ⟨_, rfl⟩
      obtain ⟨q2, q3⟩ := text_eq R r [] hR false (decide_eq_false h0)
      obtain ⟨AA, hA⟩ : ∃ S : ByteArray, ⟨a.toArray⟩ = S := ⟨_, rfl⟩
      obtain ⟨QQ, hQ⟩ : ∃ S : ByteArray, ⟨q.toArray⟩ = S := ⟨_, rfl⟩
      rw [hR, hA, hQ] at hcut
      rw [hR]
      have HCUT := Lib.hid hcut
      have HAQ := Lib.hid (And.intro hA hQ)
      have HRR := Lib.hid hR
      obtain ⟨m1, hm1⟩ : ∃ z, m + 1 = z := ⟨_, rfl⟩
      have e1 : (m : Int) + 1 = (m1 : Int) := by omega
      have w1' : IntKind.i64.wrap (m1 : Int) = (m1 : Int) := by rw [IntKind.wrap_i64]; omega
      have HM1 := Lib.hid (show m1 = m + 1 ∧ m1 ≤ 4001 from by omega)
      clear hcut hok1 hok2 hr ht1 hlc hle hlen hp hb hmr hm1 ha hq hbo hR hA hQ h0
      go_wp2_with fail
      refine HCUT.out.mono ?_
      rintro e w2 ⟨rfl, hb⟩
      replace HP := Lib.hid (HP.out.below hb)
      replace HB := Lib.hid (HB.out.trans (hb.mono HB.out.size))
      clear hb HCUT q2 q3
      have fl := HP.out.lineC
      have zx := HP.out.blk.frozen 34
      have HP2 := Lib.hid (HP.out.setLine (line' := m1))
      have HB2 := Lib.hid (set_own (j := 34) (v := .int .i64 (m1 : Int)) HB.out HP.out.low)
      go_wp2_with fail
      have htr := trim_c a (by have := HLE.out; omega) (w2.setCell ⟨gp, 34, none⟩ (.int .i64 (m1 : Int)))
      rw [HAQ.out.1, show bl2.toArray = #[32, 9] from rfl] at htr
      refine htr.mono ?_
      rintro e w4 ⟨rfl, hb⟩
      have HP4 := Lib.hid (HP2.out.below hb)
      have HB4 := Lib.hid (HB2.out.trans (hb.mono HB2.out.size))
      clear hb htr fl zx HP HB HP2 HB2 e1 w1'
      go_wp2_with fail
      have hln := HLN.out w0 w4 gp m m1 st t1 (Lib.trimS a bl2) HLV.out HB4.out ⟨_, _, _, HP4.out⟩ (by have := HM1.out; omega) (Nat.le_trans (trim_le _ _) HLE.out.1) HOK.out.1 HT1.out
      refine hln.mono ?_
      rintro e w5 ⟨rfl, hp5, hb5⟩
      have HP5 := Lib.hid hp5
      have HB5 := Lib.hid hb5
      clear hp5 hb5 hln
      go_wp2_with fail
      go_roundw
      case rel => exact ⟨m1, q, t1, by rw [HAQ.out.2], by have := HM1.out; have := HLE.out; omega, by have := HP5.out; rw [← HM1.out.1] at this; exact this, HOK.out.2, HR.out, HB5.out⟩
      case measure =>
        have h1 := HLE.out.2.1
        rw [← HAQ.out.2, ← HRR.out]
        simpa [strLen, mk_size] using h1
end Go.Proofs.YthebekheejikgaaGreatDoor
namespace Go.Proofs.YthebekheejikgaaGreatDoor
open Go.RowKit

theorem b64_byte (d : Nat) (h : d < 64) : b64D d ≠ 10 ∧ b64D d ≠ 32 ∧ b64D d ≠ 9 := by
  have : ∀ d : Fin 64, b64D d.val ≠ 10 ∧ b64D d.val ≠ 32 ∧ b64D d.val ≠ 9 := by decide +kernel
  exact this ⟨d, h⟩
theorem textL_bytes (k : List UInt8) : ∀ x ∈ textL k, x ≠ 10 ∧ x ≠ 32 ∧ x ≠ 9 := by
  intro x hx
  rw [textL, chrs, List.mem_append, List.mem_map, List.mem_singleton] at hx
  rcases hx with ⟨i, _, rfl⟩ | rfl
  · exact b64_byte _ (sext_lt _ _)
  · decide
/-- nothing is cut off a text without blanks at its ends -/
theorem trimL_id (l : List UInt8) (h : ∀ a, l.head? = some a → bl2.contains a = false) : Lib.trimLeftS l bl2 = l := by
  unfold Lib.trimLeftS
  cases l with
  | nil => rfl
  | cons a r => rw [List.dropWhile_cons, if_neg (by rw [h a rfl]; simp)]
theorem trimR_id (l : List UInt8) (h : ∀ a, l.getLast? = some a → bl2.contains a = false) : Lib.trimRightS l bl2 = l := by
  have e := trimL_id l.reverse (fun a ha => h a (by rwa [List.head?_reverse] at ha))
  unfold Lib.trimLeftS at e
  unfold Lib.trimRightS
  rw [e, List.reverse_reverse]
theorem trim_id (l : List UInt8) (h1 : ∀ a, l.head? = some a → bl2.contains a = false) (h2 : ∀ a, l.getLast? = some a → bl2.contains a = false) : Lib.trimS l bl2 = l := by
  rw [Lib.trimS, trimR_id l h2, trimL_id l h1]
def privL (k : List UInt8) : List UInt8 := [80, 114, 105, 118, 97, 116, 101, 75, 101, 121, 61] ++ textL k
def portL : List UInt8 := [76, 105, 115, 116, 101, 110, 80, 111, 114, 116, 61, 49]
def noteL (j : Nat) : List UInt8 := 35 :: List.replicate j 46
def limT (k : List UInt8) (j : Nat) : List UInt8 := tIface ++ 10 :: (privL k ++ 10 :: (portL ++ 10 :: noteL j))
theorem limT_snoc (k : List UInt8) (j : Nat) : limT k (j + 1) = limT k j ++ [46] := by simp [limT, noteL, List.replicate_succ']
theorem limT_length (k : List UInt8) (j : Nat) : (limT k j).length = 82 + j := by
  simp only [limT, privL, portL, noteL, tIface, List.length_append, List.length_cons, List.length_nil, textL_length, List.length_replicate]
  omega
theorem lim_lines (k : List UInt8) (j : Nat) : linesB (limT k j) = [tIface, privL k, portL, noteL j] := by
  rw [limT, linesB_cons (by decide), linesB_cons, linesB_cons (by decide), linesB_last]
  · intro h
    simp only [noteL, List.mem_cons, List.mem_replicate] at h
    rcases h with h | ⟨_, h⟩ <;> cases h
  · simp [noteL]
  · intro h
    rw [privL, List.mem_append] at h
    rcases h with h | h
    · revert h; decide
    · exact (textL_bytes k _ h).1 rfl
def limC (k : List UInt8) : ConfM := ⟨k, 1, []⟩
theorem lim_trims (k : List UInt8) (j : Nat) : Lib.trimS tIface bl2 = tIface ∧ Lib.trimS (privL k) bl2 = privL k ∧ Lib.trimS portL bl2 = portL ∧ Lib.trimS (noteL j) bl2 = noteL j := by
  refine ⟨by decide, ?_, by decide, ?_⟩
  · refine trim_id _ (fun a ha => ?_) (fun a ha => ?_)
    · obtain rfl : (80 : UInt8) = a := by simpa [privL] using ha
      decide
    · rw [privL, textL, ← List.append_assoc, List.getLast?_concat] at ha
      obtain rfl : (61 : UInt8) = a := by simpa using ha
      decide
  · refine trim_id _ (fun a ha => ?_) (fun a ha => ?_)
    · obtain rfl : (35 : UInt8) = a := by simpa [noteL] using ha
      decide
    · have hm := List.mem_of_getLast? ha
      simp only [noteL, List.mem_cons, List.mem_replicate] at hm
      rcases hm with rfl | ⟨_, rfl⟩ <;> decide
theorem cut_priv (k : List UInt8) : Lib.cut (privL k) [61] = (tPriv, textL k, true) := by
  have h : privL k = tPriv ++ 61 :: textL k := by simp [privL, tPriv]
  rw [h, cut_some (by decide)]
theorem lim_l1 : lineM ps0 tIface = some ⟨conf0, some []⟩ := by
  rw [lineM, if_neg (by decide), if_pos rfl]
  rfl
theorem lim_l2 (k : List UInt8) (hk : k.length = 32) : lineM ⟨conf0, some []⟩ (privL k) = some ⟨⟨k, 0, []⟩, some [tPriv]⟩ := by
  have e1 : ¬(privL k = [] ∨ (privL k).head? = some 35) := by simp [privL]
  have e2 : privL k ≠ tIface := by simp [privL, tIface]
  have e3 : privL k ≠ tPeer := by simp [privL, tPeer]
  have ht : Lib.trimLeftS (textL k) bl2 = textL k := trimL_id _ fun a ha => by
    have := textL_bytes k a (List.mem_of_head? ha)
    simp [bl2, this.2.1, this.2.2]
  rw [lineM, if_neg e1, if_neg e2, if_neg e3, cut_priv, if_pos rfl, show Lib.trimRightS tPriv bl2 = tPriv from by decide, ht]
  simp [entryM, ifaceM, parse_text k hk, conf0]
theorem lim_l3 (k : List UInt8) : lineM ⟨⟨k, 0, []⟩, some [tPriv]⟩ portL = some ⟨limC k, some [tPort, tPriv]⟩ := by
  have e1 : ¬(portL = [] ∨ portL.head? = some 35) := by decide
  have e2 : portL ≠ tIface := by decide
  have e3 : portL ≠ tPeer := by decide
  have ec : Lib.cut portL [61] = (tPort, [49], true) := by
    rw [show portL = tPort ++ 61 :: [49] from rfl, cut_some (by decide)]
  rw [lineM, if_neg e1, if_neg e2, if_neg e3, ec, if_pos rfl, show Lib.trimRightS tPort bl2 = tPort from by decide, show Lib.trimLeftS ([49] : List UInt8) bl2 = [49] from by decide]
  have hn : numP [49] 10 = (1, true) := by decide
  have hc : ([tPriv] : List (List UInt8)).contains tPort = false := by decide
  have hp : (tPort = tPriv) = False := by simp [tPort, tPriv]
  simp [entryM, ifaceM, hn, hp, limC]
theorem lim_l4 (s : PsM) (j : Nat) : lineM s (noteL j) = some s := by
  rw [lineM, if_pos (.inr rfl)]
theorem lim_run (k : List UInt8) (hk : k.length = 32) (j : Nat) : parseCf (limT k j) = some (limC k) := by
  obtain ⟨t1, t2, t3, t4⟩ := lim_trims k j
  have h : runM ps0 (linesB (limT k j)) = some ⟨limC k, some [tPort, tPriv]⟩ := by
    rw [lim_lines, runM, t1, lim_l1]
    simp only
    rw [runM, t2, lim_l2 k hk]
    simp only
    rw [runM, t3, lim_l3]
    simp only
    rw [runM, t4, lim_l4]
    rfl
  rw [parseCf, h]
  simp only
  rw [if_pos (by simp [endOk, limC])]
theorem lim_ok (k : List UInt8) (hk : k.length = 32) (j : Nat) : RunOk okI ps0 (linesB (limT k j)) := by
  obtain ⟨t1, t2, t3, t4⟩ := lim_trims k j
  rw [lim_lines]
  refine ⟨⟨rfl, by rw [t1]; decide⟩, fun s1 h1 => ?_⟩
  rw [t1, lim_l1] at h1
  injection h1 with h1
  subst h1
  refine ⟨⟨rfl, by rw [t2]; simp [privL, tPeer]⟩, fun s2 h2 => ?_⟩
  rw [t2, lim_l2 k hk] at h2
  injection h2 with h2
  subst h2
  refine ⟨⟨rfl, by rw [t3]; decide⟩, fun s3 h3 => ?_⟩
  rw [t3, lim_l3] at h3
  injection h3 with h3
  subst h3
  exact ⟨⟨rfl, by rw [t4]; simp [noteL, tPeer]⟩, fun s4 h4 => trivial⟩
theorem lim_valid (k : List UInt8) : validE (limC k) = 0 := by simp [validE, limC, allP, repM]
end Go.Proofs.YthebekheejikgaaGreatDoor
namespace Go.Proofs.YthebekheejikgaaGreatDoor
open Go.RowKit

theorem prefInfo : ∃ i, Tryz.prog.info? 62 = some i ∧ i.zero = some (.agg (prefC addr0 0).toArray) ∧ i.size = 18 ∧ i.bytes = 32 := by
  have h : (Tryz.prog.info? 62).map (fun i => (i.zero, i.size, i.bytes)) = some (some (.agg (prefC addr0 0).toArray), 18, 32) := by kernel_rfl
  cases hi : Tryz.prog.info? 62 with
  | none => rw [hi] at h; cases h
  | some i =>
    rw [hi] at h
    simp only [Option.map_some, Option.some.injEq, Prod.mk.injEq] at h
    exact ⟨i, rfl, h.1, h.2.1, h.2.2⟩
end Go.Proofs.YthebekheejikgaaGreatDoor
namespace Go.Proofs.YthebekheejikgaaGreatDoor
open Go.RowKit

theorem keyInfo : ∃ i, Tryz.prog.info? 24 = some i ∧ i.zero = some (.agg (aeZ 32).toArray) ∧ i.size = 32 ∧ i.bytes = 32 := by
  have h : (Tryz.prog.info? 24).map (fun i => (i.zero, i.size, i.bytes)) = some (some (.agg (aeZ 32).toArray), 32, 32) := by kernel_rfl
  cases hi : Tryz.prog.info? 24 with
  | none => rw [hi] at h; cases h
  | some i =>
    rw [hi] at h
    simp only [Option.map_some, Option.some.injEq, Prod.mk.injEq] at h
    exact ⟨i, rfl, h.1, h.2.1, h.2.2⟩
end Go.Proofs.YthebekheejikgaaGreatDoor
namespace Go.Proofs.YthebekheejikgaaGreatDoor
open Go.RowKit

/-- peers that lie one after the other below B, each with its prefixes -/
def PeRd (W : World) (B : Nat) (A : Option Addr) (n : Nat) (ps : List PeerM) : Prop :=
  ∃ vs : List Value, vs.length = ps.length ∧ RdRow W B A 85 n (peersV ps vs) ∧ (∀ p ∈ ps, p.ok) ∧ ∀ (i : Nat) (p : PeerM) (x : Value), ps[i]? = some p → vs[i]? = some x → ∃ A' c, x = .slice A' p.al.length c ∧ p.al.length ≤ c ∧ c ≤ maxLen ∧ PfRd W B A' p.al.length p.al
theorem peersV_len (ps : List PeerM) (vs : List Value) (h : vs.length = ps.length) : (peersV ps vs).length = ps.length := by rw [peersV, List.length_zipWith, h, Nat.min_self]
theorem peersV_at {ps : List PeerM} {vs : List Value} {i : Nat} {p : PeerM} {x : Value} (hp : ps[i]? = some p) (hx : vs[i]? = some x) : (peersV ps vs)[i]? = some (p.cells x) := by rw [peersV, List.getElem?_zipWith, hp, hx]
theorem PeRd.below {w W : World} {B n : Nat} {A : Option Addr} {ps : List PeerM} (h : PeRd w B A n ps) (hb : Below B w W) : PeRd W B A n ps := by
  obtain ⟨vs, h1, h2, h3, h4⟩ := h
  exact ⟨vs, h1, h2.below hb, h3, fun i p x hp hx => by
    obtain ⟨A', c, e, e1, e2, hr⟩ := h4 i p x hp hx
    exact ⟨A', c, e, e1, e2, hr.below hb⟩⟩
theorem PeRd.mono {W : World} {B C n : Nat} {A : Option Addr} {ps : List PeerM} (h : PeRd W B A n ps) (hc : B ≤ C) : PeRd W C A n ps := by
  obtain ⟨vs, h1, h2, h3, h4⟩ := h
  exact ⟨vs, h1, h2.mono hc, h3, fun i p x hp hx => by
    obtain ⟨A', c, e, e1, e2, hr⟩ := h4 i p x hp hx
    exact ⟨A', c, e, e1, e2, hr.mono hc⟩⟩
theorem PeRd.len {W : World} {B n : Nat} {A : Option Addr} {ps : List PeerM} (h : PeRd W B A n ps) : ps.length = n := by
  obtain ⟨vs, h1, h2, _⟩ := h
  rw [← h2.1, peersV_len ps vs h1]
theorem PeRd.nil {W : World} {B : Nat} {A : Option Addr} : PeRd W B A 0 [] := ⟨[], rfl, RdRow.nil, by simp, by simp⟩
theorem PeRd.addr {W : World} {B n : Nat} {A : Option Addr} {ps : List PeerM} (h : PeRd W B A n ps) (h0 : 0 < n) : ∃ b off, A = some ⟨b, off, none⟩ := by
  obtain ⟨vs, _, h2, _⟩ := h
  exact h2.addr h0
theorem PeRd.at {W : World} {B n b off : Nat} {ps : List PeerM} (h : PeRd W B (some ⟨b, off, none⟩) n ps) (i : Nat) (p : PeerM) (hi : ps[i]? = some p) : p.ok ∧ ∃ A' c, p.al.length ≤ c ∧ c ≤ maxLen ∧ PfRd W B A' p.al.length p.al ∧ b < B ∧ At W b (off + i * 85) (p.cells (.slice A' p.al.length c)) := by
  obtain ⟨vs, h1, h2, h3, h4⟩ := h
  have hlt := (List.getElem?_eq_some_iff.1 hi).1
  have hx : vs[i]? = some vs[i] := List.getElem?_eq_getElem (by omega)
  obtain ⟨A', c, e, e1, e2, hr⟩ := h4 i p _ hi hx
  rw [e] at hx
  have hat := h2.at i _ (peersV_at hi hx)
  exact ⟨h3 p (List.mem_of_getElem? hi), A', c, e1, e2, hr, hat.1, hat.2⟩
/-- peers in rows of the call's own can be read -/
theorem PeersAt.rd {base : Nat} {W : World} {Bs : List Nat} {A : Option Addr} {c n : Nat} {ps : List PeerM} (h : PeersAt base W Bs (.slice A n c) ps) (hn : ps.length = n) (hk : ∀ p ∈ ps, p.ok) : PeRd W W.heap.size A n ps := by
  obtain ⟨vs, hl, h1, h2, _⟩ := h
  rw [hn] at h1
  refine ⟨vs, hl, RdRow.of_own (by rw [peersV_len ps vs hl, hn]) (fun o ho => ?_) h1, hk, fun i p x hp hx => ?_⟩
  · obtain ⟨i, hi, rfl⟩ := List.getElem_of_mem ho
    rw [peersV_len ps vs hl] at hi
    have e := peersV_at (List.getElem?_eq_getElem hi) (List.getElem?_eq_getElem (by omega : i < vs.length))
    rw [List.getElem?_eq_getElem (by rw [peersV_len ps vs hl]; exact hi)] at e
    injection e with e
    rw [e]
    exact PeerM.cells_length (hk _ (List.getElem_mem hi)) _
  · have h3 := h2 i p x hp hx
    have hpk := (hk p (List.mem_of_getElem? hp)).2.2.2.2.2
    rcases h3.2 with ⟨rfl, h0⟩ | ⟨g, cap, cur, rfl, _, _, hnc, hcm, _⟩
    · refine ⟨none, 0, by rw [h0], by omega, Nat.zero_le _, ?_⟩
      have he : p.al = [] := List.length_eq_zero_iff.1 h0
      rw [he]
      exact PfRd.nil
    · exact ⟨_, cap, rfl, hnc, hcm, PfRd.of_own rfl hpk h3⟩
/-- two rows of the call's own that do not share a block -/
def TwoR (base : Nat) (e1 : TypeId) (k1 : Nat) (v1 : Value) (n1 : Nat) (xs1 : List Value) (e2 : TypeId) (k2 : Nat) (v2 : Value) (n2 : Nat) (xs2 : List Value) (W : World) : Prop :=
  W.ownsRow base e1 k1 v1 n1 xs1 ∧ W.ownsRow base e2 k2 v2 n2 xs2 ∧ ∀ k, v1.ownBlock = some k → v2.ownBlock ≠ some k
section
variable {base : Nat} {e1 e2 : TypeId} {k1 k2 n1 n2 : Nat} {v1 v2 : Value} {xs1 xs2 : List Value} {W W' : World}
theorem TwoR.below (h : TwoR base e1 k1 v1 n1 xs1 e2 k2 v2 n2 xs2 W) (hb : Below W.heap.size W W') : TwoR base e1 k1 v1 n1 xs1 e2 k2 v2 n2 xs2 W' :=
  ⟨own_kept h.1 fun k e => hb.block k (own_lt h.1 e).2, own_kept h.2.1 fun k e => hb.block k (own_lt h.2.1 e).2, h.2.2⟩
theorem TwoR.first (h : TwoR base e1 k1 v1 n1 xs1 e2 k2 v2 n2 xs2 W) {u : Value} {m : Nat} {ys : List Value} (ho : W'.ownsRow base e1 k1 u m ys) (hg : W.grownBy W' v1.ownBlock) (hb : u.ownBlock = v1.ownBlock ∨ u.ownBlock = some W.heap.size) : TwoR base e1 k1 u m ys e2 k2 v2 n2 xs2 W' := by
  refine ⟨ho, own_kept h.2.1 fun k e => hg.block k (own_lt h.2.1 e).2 (fun e2 => h.2.2 k e2.symm e), fun b hu hv => ?_⟩
  rcases hb with e | e
  · exact h.2.2 b (e ▸ hu) hv
  · have := (own_lt h.2.1 hv).2
    rw [e] at hu
    injection hu with hu
    omega
theorem TwoR.swap (h : TwoR base e1 k1 v1 n1 xs1 e2 k2 v2 n2 xs2 W) : TwoR base e2 k2 v2 n2 xs2 e1 k1 v1 n1 xs1 W := ⟨h.2.1, h.1, fun k h1 h2 => h.2.2 k h2 h1⟩
theorem TwoR.grown (h : TwoR base e1 k1 v1 n1 xs1 e2 k2 v2 n2 xs2 W) {w0 : World} (hb : Below w0.heap.size w0 W) (hw : w0.heap.size ≤ base) (hg : W.grownBy W' v1.ownBlock) : Below w0.heap.size w0 W' :=
  hb.grown hg hb.size fun _ e => Nat.le_trans hw (own_lt h.1 e).1
end
end Go.Proofs.YthebekheejikgaaGreatDoor
namespace Go.Proofs.YthebekheejikgaaGreatDoor
open Go.RowKit

def idxN (p : Nat → Bool) (n : Nat) : Int := match (List.range n).find? p with
  | none => -1
  | some i => (i : Int)
theorem idxN_none {p : Nat → Bool} {n : Nat} (h : ∀ q, q < n → p q = false) : idxN p n = -1 := by
  have e : (List.range n).find? p = none := List.find?_eq_none.2 fun x hx => by rw [h x (List.mem_range.1 hx)]; simp
  rw [idxN, e]
theorem idxN_some {p : Nat → Bool} {n j : Nat} (hj : j < n) (hp : p j = true) (h : ∀ q, q < j → p q = false) : idxN p n = (j : Int) := by
  have e : (List.range n).find? p = some j := by
    rw [List.find?_eq_some_iff_append]
    refine ⟨hp, List.range j, (List.range (n - (j + 1))).map (· + (j + 1)), ?_, fun x hx => by rw [h x (List.mem_range.1 hx)]; rfl⟩
    have h1 : List.range n = List.range (j + 1 + (n - (j + 1))) := by rw [show j + 1 + (n - (j + 1)) = n by omega]
    rw [h1, List.range_add, List.range_succ, List.append_assoc]
    congr 1
    simp only [List.singleton_append, List.cons.injEq, true_and]
    exact List.map_congr_left fun x _ => by omega
  rw [idxN, e]
theorem idxN_ge (p : Nat → Bool) (n : Nat) : decide (0 ≤ idxN p n) = (List.range n).any p := by
  unfold idxN
  cases h : (List.range n).find? p with
  | none =>
    rw [List.find?_eq_none] at h
    have : (List.range n).any p = false := by
      rw [List.any_eq_false]
      exact h
    rw [this]
    rfl
  | some i =>
    have h1 := List.find?_some h
    have h2 := List.mem_of_find?_eq_some h
    have : (List.range n).any p = true := List.any_eq_true.2 ⟨i, h2, h1⟩
    rw [this]
    simp
end Go.Proofs.YthebekheejikgaaGreatDoor
namespace Go.Proofs.YthebekheejikgaaGreatDoor
open Go.RowKit

theorem eq_obj {P : Program} (m D : Nat) (t : TypeId) (hm : m ≤ 10000) (hk : P.keyTypeAt m t = true) (ht : P.tiled m t = true) (cs ds : List Value) (hc : LitsAt P D t cs) (hd : LitsAt P D t ds) (d : TypeDesc) (hu : P.underlying t = some d) (ho : isObj d = true) (hs : P.cellsOf t = cs.length) (hs2 : P.cellsOf t = ds.length) (b : Bool) (hb : b = true ↔ cs = ds) (w : World) :
    (Op.equalIn 10000 t (.agg cs.toArray) (.agg ds.toArray)).run P w = .ok b w := by
  obtain ⟨la, hla⟩ := hc
  obtain ⟨lb, hlb⟩ := hd
  have hf : (Value.agg cs.toArray).formed P t = true := by
    cases d <;> simp_all [Value.formed, isObj]
  have hg : (Value.agg ds.toArray).formed P t = true := by
    cases d <;> simp_all [Value.formed, isObj]
  obtain ⟨r, hr, hiff⟩ := run_equalIn_deep (P := P) (10000 - m) m t hk w D D (.agg cs.toArray) (.agg ds.toArray) la lb hf hg hla hlb
  rw [Nat.sub_add_cancel hm] at hr
  rw [hr]
  have h : r = true ↔ cs = ds := by
    rw [hiff]
    constructor
    · intro e
      rw [cells_of_lits m t ht D cs la hla, cells_of_lits m t ht D ds lb hlb, e]
    · rintro rfl
      rw [hla] at hlb
      exact Option.some.inj hlb
  rw [show r = b by rw [Bool.eq_iff_iff, h, hb]]
end Go.Proofs.YthebekheejikgaaGreatDoor
namespace Go.Proofs.YthebekheejikgaaGreatDoor
open Go.RowKit

theorem u8v_inj {x y : List UInt8} : x.map u8v = y.map u8v ↔ x = y := by
  refine List.map_inj_right (fun a b hab => ?_)
  have : ((a.toNat : Nat) : Int) = (b.toNat : Int) := by simpa [u8v] using hab
  exact UInt8.toNat.inj (by omega)
theorem key_lits (D : Nat) (k : List UInt8) (h : k.length = 32) : LitsAt Tryz.prog (D + 2) 24 (k.map u8v) :=
  lits_bytes Tryz.underlying24 Tryz.underlying5 (by kernel_rfl) k h (by kernel_rfl)
theorem key_eq (k l : List UInt8) (hk : k.length = 32) (hl : l.length = 32) (w : World) : (Op.equalIn 10000 24 (.agg (k.map u8v).toArray) (.agg (l.map u8v).toArray)).run Tryz.prog w = .ok (decide (k = l)) w :=
  eq_obj 5 3 24 (by omega) (by kernel_rfl) (by kernel_rfl) (k.map u8v) (l.map u8v) (key_lits 1 k hk) (key_lits 1 l hl) _ Tryz.underlying24 rfl (by rw [List.length_map, hk]; kernel_rfl) (by rw [List.length_map, hl]; kernel_rfl) _ (by rw [decide_eq_true_iff, u8v_inj]) w
theorem key_noguard : Tryz.prog.eqGuardType Tryz.prog.depth 24 = false := by kernel_rfl
end Go.Proofs.YthebekheejikgaaGreatDoor
namespace Go.Proofs.YthebekheejikgaaGreatDoor
open Go.RowKit

theorem addr_inj {a b : AddrM} : a.cells = b.cells ↔ a = b := by
  refine ⟨fun h => ?_, fun h => by rw [h]⟩
  cases a; cases b
  simp only [AddrM.cells, List.cons.injEq] at h
  obtain ⟨h1, h2⟩ := h
  injection h1 with h1
  rw [u8v_inj] at h2
  rw [h1, h2]
theorem prefC_inj {a b : AddrM} {i j : Int} (ha : a.ok) (hb : b.ok) : prefC a i = prefC b j ↔ a = b ∧ i = j := by
  refine ⟨fun h => ?_, fun h => by rw [h.1, h.2]⟩
  rw [prefC, prefC] at h
  have h1 := List.append_inj h (by rw [AddrM.cells_length ha, AddrM.cells_length hb])
  refine ⟨addr_inj.1 h1.1, ?_⟩
  have h2 := h1.2
  simp only [List.cons.injEq, Value.int.injEq, and_true, true_and] at h2
  exact h2
theorem pref_lits (D : Nat) (a : AddrM) (h : a.ok) (q : Int) (hq : inI64 q) : LitsAt Tryz.prog (D + 4) 62 (prefC a q) := by
  refine lits_struct Tryz.underlying62 (prefC a q) ?_ (by simp) ?_
  · rw [prefC_length a h q]; kernel_rfl
  · intro f hf
    simp only [List.mem_cons, List.not_mem_nil, or_false] at hf
    rcases hf with rfl | rfl
    · have e : ((prefC a q).drop 0).take (Tryz.prog.cellsOf 55) = a.cells := by
        rw [show Tryz.prog.cellsOf 55 = 17 by kernel_rfl]
        exact prefC_addr a h q
      exact e ▸ addr_lits D _ h
    · have e : ((prefC a q).drop 17).take (Tryz.prog.cellsOf 3) = [.int .i64 q] := by
        rw [show Tryz.prog.cellsOf 3 = 1 by kernel_rfl, prefC, List.drop_left' (AddrM.cells_length h)]; rfl
      exact e ▸ lits_int Tryz.underlying3 _ ⟨by simp [IntKind.min, IntKind.signed, IntKind.bits]; exact hq.1, by simp [IntKind.max, IntKind.signed, IntKind.bits]; exact hq.2⟩
theorem pref_eqd (a b : AddrM) (i j : Int) (ha : a.ok) (hb : b.ok) (hi : inI64 i) (hj : inI64 j) (w : World) : (Op.equalIn 10000 62 (.agg (prefC a i).toArray) (.agg (prefC b j).toArray)).run Tryz.prog w = .ok (decide (a = b ∧ i = j)) w :=
  eq_obj 7 4 62 (by omega) (by kernel_rfl) (by kernel_rfl) (prefC a i) (prefC b j) (pref_lits 0 a ha i hi) (pref_lits 0 b hb j hj) _ Tryz.underlying62 rfl (by rw [prefC_length a ha]; kernel_rfl) (by rw [prefC_length b hb]; kernel_rfl) _ (by rw [decide_eq_true_iff, prefC_inj ha hb]) w
theorem prefix_noguard : Tryz.prog.eqGuardType Tryz.prog.depth 62 = false := by kernel_rfl
end Go.Proofs.YthebekheejikgaaGreatDoor
namespace Go.Proofs.YthebekheejikgaaGreatDoor
open Go.RowKit

theorem wpList_eql_agg {P : Program} {w : World} {ops : Array Oper} {rest : List Oper} {o : Oper} {a : Act} {Q : Exit → Act → World → Prop} (hw : Region.wanted o (yielded ops a.tmps) = true) (t r : TypeId) (i j : Tmp) (ho : o.op = .binOp .eql t (.tmp i) (.tmp j) r) (u v : Array Value) (b : Bool)
    (hx : a.eval (.tmp i) = .agg u) (hy : a.eval (.tmp j) = .agg v) (hg : P.eqGuardType P.depth t = false) (he : (Op.equalIn 10000 t (.agg u) (.agg v)).run P w = .ok b w)
    (h : wpList P ops Q rest (a.put o.dst (.bool b)) w) : wpList P ops Q (o :: rest) a w :=
  wpList_step fun K hK => by
    rw [if_pos hw]
    have he2 : (Op.equalIn Op.maxDepth t (.agg u) (.agg v)).run P w = .ok b w := he
    have hr : (execOp a.eval o).run P w = .ok (.value (.bool b)) w := by
      unfold execOp
      simp only [ho, hx, hy, eqGuard]
      simp [binOp, Op.equal, he2, hg, Result.andThen]
    unfold Oper.wp
    rw [hr]
    exact hK _ _ h
end Go.Proofs.YthebekheejikgaaGreatDoor
namespace Go.Proofs.YthebekheejikgaaGreatDoor
open Go.RowKit

theorem run_cmp_agg {P : Program} (ρ : Operand → Value) (o : Oper) (t r : TypeId) (i j : Tmp) (neg : Bool) (ho : o.op = .binOp (if neg then .neq else .eql) t (.tmp i) (.tmp j) r) (u v : Array Value) (b : Bool) (w : World) (hx : ρ (.tmp i) = .agg u) (hy : ρ (.tmp j) = .agg v) (hg : P.eqGuardType P.depth t = false) (he : (Op.equalIn 10000 t (.agg u) (.agg v)).run P w = .ok b w) :
    (execOp ρ o).run P w = .ok (.value (.bool (if neg then !b else b))) w := by
  have he2 : (Op.equalIn Op.maxDepth t (.agg u) (.agg v)).run P w = .ok b w := he
  unfold execOp
  cases neg
  · rw [if_neg (by decide)] at ho
    simp only [ho, hx, hy, eqGuard]
    simp [binOp, Op.equal, he2, hg, Result.andThen]
  · rw [if_pos rfl] at ho
    simp only [ho, hx, hy, eqGuard]
    simp [binOp, Op.equal, he2, hg, Result.andThen]
theorem yields_cmp_agg {P : Program} {ops : Array Oper} {S : World → Prop} {o : Oper} {a : Act} (neg : Bool) (hw : Region.wanted o (yielded ops a.tmps) = true) (t r : TypeId) (i j : Tmp) (ho : o.op = .binOp (if neg then .neq else .eql) t (.tmp i) (.tmp j) r) (u v : Array Value) (b : Bool)
    (hx : a.eval (.tmp i) = .agg u) (hy : a.eval (.tmp j) = .agg v) (hg : P.eqGuardType P.depth t = false) (he : ∀ w, (Op.equalIn 10000 t (.agg u) (.agg v)).run P w = .ok b w) : YieldsIf P ops S o (.bool (if neg then !b else b)) a :=
  .inl ⟨hw, fun w _ => run_cmp_agg a.eval o t r i j neg ho u v b w hx hy hg (he w)⟩
end Go.Proofs.YthebekheejikgaaGreatDoor
namespace Go.Proofs.YthebekheejikgaaGreatDoor
open Go.RowKit

structure Low where
  P : World → Prop
  keep : ∀ W W' : World, Below W.heap.size W W' → P W → P W'
/-- bytes that a slice reads as -/
def rdL (A : Option Addr) (n : Nat) (l : List UInt8) : Low := ⟨fun W => Rd W W.heap.size A n l, fun _ _ hb h => (h.below hb).mono hb.size⟩
/-- a block -/
def blkL (g : Nat) (t : TypeId) (cs : List Value) : Low := ⟨fun W => Blk W g t cs, fun _ _ hb h => h.below hb h.lt⟩
/-- a row of bytes that was made above base -/
def ownL (base : Nat) (v : Value) (n : Nat) (xs : List Value) : Low := ⟨fun W => W.ownsRow base 5 1 v n xs, fun _ _ hb h => ⟨h.1, by
  rcases h.2 with h1 | ⟨g, cap, cur, hv, hbg, hg, hr⟩
  · exact .inl h1
  · exact .inr ⟨g, cap, cur, hv, hbg, (hb.block g (h.lt g (by rw [hv]; rfl)).2).trans hg, hr⟩⟩⟩
def Lows (w0 : World) (E : List Low) (W : World) : Prop := (∀ f ∈ E, f.P W) ∧ Below w0.heap.size w0 W
section
variable {w0 W W' : World} {E : List Low}
theorem Lows.nil (w0 : World) : Lows w0 [] w0 := ⟨fun f hf => absurd hf (by simp), Below.refl _ _⟩
theorem Lows.bel (h : Lows w0 E W) : Below w0.heap.size w0 W := h.2
theorem Lows.size (h : Lows w0 E W) : w0.heap.size ≤ W.heap.size := h.2.size
theorem Lows.below (h : Lows w0 E W) (hb : Below W.heap.size W W') : Lows w0 E W' := ⟨fun f hf => f.keep _ _ hb (h.1 f hf), h.2.trans (hb.mono h.2.size)⟩
theorem Lows.drew (h : Lows w0 E W) : Lows w0 E W.drew := h.below ((Below.refl _ _).drew)
theorem Lows.cons (h : Lows w0 E W) (f : Low) (hf : f.P W) : Lows w0 (f :: E) W :=
  ⟨fun g hg => by
    rcases List.mem_cons.1 hg with rfl | hg
    · exact hf
    · exact h.1 g hg, h.2⟩
theorem Lows.get (h : Lows w0 E W) (i : Nat) {f : Low} (he : E[i]? = some f) : f.P W := h.1 _ (List.mem_of_getElem? he)
theorem Lows.rd (h : Lows w0 E W) (i : Nat) {A : Option Addr} {n : Nat} {l : List UInt8} (he : E[i]? = some (rdL A n l)) : Rd W W.heap.size A n l := h.get i he
theorem Lows.blk (h : Lows w0 E W) (i : Nat) {g : Nat} {t : TypeId} {cs : List Value} (he : E[i]? = some (blkL g t cs)) : Blk W g t cs := h.get i he
theorem Lows.own (h : Lows w0 E W) (i : Nat) {base : Nat} {v : Value} {n : Nat} {xs : List Value} (he : E[i]? = some (ownL base v n xs)) : W.ownsRow base 5 1 v n xs := h.get i he
theorem Lows.tail (h : Lows w0 E W) (i : Nat) : Lows w0 (E.eraseIdx i) W := ⟨fun f hf => h.1 f (List.mem_of_mem_eraseIdx hf), h.2⟩
/-- a new block -/
theorem Lows.alloc (h : Lows w0 E W) (t : TypeId) (arr : Array Value) (cs : List Value) (ha : arr = cs.toArray) : Lows w0 (blkL W.heap.size t cs :: E) (W.alloc (.cells arr t)) := by
  subst ha
  exact (h.below ((Below.refl _ _).alloc (Nat.le_refl _) _)).cons (blkL _ _ _) (Blk.new W t cs)
/-- a block above is written -/
theorem Lows.grown (h : Lows w0 E W) {W2 : World} (hb : Below W.heap.size W W') {row : Option Nat} (hg : W'.grownBy W2 row) (hr : ∀ k, row = some k → W.heap.size ≤ k) : Lows w0 E W2 := h.below (hb.grown hg hb.size hr)
/-- a new block that is written at once -/
theorem Lows.stored (h : Lows w0 E W) {t : TypeId} {arr : Array Value} {cs : List Value} {W2 : World} (hg : (W.alloc (.cells arr t)).grownBy W2 (some W.heap.size)) (hb : Blk W2 W.heap.size t cs) : Lows w0 (blkL W.heap.size t cs :: E) W2 :=
  (h.grown ((Below.refl _ _).alloc (Nat.le_refl _) _) hg (by intro k hk; injection hk with hk; omega)).cons (blkL _ _ _) hb
end
end Go.Proofs.YthebekheejikgaaGreatDoor
namespace Go.Proofs.YthebekheejikgaaGreatDoor
open Go.RowKit

section
variable {P : Program} {ops : Array Oper} {Q : Exit → Act → World → Prop} {md : Region.Mode} {S : World → Prop}
end
end Go.Proofs.YthebekheejikgaaGreatDoor
namespace Go.Proofs.YthebekheejikgaaGreatDoor
open Go.RowKit

set_option maxRecDepth 100000 in
set_option maxHeartbeats 8000000 in
theorem keyIndex_any (A : Option Addr) (n c : Nat) (l : List (List UInt8)) (x : List UInt8) (w : World) (hr : RdRow w w.heap.size A 32 n (l.map fun z => (z).map u8v)) (hk : ∀ z ∈ l, (z).length = 32) (hx : (x).length = 32) (hn : n ≤ 1000000) :
    Calls Tryz.prog 83 #[.slice A n c, .agg ((x).map u8v).toArray] w fun e w' => e = .returned (.int .i64 (idxN (fun i => l[i]?.any fun z => eqK x z) n)) ∧ Below w.heap.size w w' := by
  have HR := Lib.hid hr
  have HK := Lib.hid hk
  have HX := Lib.hid hx
  have HLN := Lib.hid (show l.length = n from by have h := hr.1; rwa [List.length_map] at h)
  obtain ⟨p, hp⟩ : ∃ p : Nat → Bool, (fun i => l[i]?.any fun z => eqK x z) = p := ⟨_, rfl⟩
  rw [hp]
  have HPP := Lib.hid (show ∀ j z, l[j]? = some z → p j = eqK x z from fun j z h => by rw [← hp]; simp only [h, Option.any_some])
  obtain ⟨cx, hcx⟩ : ∃ z, ((x).map u8v).toArray = z := ⟨_, rfl⟩
  rw [hcx]
  have HCX := Lib.hid hcx
  have HM0 := Lib.hid ((Lows.nil w).alloc 24 cx ((x).map u8v) hcx.symm)
  clear hr hk hx hp hcx
  go_enter Tryz.func83, Tryz.ntmps83
  go_upto_region 1 with fail
  generalize w.alloc (.cells cx 24) = w1 at HM0 ⊢
  obtain ⟨g, hg⟩ : ∃ g, w.heap.size = g := ⟨_, rfl⟩
  have HG := Lib.hid hg
  rw [show blkL w.heap.size 24 ((x).map u8v) = blkL g 24 ((x).map u8v) from by rw [hg]] at HM0
  rw [hg]
  clear hg
  go_wp2_with fail
  go_loopw [8] (fun i wr => ∃ j : Nat, j ≤ n ∧ i = .int .i64 (j : Int) ∧ Lows w [blkL g 24 ((x).map u8v)] wr ∧ ∀ q, q < j → p q = false) (fun i _ => n - (intOf i).toNat)
  case atStart => exact ⟨0, Nat.zero_le _, rfl, HM0.out, fun q h => absurd h (Nat.not_lt_zero _)⟩
  case round =>
    clear HM0
    obtain ⟨j, hj, rfl, hM, hno⟩ := hrel
    have HM := Lib.hid hM
    have HNO := Lib.hid hno
    clear hM hno
    by_cases hjn : j < n
    · have d1 : decide ((j : Int) < (n : Int)) = true := by simp; omega
      obtain ⟨b, off, rfl⟩ := HR.out.addr (by omega)
      obtain ⟨z, hz⟩ : ∃ z, l[j]? = some z := ⟨l[j]'(by rw [HLN.out]; exact hjn), List.getElem?_eq_getElem _⟩
      have HZ := Lib.hid (And.intro hz (HK.out z (List.mem_of_getElem? hz)))
      have hat := HR.out.at j ((z).map u8v) (by rw [List.getElem?_map, hz]; rfl)
      have HAT := Lib.hid (show ∀ W, Below w.heap.size w W → At W b (off + j * 32) ((z).map u8v) from fun W hW => hat.2.mono hW hat.1)
      have heq := fun w' : World => (show _ = Result.ok (eqK x z) w' from key_eq x z HX.out (HK.out z (List.mem_of_getElem? hz)) w')
      have hpj := HPP.out j z hz
      obtain ⟨y, hy⟩ : ∃ y, eqK x z = y := ⟨_, rfl⟩
      rw [HCX.out] at heq
      rw [hy] at heq hpj
      obtain ⟨co, hco⟩ : ∃ c, ((z).map u8v).toArray = c := ⟨_, rfl⟩
      rw [hco] at heq
      have HCO := Lib.hid hco
      have HEQ := Lib.hid heq
      have HPJ := Lib.hid hpj
      clear hz hat heq hpj hy hco
      go_upto_region 4 with fail
      clear d1
      refine wp_region_held_drew (S := fun W' => Lows w [blkL g 24 ((x).map u8v)] W') (by kernel_rfl) (HM.out.drew) (fun hHeld => ?_)
      refine take_first (v := .agg cx) 0 rfl (by kernel_rfl) (by kernel_rfl) (by kernel_rfl) (fun _ _ _ h => h) (by rw [← HCX.out]; exact yields_load_obj (by rfl) 24 (.tmp 3) rfl g 0 rfl _ (fun W hW => (Lows.blk hW 0 rfl).all) _ Tryz.underlying24 rfl (size32 (by rw [List.length_map, HX.out]))) (by assumption) ?_
      (try simp only [Act.put, List.setIfInBounds_toArray, List.set_cons_zero, List.set_cons_succ])
      refine take_first (v := ?_) 1 rfl (by kernel_rfl) (by kernel_rfl) (by kernel_rfl) (fun _ _ _ h => h) (Or.inl ⟨by rfl, ?_⟩) (by assumption) ?_
      rotate_left
      · (intro w hSw; (try dsimp only at hSw); go_simp; try with_reducible rfl)
      (try simp only [Act.put, List.setIfInBounds_toArray, List.set_cons_zero, List.set_cons_succ])
      refine take_first (v := ?_) 2 rfl (by kernel_rfl) (by kernel_rfl) (by kernel_rfl) (fun _ _ _ h => h) (Or.inl ⟨by rfl, ?_⟩) (by assumption) ?_
      rotate_left
      · (intro w hSw; (try dsimp only at hSw); go_simp; try with_reducible rfl)
      (try simp only [Act.put, List.setIfInBounds_toArray, List.set_cons_zero, List.set_cons_succ])
      refine take_first (v := ?_) 3 rfl (by kernel_rfl) (by kernel_rfl) (by kernel_rfl) (fun _ _ _ h => h) (Or.inl ⟨by rfl, ?_⟩) (by assumption) ?_
      rotate_left
      · (intro w hSw; (try dsimp only at hSw); go_simp; try with_reducible rfl)
      (try simp only [Act.put, List.setIfInBounds_toArray, List.set_cons_zero, List.set_cons_succ])
      refine take_first (v := .agg co) 4 rfl (by kernel_rfl) (by kernel_rfl) (by kernel_rfl) (fun _ _ _ h => h) (by rw [← HCO.out]; exact yields_load_obj (by rfl) 24 (.tmp 14) rfl b _ rfl _ (fun W hW => HAT.out W hW.bel) _ Tryz.underlying24 rfl (size32 (by rw [List.length_map, HZ.out.2]))) (by assumption) ?_
      (try simp only [Act.put, List.setIfInBounds_toArray, List.set_cons_zero, List.set_cons_succ])
      refine take_first (v := .bool y) 5 rfl (by kernel_rfl) (by kernel_rfl) (by kernel_rfl) (fun _ _ _ h => h) (yields_cmp_agg false (by rfl) 24 24 11 15 rfl cx co y rfl rfl key_noguard (fun w' => HEQ.out w')) (by assumption) ?_
      (try simp only [Act.put, List.setIfInBounds_toArray, List.set_cons_zero, List.set_cons_succ])
      refine wpAnyH_done (by kernel_rfl) ?_ _
      have hS9 := hHeld
      clear hHeld
      have HS9 := Lib.hid hS9
      clear hS9
      cases y with
      | true =>
        go_wp2
        go_ret
        exact ⟨by rw [idxN_some hjn HPJ.out HNO.out]; rfl, HS9.out.bel⟩
      | false =>
        go_wp2_with fail
        go_roundw
        case rel => exact ⟨j + 1, by omega, by go_num, HS9.out, fun q hq => by
          rcases Nat.lt_or_ge q j with h | h
          · exact HNO.out q h
          · obtain rfl : q = j := by omega
            exact HPJ.out⟩
        case measure => simp [intOf]; omega
    · obtain rfl : j = n := by omega
      have d1 : decide ((j : Int) < (j : Int)) = false := by simp
      have HF := Lib.hid HM.out
      have HX2 := Lib.hid (idxN_none HNO.out)
      clear HM HNO
      go_wp2
      go_ret
      exact ⟨by rw [HX2.out]; rfl, HF.out.bel⟩
set_option maxRecDepth 100000 in
set_option maxHeartbeats 8000000 in
theorem prefIndex_any (A : Option Addr) (n c : Nat) (l : List (AddrM × Int)) (x : AddrM × Int) (w : World) (hr : RdRow w w.heap.size A 18 n (l.map fun z => prefC (z).1 (z).2)) (hk : ∀ z ∈ l, okP z) (hx : okP x) (hn : n ≤ 1000000) :
    Calls Tryz.prog 84 #[.slice A n c, .agg (prefC (x).1 (x).2).toArray] w fun e w' => e = .returned (.int .i64 (idxN (fun i => l[i]?.any fun z => eqP x z) n)) ∧ Below w.heap.size w w' := by
  have HR := Lib.hid hr
  have HK := Lib.hid hk
  have HX := Lib.hid hx
  have HLN := Lib.hid (show l.length = n from by have h := hr.1; rwa [List.length_map] at h)
  obtain ⟨p, hp⟩ : ∃ p : Nat → Bool, (fun i => l[i]?.any fun z => eqP x z) = p := ⟨_, rfl⟩
  rw [hp]
  have HPP := Lib.hid (show ∀ j z, l[j]? = some z → p j = eqP x z from fun j z h => by rw [← hp]; simp only [h, Option.any_some])
  obtain ⟨cx, hcx⟩ : ∃ z, (prefC (x).1 (x).2).toArray = z := ⟨_, rfl⟩
  rw [hcx]
  have HCX := Lib.hid hcx
  have HM0 := Lib.hid ((Lows.nil w).alloc 62 cx (prefC (x).1 (x).2) hcx.symm)
  clear hr hk hx hp hcx
  go_enter Tryz.func84, Tryz.ntmps84
  go_upto_region 1 with fail
  generalize w.alloc (.cells cx 62) = w1 at HM0 ⊢
  obtain ⟨g, hg⟩ : ∃ g, w.heap.size = g := ⟨_, rfl⟩
  have HG := Lib.hid hg
  rw [show blkL w.heap.size 62 (prefC (x).1 (x).2) = blkL g 62 (prefC (x).1 (x).2) from by rw [hg]] at HM0
  rw [hg]
  clear hg
  go_wp2_with fail
  go_loopw [8] (fun i wr => ∃ j : Nat, j ≤ n ∧ i = .int .i64 (j : Int) ∧ Lows w [blkL g 62 (prefC (x).1 (x).2)] wr ∧ ∀ q, q < j → p q = false) (fun i _ => n - (intOf i).toNat)
  case atStart => exact ⟨0, Nat.zero_le _, rfl, HM0.out, fun q h => absurd h (Nat.not_lt_zero _)⟩
  case round =>
    clear HM0
    obtain ⟨j, hj, rfl, hM, hno⟩ := hrel
    have HM := Lib.hid hM
    have HNO := Lib.hid hno
    clear hM hno
    by_cases hjn : j < n
    · have d1 : decide ((j : Int) < (n : Int)) = true := by simp; omega
      obtain ⟨b, off, rfl⟩ := HR.out.addr (by omega)
      obtain ⟨z, hz⟩ : ∃ z, l[j]? = some z := ⟨l[j]'(by rw [HLN.out]; exact hjn), List.getElem?_eq_getElem _⟩
      have HZ := Lib.hid (And.intro hz (HK.out z (List.mem_of_getElem? hz)))
      have hat := HR.out.at j (prefC (z).1 (z).2) (by rw [List.getElem?_map, hz]; rfl)
      have HAT := Lib.hid (show ∀ W, Below w.heap.size w W → At W b (off + j * 18) (prefC (z).1 (z).2) from fun W hW => hat.2.mono hW hat.1)
      have heq := fun w' : World => (show _ = Result.ok (eqP x z) w' from pref_eqd x.1 z.1 x.2 z.2 HX.out.1 (HK.out z (List.mem_of_getElem? hz)).1 HX.out.2 (HK.out z (List.mem_of_getElem? hz)).2 w')
      have hpj := HPP.out j z hz
      obtain ⟨y, hy⟩ : ∃ y, eqP x z = y := ⟨_, rfl⟩
      rw [HCX.out] at heq
      rw [hy] at heq hpj
      obtain ⟨co, hco⟩ : ∃ c, (prefC (z).1 (z).2).toArray = c := ⟨_, rfl⟩
      rw [hco] at heq
      have HCO := Lib.hid hco
      have HEQ := Lib.hid heq
      have HPJ := Lib.hid hpj
      clear hz hat heq hpj hy hco
      go_upto_region 4 with fail
      clear d1
      refine wp_region_held_drew (S := fun W' => Lows w [blkL g 62 (prefC (x).1 (x).2)] W') (by kernel_rfl) (HM.out.drew) (fun hHeld => ?_)
      refine take_first (v := .agg cx) 0 rfl (by kernel_rfl) (by kernel_rfl) (by kernel_rfl) (fun _ _ _ h => h) (by rw [← HCX.out]; exact yields_load_obj (by rfl) 62 (.tmp 3) rfl g 0 rfl _ (fun W hW => (Lows.blk hW 0 rfl).all) _ Tryz.underlying62 rfl (pref_cellsOf' x.1 HX.out.1 x.2)) (by assumption) ?_
      (try simp only [Act.put, List.setIfInBounds_toArray, List.set_cons_zero, List.set_cons_succ])
      refine take_first (v := ?_) 1 rfl (by kernel_rfl) (by kernel_rfl) (by kernel_rfl) (fun _ _ _ h => h) (Or.inl ⟨by rfl, ?_⟩) (by assumption) ?_
      rotate_left
      · (intro w hSw; (try dsimp only at hSw); go_simp; try with_reducible rfl)
      (try simp only [Act.put, List.setIfInBounds_toArray, List.set_cons_zero, List.set_cons_succ])
      refine take_first (v := ?_) 2 rfl (by kernel_rfl) (by kernel_rfl) (by kernel_rfl) (fun _ _ _ h => h) (Or.inl ⟨by rfl, ?_⟩) (by assumption) ?_
      rotate_left
      · (intro w hSw; (try dsimp only at hSw); go_simp; try with_reducible rfl)
      (try simp only [Act.put, List.setIfInBounds_toArray, List.set_cons_zero, List.set_cons_succ])
      refine take_first (v := ?_) 3 rfl (by kernel_rfl) (by kernel_rfl) (by kernel_rfl) (fun _ _ _ h => h) (Or.inl ⟨by rfl, ?_⟩) (by assumption) ?_
      rotate_left
      · (intro w hSw; (try dsimp only at hSw); go_simp; try with_reducible rfl)
      (try simp only [Act.put, List.setIfInBounds_toArray, List.set_cons_zero, List.set_cons_succ])
      refine take_first (v := .agg co) 4 rfl (by kernel_rfl) (by kernel_rfl) (by kernel_rfl) (fun _ _ _ h => h) (by rw [← HCO.out]; exact yields_load_obj (by rfl) 62 (.tmp 14) rfl b _ rfl _ (fun W hW => HAT.out W hW.bel) _ Tryz.underlying62 rfl (pref_cellsOf' z.1 HZ.out.2.1 z.2)) (by assumption) ?_
      (try simp only [Act.put, List.setIfInBounds_toArray, List.set_cons_zero, List.set_cons_succ])
      refine take_first (v := .bool y) 5 rfl (by kernel_rfl) (by kernel_rfl) (by kernel_rfl) (fun _ _ _ h => h) (yields_cmp_agg false (by rfl) 62 62 11 15 rfl cx co y rfl rfl prefix_noguard (fun w' => HEQ.out w')) (by assumption) ?_
      (try simp only [Act.put, List.setIfInBounds_toArray, List.set_cons_zero, List.set_cons_succ])
      refine wpAnyH_done (by kernel_rfl) ?_ _
      have hS9 := hHeld
      clear hHeld
      have HS9 := Lib.hid hS9
      clear hS9
      cases y with
      | true =>
        go_wp2
        go_ret
        exact ⟨by rw [idxN_some hjn HPJ.out HNO.out]; rfl, HS9.out.bel⟩
      | false =>
        go_wp2_with fail
        go_roundw
        case rel => exact ⟨j + 1, by omega, by go_num, HS9.out, fun q hq => by
          rcases Nat.lt_or_ge q j with h | h
          · exact HNO.out q h
          · obtain rfl : q = j := by omega
            exact HPJ.out⟩
        case measure => simp [intOf]; omega
    · obtain rfl : j = n := by omega
      have d1 : decide ((j : Int) < (j : Int)) = false := by simp
      have HF := Lib.hid HM.out
      have HX2 := Lib.hid (idxN_none HNO.out)
      clear HM HNO
      go_wp2
      go_ret
      exact ⟨by rw [HX2.out]; rfl, HF.out.bel⟩
end Go.Proofs.YthebekheejikgaaGreatDoor
namespace Go.Proofs.YthebekheejikgaaGreatDoor
open Go.RowKit

theorem ks_under : Tryz.prog.underlying 71 = some (.slice (Tryz.prog.elem 71)) := by kernel_rfl
theorem ks_elem : Tryz.prog.elem 71 = 24 := by kernel_rfl
theorem ks_sizeOf (w : World) : (sizeOf (Tryz.prog.elem 71)).run Tryz.prog w = .ok 32 w := by
  obtain ⟨i0, hi, _, hs, _⟩ := keyInfo
  rw [ks_elem]
  simp [sizeOf, typeInfo, hi, hs]
set_option maxRecDepth 100000 in
theorem ks_h {n : Nat} (A : Option Addr) (c j : Nat) (h2 : j ≤ n) (h3 : n ≤ c) (w : World) : (Instr.sliceAt 71 (.slice A n c) none (some (.int .i64 (j : Int))) none).run Tryz.prog w = .ok (.slice (addrK A 0 c 32) j c) w := by
  rw [run_sliceAt_slice (P := Tryz.prog) (w := w) 71 _ _ _ _ ks_under, run_slice_h (P := Tryz.prog) (w := w) 71 A n c ks_under .i64 j (by omega) (by omega), ks_sizeOf]
  simp only [Result.andThen, sliced, Int.toNat_natCast, Nat.sub_zero]
  rfl
theorem ps_under : Tryz.prog.underlying 51 = some (.slice (Tryz.prog.elem 51)) := by kernel_rfl
theorem ps_elem : Tryz.prog.elem 51 = 62 := by kernel_rfl
theorem ps_sizeOf (w : World) : (sizeOf (Tryz.prog.elem 51)).run Tryz.prog w = .ok 18 w := by
  obtain ⟨i0, hi, _, hs, _⟩ := prefInfo
  rw [ps_elem]
  simp [sizeOf, typeInfo, hi, hs]
set_option maxRecDepth 100000 in
theorem ps_h {n : Nat} (A : Option Addr) (c j : Nat) (h2 : j ≤ n) (h3 : n ≤ c) (w : World) : (Instr.sliceAt 51 (.slice A n c) none (some (.int .i64 (j : Int))) none).run Tryz.prog w = .ok (.slice (addrK A 0 c 18) j c) w := by
  rw [run_sliceAt_slice (P := Tryz.prog) (w := w) 51 _ _ _ _ ps_under, run_slice_h (P := Tryz.prog) (w := w) 51 A n c ps_under .i64 j (by omega) (by omega), ps_sizeOf]
  simp only [Result.andThen, sliced, Int.toNat_natCast, Nat.sub_zero]
  rfl
end Go.Proofs.YthebekheejikgaaGreatDoor
