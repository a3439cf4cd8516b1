/-
  The contract of readPeer. The parser's readLine for the texts of a configuration without peers; the parser's read. The lines of peers: readLine and readEntry where there are peers. No statement is proved here.
-/
import Derived.RegionTactic
import Derived.Deep.DeepCutAuto
import Derived.Test.YtcbfchkhbngpkaaGreatDoorConfigReturnsB12
namespace Go.Proofs.YtcbfchkhbngpkaaGreatDoor
open Go.RowKit

theorem keep_cell {W W' : World} {g j : Nat} {v : Value} {row : Option Nat} (h : W.cell? ⟨g, j, none⟩ = some v) (hlt : g < W.heap.size) (hg : W.grownBy W' row) (hne : some g ≠ row) : W'.cell? ⟨g, j, none⟩ = some v := (World.cell?_of_block (a := ⟨g, j, none⟩) (hg.block g hlt hne)).trans h
theorem keep_frozen {W W' : World} {g j : Nat} {row : Option Nat} (h : W.frozen? ⟨g, j, none⟩ = false) (hlt : g < W.heap.size) (hg : W.grownBy W' row) (hne : some g ≠ row) : W'.frozen? ⟨g, j, none⟩ = false := (World.frozen?_of_block (a := ⟨g, j, none⟩) (hg.block g hlt hne)).trans h
/-- the texts of the parts, in a block that is none of the parser's -/
def TxtAt (W : World) (gs g : Nat) (x : Value) (ts : List (List UInt8)) : Prop := At W gs 0 (ts.map strV) ∧ gs < W.heap.size ∧ gs ≠ g ∧ x.ownBlock ≠ some gs
theorem txt_below {W W' : World} {gs g : Nat} {x : Value} {ts : List (List UInt8)} (h : TxtAt W gs g x ts) (hb : Below W.heap.size W W') : TxtAt W' gs g x ts := ⟨h.1.mono hb h.2.1, Nat.lt_of_lt_of_le h.2.1 hb.size, h.2.2⟩
theorem txt_more {W W' : World} {gs g : Nat} {x x' : Value} {ts : List (List UInt8)} (h : TxtAt W gs g x ts) (hg : W.grownBy W' x.ownBlock) (hx : x'.ownBlock = x.ownBlock ∨ x'.ownBlock = some W.heap.size) (j : Nat) (u : Value) : TxtAt (W'.setCell ⟨g, j, none⟩ u) gs g x' ts := by
  obtain ⟨h1, h2, h3, h4⟩ := h
  refine ⟨fun i v hv => ?_, Nat.lt_of_lt_of_le h2 (Nat.le_trans hg.size (by simp [World.setCell])), h3, fun e => ?_⟩
  · rw [World.cell?_setCell_far _ _ _ _ (show (⟨g, j, none⟩ : Addr).block ≠ gs from fun e => h3 e.symm)]
    exact keep_cell (h1 i v hv) h2 hg (fun e => h4 e.symm)
  · rcases hx with hx | hx
    · exact h4 (hx ▸ e)
    · rw [hx] at e
      injection e with e
      omega
theorem own_set_below {w0 W W' : World} {n : Nat} {e : TypeId} {x : Value} {xs : List Value} {g : Nat} (h : Below w0.heap.size w0 W) (hg : W.grownBy W' x.ownBlock) (ho : W.ownsRow w0.heap.size e 18 x n xs) (hl : w0.heap.size ≤ g) (j : Nat) (u : Value) : Below w0.heap.size w0 (W'.setCell ⟨g, j, none⟩ u) :=
  (h.grown hg h.size (fun _ hk => (own_lt ho hk).1)).setCell hl _
theorem LastV.xne {base gp m : Nat} {W : World} {c : ConfM} {sn : Option (List (List UInt8))} {line : Nat} {mv : Value} {g cp : Nat} {rest : List Value} {done : List PeerM} {vs : List Value} {p : PeerM} {x : Value} (h : LastV base gp m W c sn line mv g cp rest done vs p x) : some g ≠ x.ownBlock := fun e => h.sep (i := vs.length) (y := x) (by simp) e.symm rfl
theorem okAl {p : PeerM} {q : AddrM × Int} (h : p.ok) (hq : q.1.ok ∧ inI64 q.2) : ({ p with al := p.al ++ [q] } : PeerM).ok := ⟨h.1, h.2.1, h.2.2.1, h.2.2.2.1, h.2.2.2.2.1, fun r hr => by
  rcases List.mem_append.1 hr with hr | hr
  · exact h.2.2.2.2.2 r hr
  · rw [List.mem_singleton.1 hr]; exact hq⟩
theorem pfs_app1 (l : List (AddrM × Int)) (q : AddrM × Int) : (pfsV l).flatten ++ (pfsV [q]).flatten = (pfsV (l ++ [q])).flatten := by simp [pfsV]
theorem row_pref (w : World) (q : AddrM × Int) (hq : q.1.ok) : RdRow (w.alloc (.cells (prefC q.1 q.2).toArray 60)) (w.alloc (.cells (prefC q.1 q.2).toArray 60)).heap.size (some ⟨w.heap.size, 0, none⟩) 18 1 (pfsV [q]) :=
  blk_row (t := 60) (rest := []) (by simpa [pfsV] using Blk.new w 60 (prefC q.1 q.2)) (by intro o ho; rw [pfsV, List.map_singleton, List.mem_singleton] at ho; rw [ho, prefC_length _ hq]) rfl
theorem endP_in (l : List UInt8) : inI64 ((endP l).1.2 : Int) := by
  have := (endP_ok l).2
  exact ⟨by omega, by omega⟩
theorem prefOf_ok (l : List UInt8) : (prefOf l).1.ok ∧ inI64 (prefOf l).2 := by
  have h := prefP_ok l
  exact ⟨h.1, by show inI64 ((prefP l).1.2 : Int); exact ⟨by omega, by omega⟩⟩
theorem peerM_cases {p q : PeerM} {name value : List UInt8} (h : peerM p name value = some q) : (name = tPub ∧ ∃ k, parseK value = some k ∧ q = { p with pub := k }) ∨ (name = tSha ∧ ∃ k, parseK value = some k ∧ q = { p with sha := k }) ∨
    (name = tEnd ∧ (endP value).2 = 0 ∧ q = { p with hasE := true, ea := (endP value).1.1, ep := ((endP value).1.2 : Int) }) ∨ (name = tKeep ∧ (numP value 10).2 = true ∧ q = { p with keep := ((numP value 10).1 : Int) }) ∨
    (name = tAll ∧ (∀ x ∈ allM value, (prefP x).2 = 0) ∧ q = { p with al := p.al ++ (allM value).map prefOf }) := by
  unfold peerM at h
  split at h
  · rename_i hn
    cases hk : parseK value with
    | none => rw [hk] at h; cases h
    | some k => rw [hk] at h; injection h with h; exact .inl ⟨hn, k, rfl, h.symm⟩
  split at h
  · rename_i hn
    cases hk : parseK value with
    | none => rw [hk] at h; cases h
    | some k => rw [hk] at h; injection h with h; exact .inr (.inl ⟨hn, k, rfl, h.symm⟩)
  split at h
  · rename_i hn
    split at h
    · rename_i he; injection h with h; exact .inr (.inr (.inl ⟨hn, he, h.symm⟩))
    · cases h
  split at h
  · rename_i hn
    split at h
    · rename_i he; injection h with h; exact .inr (.inr (.inr (.inl ⟨hn, he, h.symm⟩)))
    · cases h
  split at h
  · rename_i hn
    unfold prefsM at h
    split at h
    · rename_i he
      injection h with h
      refine .inr (.inr (.inr (.inr ⟨hn, fun x hx => ?_, h.symm⟩)))
      simpa using List.all_eq_true.1 he x hx
    · cases h
  · cases h
set_option maxRecDepth 100000 in
set_option maxHeartbeats 8000000 in
theorem rpeer_any (w0 W : World) (gp m line : Nat) (c : ConfM) (sn : Option (List (List UInt8))) (mv : Value) (g cp : Nat) (rest : List Value) (done : List PeerM) (vs : List Value) (p q : PeerM) (x : Value) (name value : List UInt8) (hlv : LvCf w0) (hb0 : Below w0.heap.size w0 W) (hp : LastV w0.heap.size gp m W c sn line mv g cp rest done vs p x) (hv : value.length ≤ 4000) (hal : p.al.length ≤ 100000) (h : peerM p name value = some q) :
    Calls Tryz.prog 121 #[.pointer (some ⟨g, done.length * 85, none⟩), .string ⟨name.toArray⟩, .string ⟨value.toArray⟩] W fun e W' => e = .returned (.tuple #[]) ∧ (∃ x', LastV w0.heap.size gp m W' c sn line mv g cp rest done vs q x') ∧ Below w0.heap.size w0 W' := by
  have HP := Lib.hid hp
  have HB := Lib.hid hb0
  have HLV := Lib.hid hlv
  have HV := Lib.hid hv
  have HA0 := Lib.hid hal
  clear hp hb0 hlv hv hal
  rcases peerM_cases h with ⟨rfl, k, hk, rfl⟩ | ⟨rfl, k, hk, rfl⟩ | ⟨rfl, he, rfl⟩ | ⟨rfl, hn, rfl⟩ | ⟨rfl, hx, rfl⟩
  · have HK := Lib.hid hk
    clear hk h
    rw [show tPub.toArray = #[80, 117, 98, 108, 105, 99, 75, 101, 121] from rfl]
    obtain ⟨S, hS⟩ : ∃ S : ByteArray, ⟨value.toArray⟩ = S := ⟨_, rfl⟩
    rw [hS]
    have HS := Lib.hid hS
    clear hS
    go_enter Tryz.func121, Tryz.ntmps121
    go_wp2_with fail
    refine (parseKey_any S value HS.out.symm (by have := HV.out; omega) _).mono ?_
    intro e w2 hk2
    obtain ⟨rfl, hb⟩ := key_some HK.out hk2
    have hk32 := (text_parse value k HK.out).1
    have HK32 := Lib.hid hk32
    replace HP := Lib.hid (HP.out.below hb)
    replace HB := Lib.hid (HB.out.trans (hb.mono HB.out.size))
    clear hb hk32 hk2
    go_wp2_with fail
    refine (must_key (k.map u8v) (by rw [List.length_map, HK32.out]) (u8v_one k) _).mono ?_
    rintro e w3 ⟨rfl, hb⟩
    replace HP := Lib.hid (HP.out.below hb)
    replace HB := Lib.hid (HB.out.trans (hb.mono HB.out.size))
    clear hb
    obtain ⟨kc, hkc⟩ : ∃ z, (k.map u8v).toArray = z := ⟨_, rfl⟩
    rw [hkc]
    have HKC := Lib.hid hkc
    clear hkc
    go_wp2_with ((with_reducible refine at_op (.store 24 (.tmp 19) (.tmp 17)) rfl ?_); refine wpList_store_obj rfl 24 (.tmp 19) (.tmp 17) rfl g (done.length * 85) (k.map u8v) (by rfl) (by show Value.agg kc = _; rw [HKC.out]) 57 _ HP.out.blk (size32 (by rw [List.length_map, HK32.out])) (by rw [List.length_map, HK32.out, HP.out.total]; have := HP.out.le; omega) (u8v_one k) ?_; intro w9 hb9 hg9)
    have HF := Lib.hid (HP.out.put (p' := { p with pub := k }) 0 (k.map u8v) (by rw [List.length_map, HK32.out]; omega) (peer_pub_set HP.out.pok x k HK32.out) (⟨HK32.out, HP.out.pok.2⟩) rfl hg9 hb9)
    have HBF := Lib.hid (grown_own HB.out hg9 HP.out.gl)
    go_end0
    exact ⟨rfl, ⟨x, HF.out⟩, HBF.out⟩
  · have HK := Lib.hid hk
    clear hk h
    rw [show tSha.toArray = #[80, 114, 101, 115, 104, 97, 114, 101, 100, 75, 101, 121] from rfl]
    obtain ⟨S, hS⟩ : ∃ S : ByteArray, ⟨value.toArray⟩ = S := ⟨_, rfl⟩
    rw [hS]
    have HS := Lib.hid hS
    clear hS
    go_enter Tryz.func121, Tryz.ntmps121
    go_wp2_with fail
    refine (parseKey_any S value HS.out.symm (by have := HV.out; omega) _).mono ?_
    intro e w2 hk2
    obtain ⟨rfl, hb⟩ := key_some HK.out hk2
    have hk32 := (text_parse value k HK.out).1
    have HK32 := Lib.hid hk32
    replace HP := Lib.hid (HP.out.below hb)
    replace HB := Lib.hid (HB.out.trans (hb.mono HB.out.size))
    clear hb hk32 hk2
    go_wp2_with fail
    refine (must_key (k.map u8v) (by rw [List.length_map, HK32.out]) (u8v_one k) _).mono ?_
    rintro e w3 ⟨rfl, hb⟩
    replace HP := Lib.hid (HP.out.below hb)
    replace HB := Lib.hid (HB.out.trans (hb.mono HB.out.size))
    clear hb
    obtain ⟨kc, hkc⟩ : ∃ z, (k.map u8v).toArray = z := ⟨_, rfl⟩
    rw [hkc]
    have HKC := Lib.hid hkc
    clear hkc
    go_wp2_with ((with_reducible refine at_op (.store 24 (.tmp 29) (.tmp 27)) rfl ?_); refine wpList_store_obj rfl 24 (.tmp 29) (.tmp 27) rfl g (done.length * 85 + 32) (k.map u8v) (by rfl) (by show Value.agg kc = _; rw [HKC.out]) 57 _ HP.out.blk (size32 (by rw [List.length_map, HK32.out])) (by rw [List.length_map, HK32.out, HP.out.total]; have := HP.out.le; omega) (u8v_one k) ?_; intro w9 hb9 hg9)
    have HF := Lib.hid (HP.out.put (p' := { p with sha := k }) 32 (k.map u8v) (by rw [List.length_map, HK32.out]; omega) (peer_set_sha HP.out.pok x k HK32.out) (⟨HP.out.pok.1, HK32.out, HP.out.pok.2.2⟩) rfl hg9 hb9)
    have HBF := Lib.hid (grown_own HB.out hg9 HP.out.gl)
    go_end0
    exact ⟨rfl, ⟨x, HF.out⟩, HBF.out⟩
  · have hpe := fun W' (hb : Below w0.heap.size w0 W') => cfParseEndC value (by have := HV.out; omega) W' (HLV.out.below hb)
    have heo := (endP_ok value).1
    rw [he] at hpe
    have hep2 := endP_in value
    obtain ⟨ea, hea⟩ : ∃ z, (endP value).1.1 = z := ⟨_, rfl⟩
    obtain ⟨ep, hep⟩ : ∃ z : Int, ((endP value).1.2 : Int) = z := ⟨_, rfl⟩
    rw [hea, hep] at hpe
    rw [hea] at heo
    rw [hep] at hep2
    rw [hea, hep]
    have hme := fun W' => must_end (prefC ea ep) (prefC_length ea heo ep) (pref_oneR ea ep) W'
    obtain ⟨ec, hec⟩ : ∃ z, (prefC ea ep).toArray = z := ⟨_, rfl⟩
    rw [hec] at hpe hme
    have HPE := Lib.hid hpe
    have HME := Lib.hid hme
    have HEC := Lib.hid hec
    have HEO := Lib.hid (And.intro heo hep2)
    clear hpe hme hec heo hep2 he h hea hep
    rw [show tEnd.toArray = #[69, 110, 100, 112, 111, 105, 110, 116] from rfl]
    obtain ⟨S, hS⟩ : ∃ S : ByteArray, ⟨value.toArray⟩ = S := ⟨_, rfl⟩
    rw [hS] at HPE ⊢
    clear hS
    go_enter Tryz.func121, Tryz.ntmps121
    go_wp2_with fail
    refine (HPE.out _ HB.out).mono ?_
    rintro e w2 ⟨rfl, hb⟩
    replace HP := Lib.hid (HP.out.below hb)
    replace HB := Lib.hid (HB.out.trans (hb.mono HB.out.size))
    clear hb HPE
    go_wp2_with fail
    refine (HME.out _).mono ?_
    rintro e w3 ⟨rfl, hb⟩
    replace HP := Lib.hid (HP.out.below hb)
    replace HB := Lib.hid (HB.out.trans (hb.mono HB.out.size))
    clear hb HME
    go_upto_region 8 with ((with_reducible refine at_op (.store 55 (.tmp 39) (.tmp 37)) rfl ?_); refine wpList_store_obj rfl 55 (.tmp 39) (.tmp 37) rfl g (done.length * 85 + 65) (prefC ea ep) (by rfl) (by show Value.agg ec = _; rw [HEC.out]) 57 _ HP.out.blk (end_cellsOf ea HEO.out.1 ep) (by rw [prefC_length ea HEO.out.1, HP.out.total]; have := HP.out.le; omega) (pref_oneR ea ep) ?_; intro w9 hb9 hg9)
    have HF := Lib.hid (HP.out.put (p' := { p with ea := ea, ep := ep }) 65 (prefC ea ep) (by rw [prefC_length ea HEO.out.1]; omega) (peer_set_end HP.out.pok x ea HEO.out.1 ep) ⟨HP.out.pok.1, HP.out.pok.2.1, HEO.out.1, HEO.out.2, HP.out.pok.2.2.2.2⟩ rfl hg9 hb9)
    have HBF := Lib.hid (grown_own HB.out hg9 HP.out.gl)
    clear hb9 hg9 HP HB
    have fo := HF.out.at 64 _ (peer_at HF.out.pok _).1
    have zo := HF.out.blk.frozen (done.length * 85 + 64)
    have HC := Lib.hid (HF.out.cell (p' := { p with hasE := true, ea := ea, ep := ep }) 64 (.bool true) (by omega) (peer_set_has HF.out.pok x true) ⟨HF.out.pok.1, HF.out.pok.2.1, HF.out.pok.2.2⟩ rfl)
    have HBC := Lib.hid (set_own (j := done.length * 85 + 64) (v := .bool true) HBF.out HF.out.gl)
    go_wp2
    go_end0
    exact ⟨rfl, ⟨x, HC.out⟩, HBC.out⟩
  · have HN := Lib.hid hn
    clear hn h
    rw [show tKeep.toArray = #[80, 101, 114, 115, 105, 115, 116, 101, 110, 116, 75, 101, 101, 112, 97, 108, 105, 118, 101] from rfl]
    have hnum := fun W' (hb : Below w0.heap.size w0 W') => number_any value (by have := HV.out; omega) W' (HLV.out.below hb)
    rw [HN.out] at hnum
    have hlt := numP_lt value 10
    obtain ⟨S, hS⟩ : ∃ S : ByteArray, ⟨value.toArray⟩ = S := ⟨_, rfl⟩
    rw [hS] at hnum ⊢
    obtain ⟨n, hn⟩ : ∃ n, (numP value 10).1 = n := ⟨_, rfl⟩
    rw [hn] at hnum hlt ⊢
    have HNUM := Lib.hid hnum
    have HIN := Lib.hid (show inI64 (n : Int) from ⟨by omega, by simp only [Nat.reducePow] at hlt; omega⟩)
    clear hnum hlt hS hn
    go_enter Tryz.func121, Tryz.ntmps121
    go_wp2_with fail
    refine (HNUM.out _ HB.out).mono ?_
    rintro e w2 ⟨rfl, hb⟩
    replace HP := Lib.hid (HP.out.below hb)
    replace HB := Lib.hid (HB.out.trans (hb.mono HB.out.size))
    clear hb HNUM
    go_wp2_with fail
    refine (must_i64 _ _).mono ?_
    rintro e w3 ⟨rfl, rfl⟩
    have fo := HP.out.at 83 _ (peer_at HP.out.pok _).2.1
    have zo := HP.out.blk.frozen (done.length * 85 + 83)
    have HC := Lib.hid (HP.out.cell (p' := { p with keep := (n : Int) }) 83 (.int .i64 (n : Int)) (by omega) (peer_set_keep HP.out.pok x _) ⟨HP.out.pok.1, HP.out.pok.2.1, HP.out.pok.2.2.1, HP.out.pok.2.2.2.1, HIN.out, HP.out.pok.2.2.2.2.2⟩ rfl)
    have HBC := Lib.hid (set_own (j := done.length * 85 + 83) (v := .int .i64 (n : Int)) HB.out HP.out.gl)
    go_wp2
    go_end0
    exact ⟨rfl, ⟨x, HC.out⟩, HBC.out⟩
  · obtain ⟨pi, hpi, hpz, hps, hpb⟩ := prefInfo
    have HPI := Lib.hid (And.intro hpi (And.intro hpz (And.intro hps hpb)))
    have HX0 := Lib.hid hx
    have hsl := split_len 44 value
    obtain ⟨ts, hts⟩ : ∃ z, splitB 44 value = z := ⟨_, rfl⟩
    have hsp := fun W' (hb : Below w0.heap.size w0 W') => split_c value 44 (by have := HV.out; omega) W' (HLV.out.below hb)
    have hpart : ∀ y ∈ ts, y.length ≤ value.length := by rw [← hts]; exact fun y hy => split_part 44 value y hy
    rw [hts] at hsp hsl
    have HALM := Lib.hid (show allM value = ts.map (fun x => Lib.trimS x bl2) from by rw [allM, hts])
    have HPT := Lib.hid hpart
    obtain ⟨n, hn⟩ : ∃ z, ts.length = z := ⟨_, rfl⟩
    rw [hn] at hsp hsl
    have HN := Lib.hid hn
    have HNV := Lib.hid (show n ≤ 4001 from by have := HV.out; omega)
    have hnv := HNV.out
    rw [show tAll.toArray = #[65, 108, 108, 111, 119, 101, 100, 73, 80, 115] from rfl]
    obtain ⟨S, hS⟩ : ∃ S : ByteArray, ⟨value.toArray⟩ = S := ⟨_, rfl⟩
    rw [hS] at hsp ⊢
    have HSP := Lib.hid hsp
    clear hpi hpz hps hpb hts hsp hpart hn hS hsl h hx
    go_enter Tryz.func121, Tryz.ntmps121
    go_wp2_with fail
    refine (HSP.out _ HB.out).mono ?_
    rintro e w2 ⟨gs, rfl, hgl, hgs, hat, hb⟩
    have hxb : x.ownBlock ≠ some gs := fun e => by have := (own_lt HP.out.xown e).2; omega
    have hgg : gs ≠ g := fun e => by have := HP.out.blk.lt; omega
    replace HP := Lib.hid (HP.out.below hb)
    replace HB := Lib.hid (HB.out.trans (hb.mono HB.out.size))
    have HT := Lib.hid (show TxtAt w2 gs g x ts from ⟨hat, hgs, hgg, hxb⟩)
    clear hb HSP hat hgs hgl hxb hgg
    go_wp2_with fail
    go_loopw [58] (fun i wr => ∃ (j : Nat) (pj : PeerM) (y : Value), j ≤ n ∧ i = .int .i64 (j : Int) ∧ pj = { p with al := p.al ++ (ts.take j).map (fun z => prefOf (Lib.trimS z bl2)) } ∧ LastV w0.heap.size gp m wr c sn line mv g cp rest done vs pj y ∧ Below w0.heap.size w0 wr ∧ TxtAt wr gs g y ts) (fun i _ => n - (intOf i).toNat)
    case atStart => exact ⟨0, p, x, Nat.zero_le _, rfl, by rw [List.take_zero, List.map_nil, List.append_nil], HP.out, HB.out, HT.out⟩
    case round =>
      clear HP HB HT
      obtain ⟨j, pj, x, hj, rfl, hpj, hp, hb, ht⟩ := hrel
      have HP := Lib.hid hp
      have HB := Lib.hid hb
      have HT := Lib.hid ht
      have HPJ := Lib.hid hpj
      clear hp hb ht hpj
      by_cases hjn : j < n
      · have d1 : decide ((j : Int) < (n : Int)) = true := by simp; omega
        obtain ⟨y, hy⟩ : ∃ y, ts[j]? = some y := ⟨ts[j]'(by rw [HN.out]; exact hjn), List.getElem?_eq_getElem _⟩
        have HYL := Lib.hid (show y.length ≤ 4000 from Nat.le_trans (HPT.out y (List.mem_of_getElem? hy)) HV.out)
        have hft : wr.cell? ⟨gs, j, none⟩ = some (.string ⟨y.toArray⟩) := by
          have h := HT.out.1 j (strV y) (by rw [List.getElem?_map, hy]; rfl)
          rw [Nat.zero_add] at h
          exact h
        obtain ⟨y2, hy2⟩ : ∃ z, Lib.trimS y bl2 = z := ⟨_, rfl⟩
        have hz : (prefP y2).2 = 0 := HX0.out y2 (by rw [HALM.out, ← hy2]; exact List.mem_map_of_mem (List.mem_of_getElem? hy))
        have hy2l : y2.length ≤ 4000 := by rw [← hy2]; exact Nat.le_trans (trim_le y bl2) HYL.out
        have hpp := fun W' (hb : Below w0.heap.size w0 W') => cfParsePrefC y2 (by omega) W' (HLV.out.below hb)
        rw [hz] at hpp
        obtain ⟨q, hq⟩ : ∃ z, prefOf y2 = z := ⟨_, rfl⟩
        have hqo : q.1.ok ∧ inI64 q.2 := by rw [← hq]; exact prefOf_ok y2
        have hq2 : prefC (prefP y2).1.1 ((prefP y2).1.2 : Int) = prefC q.1 q.2 := by rw [← hq]; rfl
        rw [hq2] at hpp
        have hmu := fun W' => must_pref (prefC q.1 q.2) (prefC_length q.1 hqo.1 q.2) (pref_oneR q.1 q.2) W'
        obtain ⟨qc, hqc⟩ : ∃ z, (prefC q.1 q.2).toArray = z := ⟨_, rfl⟩
        rw [hqc] at hpp hmu
        have HNX := Lib.hid (show ({ pj with al := pj.al ++ [q] } : PeerM) = { p with al := p.al ++ (ts.take (j + 1)).map (fun z => prefOf (Lib.trimS z bl2)) } from by
          rw [HPJ.out, take_snoc hy, List.map_append, List.map_singleton, hy2, hq, List.append_assoc])
        have HAL := Lib.hid (show pj.al.length ≤ 104001 from by
          rw [HPJ.out]
          simp only [List.length_append, List.length_map, List.length_take]
          have := HA0.out
          have := HNV.out
          omega)
        have htr := fun W' => trim_c y (by have := HYL.out; omega) W'
        rw [hy2] at htr
        obtain ⟨SY, hSY⟩ : ∃ S : ByteArray, ⟨y.toArray⟩ = S := ⟨_, rfl⟩
        obtain ⟨SZ, hSZ⟩ : ∃ S : ByteArray, ⟨y2.toArray⟩ = S := ⟨_, rfl⟩
        rw [hSZ] at hpp
        simp only [hSY] at hft htr
        simp only [hSZ] at htr
        have HPP := Lib.hid hpp
        have HMU := Lib.hid hmu
        have HQC := Lib.hid hqc
        have HQO := Lib.hid hqo
        have HTR := Lib.hid htr
        have HJ := Lib.hid hjn
        clear hz hy2l hpp hq hqo hq2 hmu hqc htr hy hy2 hSY hSZ HYL
        go_upto_region 15 with fail
        clear hft d1
        refine wp_region_held_drew (S := fun _ => True) (by kernel_rfl) (trivial) (fun hHeld => ?_)
        replace HP := Lib.hid (HP.out.below ((Below.refl _ _).drew))
        replace HB := Lib.hid HB.out.drew
        replace HT := Lib.hid (txt_below HT.out ((Below.refl _ _).drew))
        generalize wr.drew = wd1 at HP HB HT hHeld ⊢
        refine take_first (v := ?_) 0 rfl (by kernel_rfl) (by kernel_rfl) (by kernel_rfl) (fun _ _ _ h => h) (Or.inl ⟨by rfl, ?_⟩) trivial ?_
        rotate_left
        · (intro w hSw; (try dsimp only at hSw); go_simp; try with_reducible rfl)
        (try simp only [Act.put, List.setIfInBounds_toArray, List.set_cons_zero, List.set_cons_succ])
        refine take_first (v := ?_) 1 rfl (by kernel_rfl) (by kernel_rfl) (by kernel_rfl) (fun _ _ _ h => h) (Or.inl ⟨by rfl, ?_⟩) trivial ?_
        rotate_left
        · (intro w hSw; (try dsimp only at hSw); go_simp; try with_reducible rfl)
        (try simp only [Act.put, List.setIfInBounds_toArray, List.set_cons_zero, List.set_cons_succ])
        refine take_first (v := ?_) 2 rfl (by kernel_rfl) (by kernel_rfl) (by kernel_rfl) (fun _ _ _ h => h) (Or.inl ⟨by rfl, ?_⟩) trivial ?_
        rotate_left
        · (intro w hSw; (try dsimp only at hSw); go_simp; try with_reducible rfl)
        (try simp only [Act.put, List.setIfInBounds_toArray, List.set_cons_zero, List.set_cons_succ])
        refine take_first (v := ?_) 3 rfl (by kernel_rfl) (by kernel_rfl) (by kernel_rfl) (fun _ _ _ h => h) (Or.inl ⟨by rfl, ?_⟩) trivial ?_
        rotate_left
        · (intro w hSw; (try dsimp only at hSw); go_simp; try with_reducible rfl)
        (try simp only [Act.put, List.setIfInBounds_toArray, List.set_cons_zero, List.set_cons_succ])
        refine take_first (v := ?_) 5 rfl (by kernel_rfl) (by kernel_rfl) (by kernel_rfl) (fun _ _ _ h => h) (Or.inl ⟨by rfl, ?_⟩) trivial ?_
        rotate_left
        · (intro w hSw; (try dsimp only at hSw); go_simp; try with_reducible rfl)
        (try simp only [Act.put, List.setIfInBounds_toArray, List.set_cons_zero, List.set_cons_succ])
        refine step_two 4 6 rfl rfl (by kernel_rfl) (fun K hK => ?_) (fun K hK => ?_)
        · clear hHeld
          have fo := HP.out.at 84 _ (peer_at HP.out.pok _).2.2
          go_simp
          refine hK.out _ _ trivial (fun hHeld => ?_)
          clear hK K
          (try simp only [Act.put, List.setIfInBounds_toArray, List.set_cons_zero, List.set_cons_succ])
          clear fo
          refine step_one 6 rfl (by kernel_rfl) (fun K hK => ?_)
          clear hHeld
          go_simp
          refine (HTR.out _).mono ?_
          rintro e wy2 ⟨rfl, hb⟩
          replace HP := Lib.hid (HP.out.below hb)
          replace HB := Lib.hid (HB.out.trans (hb.mono HB.out.size))
          replace HT := Lib.hid (txt_below HT.out hb)
          clear hb
          go_wp2_with fail
          refine hK.out _ _ trivial (fun hHeld => ?_)
          clear hK K
          (try simp only [Act.put, List.setIfInBounds_toArray, List.set_cons_zero, List.set_cons_succ])
          refine step_one 7 rfl (by kernel_rfl) (fun K hK => ?_)
          clear hHeld
          go_simp
          refine (HPP.out _ HB.out).mono ?_
          rintro e wy3 ⟨rfl, hb⟩
          replace HP := Lib.hid (HP.out.below hb)
          replace HB := Lib.hid (HB.out.trans (hb.mono HB.out.size))
          replace HT := Lib.hid (txt_below HT.out hb)
          clear hb
          go_wp2_with fail
          refine hK.out _ _ trivial (fun hHeld => ?_)
          clear hK K
          (try simp only [Act.put, List.setIfInBounds_toArray, List.set_cons_zero, List.set_cons_succ])
          refine take_first (v := ?_) 8 rfl (by kernel_rfl) (by kernel_rfl) (by kernel_rfl) (fun _ _ _ h => h) (Or.inl ⟨by rfl, ?_⟩) trivial ?_
          rotate_left
          · (intro w hSw; (try dsimp only at hSw); go_simp; try with_reducible rfl)
          (try simp only [Act.put, List.setIfInBounds_toArray, List.set_cons_zero, List.set_cons_succ])
          refine take_first (v := ?_) 9 rfl (by kernel_rfl) (by kernel_rfl) (by kernel_rfl) (fun _ _ _ h => h) (Or.inl ⟨by rfl, ?_⟩) trivial ?_
          rotate_left
          · (intro w hSw; (try dsimp only at hSw); go_simp; try with_reducible rfl)
          (try simp only [Act.put, List.setIfInBounds_toArray, List.set_cons_zero, List.set_cons_succ])
          refine step_one 10 rfl (by kernel_rfl) (fun K hK => ?_)
          clear hHeld
          go_simp
          refine (HMU.out _).mono ?_
          rintro e wy4 ⟨rfl, hb⟩
          replace HP := Lib.hid (HP.out.below hb)
          replace HB := Lib.hid (HB.out.trans (hb.mono HB.out.size))
          replace HT := Lib.hid (txt_below HT.out hb)
          clear hb
          go_wp2_with fail
          refine hK.out _ _ trivial (fun hHeld => ?_)
          clear hK K
          (try simp only [Act.put, List.setIfInBounds_toArray, List.set_cons_zero, List.set_cons_succ])
          refine step_one 11 rfl (by kernel_rfl) (fun K hK => ?_)
          clear hHeld
          refine step_buildOne rfl 49 60 (.tmp 72) rfl qc rfl 18 Tryz.underlying49 pi HPI.out.1 HPI.out.2.2.1 _ HPI.out.2.1 (by decide) (by decide) (by rw [← HQC.out, List.size_toArray, prefC_length _ HQO.out.1]) ?_
          have HX := Lib.hid (show RdRow (wy4.alloc (.cells qc 60)) (wy4.alloc (.cells qc 60)).heap.size (some ⟨wy4.heap.size, 0, none⟩) 18 1 (pfsV [q]) from by rw [← HQC.out]; exact row_pref wy4 q HQO.out.1)
          have hb := (Below.refl wy4.heap.size wy4).alloc (Nat.le_refl _) (.cells qc 60)
          replace HP := Lib.hid (HP.out.below hb)
          replace HB := Lib.hid (HB.out.trans (hb.mono HB.out.size))
          replace HT := Lib.hid (txt_below HT.out hb)
          clear hb
          generalize wy4.alloc (.cells qc 60) = wy5 at HP HB HT HX ⊢
          generalize wy4.heap.size = gq at HX ⊢
          refine hK.out _ _ trivial (fun hHeld => ?_)
          clear hK K
          (try simp only [Act.put, List.setIfInBounds_toArray, List.set_cons_zero, List.set_cons_succ])
          refine step_one 12 rfl (by kernel_rfl) (fun K hK => ?_)
          clear hHeld
          refine step_append_rows _ rfl (.tmp 66) (.tmp 73) 49 rfl w0.heap.size 60 pi _ 18 32 Tryz.underlying49 HPI.out.1 HPI.out.2.1 HPI.out.2.2.1 HPI.out.2.2.2 (by rfl) (by decide) x pj.al.length (pfsV pj.al).flatten rfl HP.out.xown _ (some ⟨gq, 0, none⟩) 1 1 (pfsV [q]) rfl HX.out (pfs_one _) (by have := HAL.out; unfold maxLen; omega) (by have := HAL.out; omega) HB.out.size ?_
          intro v2 wy6 ho2 hg2 hv2
          have ho3 := ho2
          obtain ⟨A2, c2, rfl, _, _, _⟩ := own_sliceK ho2
          have HM := Lib.hid (HP.out.more (x' := .slice A2 (pj.al.length + 1) c2) (al' := pj.al ++ [q]) hg2 (by rw [List.length_append, List.length_singleton, ← pfs_app1]; exact ho3) hv2 (okAl HP.out.pok HQO.out))
          have HBN := Lib.hid (own_set_below HB.out hg2 HP.out.xown HP.out.gl (done.length * 85 + 84) (.slice A2 (pj.al.length + 1) c2))
          have HTN := Lib.hid (txt_more HT.out hg2 hv2 (done.length * 85 + 84) (.slice A2 (pj.al.length + 1) c2))
          have fo : wy6.cell? ⟨g, done.length * 85 + 84, none⟩ = some x := keep_cell (HP.out.at 84 _ (peer_at HP.out.pok _).2.2) HP.out.blk.lt hg2 HP.out.xne
          have zo : wy6.frozen? ⟨g, done.length * 85 + 84, none⟩ = false := keep_frozen (HP.out.blk.frozen _) HP.out.blk.lt hg2 HP.out.xne
          clear ho2 ho3 hg2 hv2
          refine hK.out _ _ trivial (fun hHeld => ?_)
          clear hK K
          (try simp only [Act.put, List.setIfInBounds_toArray, List.set_cons_zero, List.set_cons_succ])
          refine take_first (v := ?_) 13 rfl (by kernel_rfl) (by kernel_rfl) (by kernel_rfl) (fun _ _ _ h => h) (Or.inl ⟨by rfl, ?_⟩) trivial ?_
          rotate_left
          · (intro w hSw; (try dsimp only at hSw); go_simp; try with_reducible rfl)
          (try simp only [Act.put, List.setIfInBounds_toArray, List.set_cons_zero, List.set_cons_succ])
          refine take_first (v := ?_) 14 rfl (by kernel_rfl) (by kernel_rfl) (by kernel_rfl) (fun _ _ _ h => h) (Or.inl ⟨by rfl, ?_⟩) trivial ?_
          rotate_left
          · (intro w hSw; (try dsimp only at hSw); go_simp; try with_reducible rfl)
          (try simp only [Act.put, List.setIfInBounds_toArray, List.set_cons_zero, List.set_cons_succ])
          refine step_one 15 rfl (by kernel_rfl) (fun K hK => ?_)
          clear hHeld
          go_simp
          refine hK.out _ _ trivial (fun hHeld => ?_)
          clear hK K
          (try simp only [Act.put])
          clear fo zo
          generalize wy6.setCell ⟨g, done.length * 85 + 84, none⟩ (.slice A2 (pj.al.length + 1) c2) = wz7 at HM HBN HTN ⊢
          refine wpAnyH_done (by kernel_rfl) ?_ _
          clear hHeld
          go_wp2_with fail
          go_roundw
          case rel => exact ⟨j + 1, _, _, HJ.out, by go_num, rfl, by rw [← HNX.out]; exact HM.out, HBN.out, HTN.out⟩
          case measure => simp [intOf]; have := HJ.out; omega
        · clear hHeld
          go_simp
          refine (HTR.out _).mono ?_
          rintro e wy2 ⟨rfl, hb⟩
          replace HP := Lib.hid (HP.out.below hb)
          replace HB := Lib.hid (HB.out.trans (hb.mono HB.out.size))
          replace HT := Lib.hid (txt_below HT.out hb)
          clear hb
          go_wp2_with fail
          refine hK.out _ _ trivial (fun hHeld => ?_)
          clear hK K
          (try simp only [Act.put, List.setIfInBounds_toArray, List.set_cons_zero, List.set_cons_succ])
          refine step_two 4 7 rfl rfl (by kernel_rfl) (fun K hK => ?_) (fun K hK => ?_)
          · clear hHeld
            have fo := HP.out.at 84 _ (peer_at HP.out.pok _).2.2
            go_simp
            refine hK.out _ _ trivial (fun hHeld => ?_)
            clear hK K
            (try simp only [Act.put, List.setIfInBounds_toArray, List.set_cons_zero, List.set_cons_succ])
            clear fo
            refine step_one 7 rfl (by kernel_rfl) (fun K hK => ?_)
            clear hHeld
            go_simp
            refine (HPP.out _ HB.out).mono ?_
            rintro e wy3 ⟨rfl, hb⟩
            replace HP := Lib.hid (HP.out.below hb)
            replace HB := Lib.hid (HB.out.trans (hb.mono HB.out.size))
            replace HT := Lib.hid (txt_below HT.out hb)
            clear hb
            go_wp2_with fail
            refine hK.out _ _ trivial (fun hHeld => ?_)
            clear hK K
            (try simp only [Act.put, List.setIfInBounds_toArray, List.set_cons_zero, List.set_cons_succ])
            refine take_first (v := ?_) 8 rfl (by kernel_rfl) (by kernel_rfl) (by kernel_rfl) (fun _ _ _ h => h) (Or.inl ⟨by rfl, ?_⟩) trivial ?_
            rotate_left
            · (intro w hSw; (try dsimp only at hSw); go_simp; try with_reducible rfl)
            (try simp only [Act.put, List.setIfInBounds_toArray, List.set_cons_zero, List.set_cons_succ])
            refine take_first (v := ?_) 9 rfl (by kernel_rfl) (by kernel_rfl) (by kernel_rfl) (fun _ _ _ h => h) (Or.inl ⟨by rfl, ?_⟩) trivial ?_
            rotate_left
            · (intro w hSw; (try dsimp only at hSw); go_simp; try with_reducible rfl)
            (try simp only [Act.put, List.setIfInBounds_toArray, List.set_cons_zero, List.set_cons_succ])
            refine step_one 10 rfl (by kernel_rfl) (fun K hK => ?_)
            clear hHeld
            go_simp
            refine (HMU.out _).mono ?_
            rintro e wy4 ⟨rfl, hb⟩
            replace HP := Lib.hid (HP.out.below hb)
            replace HB := Lib.hid (HB.out.trans (hb.mono HB.out.size))
            replace HT := Lib.hid (txt_below HT.out hb)
            clear hb
            go_wp2_with fail
            refine hK.out _ _ trivial (fun hHeld => ?_)
            clear hK K
            (try simp only [Act.put, List.setIfInBounds_toArray, List.set_cons_zero, List.set_cons_succ])
            refine step_one 11 rfl (by kernel_rfl) (fun K hK => ?_)
            clear hHeld
            refine step_buildOne rfl 49 60 (.tmp 72) rfl qc rfl 18 Tryz.underlying49 pi HPI.out.1 HPI.out.2.2.1 _ HPI.out.2.1 (by decide) (by decide) (by rw [← HQC.out, List.size_toArray, prefC_length _ HQO.out.1]) ?_
            have HX := Lib.hid (show RdRow (wy4.alloc (.cells qc 60)) (wy4.alloc (.cells qc 60)).heap.size (some ⟨wy4.heap.size, 0, none⟩) 18 1 (pfsV [q]) from by rw [← HQC.out]; exact row_pref wy4 q HQO.out.1)
            have hb := (Below.refl wy4.heap.size wy4).alloc (Nat.le_refl _) (.cells qc 60)
            replace HP := Lib.hid (HP.out.below hb)
            replace HB := Lib.hid (HB.out.trans (hb.mono HB.out.size))
            replace HT := Lib.hid (txt_below HT.out hb)
            clear hb
            generalize wy4.alloc (.cells qc 60) = wy5 at HP HB HT HX ⊢
            generalize wy4.heap.size = gq at HX ⊢
            refine hK.out _ _ trivial (fun hHeld => ?_)
            clear hK K
            (try simp only [Act.put, List.setIfInBounds_toArray, List.set_cons_zero, List.set_cons_succ])
            refine step_one 12 rfl (by kernel_rfl) (fun K hK => ?_)
            clear hHeld
            refine step_append_rows _ rfl (.tmp 66) (.tmp 73) 49 rfl w0.heap.size 60 pi _ 18 32 Tryz.underlying49 HPI.out.1 HPI.out.2.1 HPI.out.2.2.1 HPI.out.2.2.2 (by rfl) (by decide) x pj.al.length (pfsV pj.al).flatten rfl HP.out.xown _ (some ⟨gq, 0, none⟩) 1 1 (pfsV [q]) rfl HX.out (pfs_one _) (by have := HAL.out; unfold maxLen; omega) (by have := HAL.out; omega) HB.out.size ?_
            intro v2 wy6 ho2 hg2 hv2
            have ho3 := ho2
            obtain ⟨A2, c2, rfl, _, _, _⟩ := own_sliceK ho2
            have HM := Lib.hid (HP.out.more (x' := .slice A2 (pj.al.length + 1) c2) (al' := pj.al ++ [q]) hg2 (by rw [List.length_append, List.length_singleton, ← pfs_app1]; exact ho3) hv2 (okAl HP.out.pok HQO.out))
            have HBN := Lib.hid (own_set_below HB.out hg2 HP.out.xown HP.out.gl (done.length * 85 + 84) (.slice A2 (pj.al.length + 1) c2))
            have HTN := Lib.hid (txt_more HT.out hg2 hv2 (done.length * 85 + 84) (.slice A2 (pj.al.length + 1) c2))
            have fo : wy6.cell? ⟨g, done.length * 85 + 84, none⟩ = some x := keep_cell (HP.out.at 84 _ (peer_at HP.out.pok _).2.2) HP.out.blk.lt hg2 HP.out.xne
            have zo : wy6.frozen? ⟨g, done.length * 85 + 84, none⟩ = false := keep_frozen (HP.out.blk.frozen _) HP.out.blk.lt hg2 HP.out.xne
            clear ho2 ho3 hg2 hv2
            refine hK.out _ _ trivial (fun hHeld => ?_)
            clear hK K
            (try simp only [Act.put, List.setIfInBounds_toArray, List.set_cons_zero, List.set_cons_succ])
            refine take_first (v := ?_) 13 rfl (by kernel_rfl) (by kernel_rfl) (by kernel_rfl) (fun _ _ _ h => h) (Or.inl ⟨by rfl, ?_⟩) trivial ?_
            rotate_left
            · (intro w hSw; (try dsimp only at hSw); go_simp; try with_reducible rfl)
            (try simp only [Act.put, List.setIfInBounds_toArray, List.set_cons_zero, List.set_cons_succ])
            refine take_first (v := ?_) 14 rfl (by kernel_rfl) (by kernel_rfl) (by kernel_rfl) (fun _ _ _ h => h) (Or.inl ⟨by rfl, ?_⟩) trivial ?_
            rotate_left
            · (intro w hSw; (try dsimp only at hSw); go_simp; try with_reducible rfl)
            (try simp only [Act.put, List.setIfInBounds_toArray, List.set_cons_zero, List.set_cons_succ])
            refine step_one 15 rfl (by kernel_rfl) (fun K hK => ?_)
            clear hHeld
            go_simp
            refine hK.out _ _ trivial (fun hHeld => ?_)
            clear hK K
            (try simp only [Act.put])
            clear fo zo
            generalize wy6.setCell ⟨g, done.length * 85 + 84, none⟩ (.slice A2 (pj.al.length + 1) c2) = wz7 at HM HBN HTN ⊢
            refine wpAnyH_done (by kernel_rfl) ?_ _
            clear hHeld
            go_wp2_with fail
            go_roundw
            case rel => exact ⟨j + 1, _, _, HJ.out, by go_num, rfl, by rw [← HNX.out]; exact HM.out, HBN.out, HTN.out⟩
            case measure => simp [intOf]; have := HJ.out; omega
          · clear hHeld
            go_simp
            refine (HPP.out _ HB.out).mono ?_
            rintro e wy3 ⟨rfl, hb⟩
            replace HP := Lib.hid (HP.out.below hb)
            replace HB := Lib.hid (HB.out.trans (hb.mono HB.out.size))
            replace HT := Lib.hid (txt_below HT.out hb)
            clear hb
            go_wp2_with fail
            refine hK.out _ _ trivial (fun hHeld => ?_)
            clear hK K
            (try simp only [Act.put, List.setIfInBounds_toArray, List.set_cons_zero, List.set_cons_succ])
            refine take_first (v := ?_) 8 rfl (by kernel_rfl) (by kernel_rfl) (by kernel_rfl) (fun _ _ _ h => h) (Or.inl ⟨by rfl, ?_⟩) trivial ?_
            rotate_left
            · (intro w hSw; (try dsimp only at hSw); go_simp; try with_reducible rfl)
            (try simp only [Act.put, List.setIfInBounds_toArray, List.set_cons_zero, List.set_cons_succ])
            refine take_first (v := ?_) 9 rfl (by kernel_rfl) (by kernel_rfl) (by kernel_rfl) (fun _ _ _ h => h) (Or.inl ⟨by rfl, ?_⟩) trivial ?_
            rotate_left
            · (intro w hSw; (try dsimp only at hSw); go_simp; try with_reducible rfl)
            (try simp only [Act.put, List.setIfInBounds_toArray, List.set_cons_zero, List.set_cons_succ])
            refine step_two 4 10 rfl rfl (by kernel_rfl) (fun K hK => ?_) (fun K hK => ?_)
            · clear hHeld
              have fo := HP.out.at 84 _ (peer_at HP.out.pok _).2.2
              go_simp
              refine hK.out _ _ trivial (fun hHeld => ?_)
              clear hK K
              (try simp only [Act.put, List.setIfInBounds_toArray, List.set_cons_zero, List.set_cons_succ])
              clear fo
              refine step_one 10 rfl (by kernel_rfl) (fun K hK => ?_)
              clear hHeld
              go_simp
              refine (HMU.out _).mono ?_
              rintro e wy4 ⟨rfl, hb⟩
              replace HP := Lib.hid (HP.out.below hb)
              replace HB := Lib.hid (HB.out.trans (hb.mono HB.out.size))
              replace HT := Lib.hid (txt_below HT.out hb)
              clear hb
              go_wp2_with fail
              refine hK.out _ _ trivial (fun hHeld => ?_)
              clear hK K
              (try simp only [Act.put, List.setIfInBounds_toArray, List.set_cons_zero, List.set_cons_succ])
              refine step_one 11 rfl (by kernel_rfl) (fun K hK => ?_)
              clear hHeld
              refine step_buildOne rfl 49 60 (.tmp 72) rfl qc rfl 18 Tryz.underlying49 pi HPI.out.1 HPI.out.2.2.1 _ HPI.out.2.1 (by decide) (by decide) (by rw [← HQC.out, List.size_toArray, prefC_length _ HQO.out.1]) ?_
              have HX := Lib.hid (show RdRow (wy4.alloc (.cells qc 60)) (wy4.alloc (.cells qc 60)).heap.size (some ⟨wy4.heap.size, 0, none⟩) 18 1 (pfsV [q]) from by rw [← HQC.out]; exact row_pref wy4 q HQO.out.1)
              have hb := (Below.refl wy4.heap.size wy4).alloc (Nat.le_refl _) (.cells qc 60)
              replace HP := Lib.hid (HP.out.below hb)
              replace HB := Lib.hid (HB.out.trans (hb.mono HB.out.size))
              replace HT := Lib.hid (txt_below HT.out hb)
              clear hb
              generalize wy4.alloc (.cells qc 60) = wy5 at HP HB HT HX ⊢
              generalize wy4.heap.size = gq at HX ⊢
              refine hK.out _ _ trivial (fun hHeld => ?_)
              clear hK K
              (try simp only [Act.put, List.setIfInBounds_toArray, List.set_cons_zero, List.set_cons_succ])
              refine step_one 12 rfl (by kernel_rfl) (fun K hK => ?_)
              clear hHeld
              refine step_append_rows _ rfl (.tmp 66) (.tmp 73) 49 rfl w0.heap.size 60 pi _ 18 32 Tryz.underlying49 HPI.out.1 HPI.out.2.1 HPI.out.2.2.1 HPI.out.2.2.2 (by rfl) (by decide) x pj.al.length (pfsV pj.al).flatten rfl HP.out.xown _ (some ⟨gq, 0, none⟩) 1 1 (pfsV [q]) rfl HX.out (pfs_one _) (by have := HAL.out; unfold maxLen; omega) (by have := HAL.out; omega) HB.out.size ?_
              intro v2 wy6 ho2 hg2 hv2
              have ho3 := ho2
              obtain ⟨A2, c2, rfl, _, _, _⟩ := own_sliceK ho2
              have HM := Lib.hid (HP.out.more (x' := .slice A2 (pj.al.length + 1) c2) (al' := pj.al ++ [q]) hg2 (by rw [List.length_append, List.length_singleton, ← pfs_app1]; exact ho3) hv2 (okAl HP.out.pok HQO.out))
              have HBN := Lib.hid (own_set_below HB.out hg2 HP.out.xown HP.out.gl (done.length * 85 + 84) (.slice A2 (pj.al.length + 1) c2))
              have HTN := Lib.hid (txt_more HT.out hg2 hv2 (done.length * 85 + 84) (.slice A2 (pj.al.length + 1) c2))
              have fo : wy6.cell? ⟨g, done.length * 85 + 84, none⟩ = some x := keep_cell (HP.out.at 84 _ (peer_at HP.out.pok _).2.2) HP.out.blk.lt hg2 HP.out.xne
              have zo : wy6.frozen? ⟨g, done.length * 85 + 84, none⟩ = false := keep_frozen (HP.out.blk.frozen _) HP.out.blk.lt hg2 HP.out.xne
              clear ho2 ho3 hg2 hv2
              refine hK.out _ _ trivial (fun hHeld => ?_)
              clear hK K
              (try simp only [Act.put, List.setIfInBounds_toArray, List.set_cons_zero, List.set_cons_succ])
              refine take_first (v := ?_) 13 rfl (by kernel_rfl) (by kernel_rfl) (by kernel_rfl) (fun _ _ _ h => h) (Or.inl ⟨by rfl, ?_⟩) trivial ?_
              rotate_left
              · (intro w hSw; (try dsimp only at hSw); go_simp; try with_reducible rfl)
              (try simp only [Act.put, List.setIfInBounds_toArray, List.set_cons_zero, List.set_cons_succ])
              refine take_first (v := ?_) 14 rfl (by kernel_rfl) (by kernel_rfl) (by kernel_rfl) (fun _ _ _ h => h) (Or.inl ⟨by rfl, ?_⟩) trivial ?_
              rotate_left
              · (intro w hSw; (try dsimp only at hSw); go_simp; try with_reducible rfl)
              (try simp only [Act.put, List.setIfInBounds_toArray, List.set_cons_zero, List.set_cons_succ])
              refine step_one 15 rfl (by kernel_rfl) (fun K hK => ?_)
              clear hHeld
              go_simp
              refine hK.out _ _ trivial (fun hHeld => ?_)
              clear hK K
              (try simp only [Act.put])
              clear fo zo
              generalize wy6.setCell ⟨g, done.length * 85 + 84, none⟩ (.slice A2 (pj.al.length + 1) c2) = wz7 at HM HBN HTN ⊢
              refine wpAnyH_done (by kernel_rfl) ?_ _
              clear hHeld
              go_wp2_with fail
              go_roundw
              case rel => exact ⟨j + 1, _, _, HJ.out, by go_num, rfl, by rw [← HNX.out]; exact HM.out, HBN.out, HTN.out⟩
              case measure => simp [intOf]; have := HJ.out; omega
            · clear hHeld
              go_simp
              refine (HMU.out _).mono ?_
              rintro e wy4 ⟨rfl, hb⟩
              replace HP := Lib.hid (HP.out.below hb)
              replace HB := Lib.hid (HB.out.trans (hb.mono HB.out.size))
              replace HT := Lib.hid (txt_below HT.out hb)
              clear hb
              go_wp2_with fail
              refine hK.out _ _ trivial (fun hHeld => ?_)
              clear hK K
              (try simp only [Act.put, List.setIfInBounds_toArray, List.set_cons_zero, List.set_cons_succ])
              refine step_two 4 11 rfl rfl (by kernel_rfl) (fun K hK => ?_) (fun K hK => ?_)
              · clear hHeld
                have fo := HP.out.at 84 _ (peer_at HP.out.pok _).2.2
                go_simp
                refine hK.out _ _ trivial (fun hHeld => ?_)
                clear hK K
                (try simp only [Act.put, List.setIfInBounds_toArray, List.set_cons_zero, List.set_cons_succ])
                clear fo
                refine step_one 11 rfl (by kernel_rfl) (fun K hK => ?_)
                clear hHeld
                refine step_buildOne rfl 49 60 (.tmp 72) rfl qc rfl 18 Tryz.underlying49 pi HPI.out.1 HPI.out.2.2.1 _ HPI.out.2.1 (by decide) (by decide) (by rw [← HQC.out, List.size_toArray, prefC_length _ HQO.out.1]) ?_
                have HX := Lib.hid (show RdRow (wy4.alloc (.cells qc 60)) (wy4.alloc (.cells qc 60)).heap.size (some ⟨wy4.heap.size, 0, none⟩) 18 1 (pfsV [q]) from by rw [← HQC.out]; exact row_pref wy4 q HQO.out.1)
                have hb := (Below.refl wy4.heap.size wy4).alloc (Nat.le_refl _) (.cells qc 60)
                replace HP := Lib.hid (HP.out.below hb)
                replace HB := Lib.hid (HB.out.trans (hb.mono HB.out.size))
                replace HT := Lib.hid (txt_below HT.out hb)
                clear hb
                generalize wy4.alloc (.cells qc 60) = wy5 at HP HB HT HX ⊢
                generalize wy4.heap.size = gq at HX ⊢
                refine hK.out _ _ trivial (fun hHeld => ?_)
                clear hK K
                (try simp only [Act.put, List.setIfInBounds_toArray, List.set_cons_zero, List.set_cons_succ])
                refine step_one 12 rfl (by kernel_rfl) (fun K hK => ?_)
                clear hHeld
                refine step_append_rows _ rfl (.tmp 66) (.tmp 73) 49 rfl w0.heap.size 60 pi _ 18 32 Tryz.underlying49 HPI.out.1 HPI.out.2.1 HPI.out.2.2.1 HPI.out.2.2.2 (by rfl) (by decide) x pj.al.length (pfsV pj.al).flatten rfl HP.out.xown _ (some ⟨gq, 0, none⟩) 1 1 (pfsV [q]) rfl HX.out (pfs_one _) (by have := HAL.out; unfold maxLen; omega) (by have := HAL.out; omega) HB.out.size ?_
                intro v2 wy6 ho2 hg2 hv2
                have ho3 := ho2
                obtain ⟨A2, c2, rfl, _, _, _⟩ := own_sliceK ho2
                have HM := Lib.hid (HP.out.more (x' := .slice A2 (pj.al.length + 1) c2) (al' := pj.al ++ [q]) hg2 (by rw [List.length_append, List.length_singleton, ← pfs_app1]; exact ho3) hv2 (okAl HP.out.pok HQO.out))
                have HBN := Lib.hid (own_set_below HB.out hg2 HP.out.xown HP.out.gl (done.length * 85 + 84) (.slice A2 (pj.al.length + 1) c2))
                have HTN := Lib.hid (txt_more HT.out hg2 hv2 (done.length * 85 + 84) (.slice A2 (pj.al.length + 1) c2))
                have fo : wy6.cell? ⟨g, done.length * 85 + 84, none⟩ = some x := keep_cell (HP.out.at 84 _ (peer_at HP.out.pok _).2.2) HP.out.blk.lt hg2 HP.out.xne
                have zo : wy6.frozen? ⟨g, done.length * 85 + 84, none⟩ = false := keep_frozen (HP.out.blk.frozen _) HP.out.blk.lt hg2 HP.out.xne
                clear ho2 ho3 hg2 hv2
                refine hK.out _ _ trivial (fun hHeld => ?_)
                clear hK K
                (try simp only [Act.put, List.setIfInBounds_toArray, List.set_cons_zero, List.set_cons_succ])
                refine take_first (v := ?_) 13 rfl (by kernel_rfl) (by kernel_rfl) (by kernel_rfl) (fun _ _ _ h => h) (Or.inl ⟨by rfl, ?_⟩) trivial ?_
                rotate_left
                · (intro w hSw; (try dsimp only at hSw); go_simp; try with_reducible rfl)
                (try simp only [Act.put, List.setIfInBounds_toArray, List.set_cons_zero, List.set_cons_succ])
                refine take_first (v := ?_) 14 rfl (by kernel_rfl) (by kernel_rfl) (by kernel_rfl) (fun _ _ _ h => h) (Or.inl ⟨by rfl, ?_⟩) trivial ?_
                rotate_left
                · (intro w hSw; (try dsimp only at hSw); go_simp; try with_reducible rfl)
                (try simp only [Act.put, List.setIfInBounds_toArray, List.set_cons_zero, List.set_cons_succ])
                refine step_one 15 rfl (by kernel_rfl) (fun K hK => ?_)
                clear hHeld
                go_simp
                refine hK.out _ _ trivial (fun hHeld => ?_)
                clear hK K
                (try simp only [Act.put])
                clear fo zo
                generalize wy6.setCell ⟨g, done.length * 85 + 84, none⟩ (.slice A2 (pj.al.length + 1) c2) = wz7 at HM HBN HTN ⊢
                refine wpAnyH_done (by kernel_rfl) ?_ _
                clear hHeld
                go_wp2_with fail
                go_roundw
                case rel => exact ⟨j + 1, _, _, HJ.out, by go_num, rfl, by rw [← HNX.out]; exact HM.out, HBN.out, HTN.out⟩
                case measure => simp [intOf]; have := HJ.out; omega
              · clear hHeld
                refine step_buildOne rfl 49 60 (.tmp 72) rfl qc rfl 18 Tryz.underlying49 pi HPI.out.1 HPI.out.2.2.1 _ HPI.out.2.1 (by decide) (by decide) (by rw [← HQC.out, List.size_toArray, prefC_length _ HQO.out.1]) ?_
                have HX := Lib.hid (show RdRow (wy4.alloc (.cells qc 60)) (wy4.alloc (.cells qc 60)).heap.size (some ⟨wy4.heap.size, 0, none⟩) 18 1 (pfsV [q]) from by rw [← HQC.out]; exact row_pref wy4 q HQO.out.1)
                have hb := (Below.refl wy4.heap.size wy4).alloc (Nat.le_refl _) (.cells qc 60)
                replace HP := Lib.hid (HP.out.below hb)
                replace HB := Lib.hid (HB.out.trans (hb.mono HB.out.size))
                replace HT := Lib.hid (txt_below HT.out hb)
                clear hb
                generalize wy4.alloc (.cells qc 60) = wy5 at HP HB HT HX ⊢
                generalize wy4.heap.size = gq at HX ⊢
                refine hK.out _ _ trivial (fun hHeld => ?_)
                clear hK K
                (try simp only [Act.put, List.setIfInBounds_toArray, List.set_cons_zero, List.set_cons_succ])
                refine step_one 4 rfl (by kernel_rfl) (fun K hK => ?_)
                clear hHeld
                have fo := HP.out.at 84 _ (peer_at HP.out.pok _).2.2
                go_simp
                refine hK.out _ _ trivial (fun hHeld => ?_)
                clear hK K
                (try simp only [Act.put, List.setIfInBounds_toArray, List.set_cons_zero, List.set_cons_succ])
                clear fo
                refine step_one 12 rfl (by kernel_rfl) (fun K hK => ?_)
                clear hHeld
                refine step_append_rows _ rfl (.tmp 66) (.tmp 73) 49 rfl w0.heap.size 60 pi _ 18 32 Tryz.underlying49 HPI.out.1 HPI.out.2.1 HPI.out.2.2.1 HPI.out.2.2.2 (by rfl) (by decide) x pj.al.length (pfsV pj.al).flatten rfl HP.out.xown _ (some ⟨gq, 0, none⟩) 1 1 (pfsV [q]) rfl HX.out (pfs_one _) (by have := HAL.out; unfold maxLen; omega) (by have := HAL.out; omega) HB.out.size ?_
                intro v2 wy6 ho2 hg2 hv2
                have ho3 := ho2
                obtain ⟨A2, c2, rfl, _, _, _⟩ := own_sliceK ho2
                have HM := Lib.hid (HP.out.more (x' := .slice A2 (pj.al.length + 1) c2) (al' := pj.al ++ [q]) hg2 (by rw [List.length_append, List.length_singleton, ← pfs_app1]; exact ho3) hv2 (okAl HP.out.pok HQO.out))
                have HBN := Lib.hid (own_set_below HB.out hg2 HP.out.xown HP.out.gl (done.length * 85 + 84) (.slice A2 (pj.al.length + 1) c2))
                have HTN := Lib.hid (txt_more HT.out hg2 hv2 (done.length * 85 + 84) (.slice A2 (pj.al.length + 1) c2))
                have fo : wy6.cell? ⟨g, done.length * 85 + 84, none⟩ = some x := keep_cell (HP.out.at 84 _ (peer_at HP.out.pok _).2.2) HP.out.blk.lt hg2 HP.out.xne
                have zo : wy6.frozen? ⟨g, done.length * 85 + 84, none⟩ = false := keep_frozen (HP.out.blk.frozen _) HP.out.blk.lt hg2 HP.out.xne
                clear ho2 ho3 hg2 hv2
                refine hK.out _ _ trivial (fun hHeld => ?_)
                clear hK K
                (try simp only [Act.put, List.setIfInBounds_toArray, List.set_cons_zero, List.set_cons_succ])
                refine take_first (v := ?_) 13 rfl (by kernel_rfl) (by kernel_rfl) (by kernel_rfl) (fun _ _ _ h => h) (Or.inl ⟨by rfl, ?_⟩) trivial ?_
                rotate_left
                · (intro w hSw; (try dsimp only at hSw); go_simp; try with_reducible rfl)
                (try simp only [Act.put, List.setIfInBounds_toArray, List.set_cons_zero, List.set_cons_succ])
                refine take_first (v := ?_) 14 rfl (by kernel_rfl) (by kernel_rfl) (by kernel_rfl) (fun _ _ _ h => h) (Or.inl ⟨by rfl, ?_⟩) trivial ?_
                rotate_left
                · (intro w hSw; (try dsimp only at hSw); go_simp; try with_reducible rfl)
                (try simp only [Act.put, List.setIfInBounds_toArray, List.set_cons_zero, List.set_cons_succ])
                refine step_one 15 rfl (by kernel_rfl) (fun K hK => ?_)
                clear hHeld
                go_simp
                refine hK.out _ _ trivial (fun hHeld => ?_)
                clear hK K
                (try simp only [Act.put])
                clear fo zo
                generalize wy6.setCell ⟨g, done.length * 85 + 84, none⟩ (.slice A2 (pj.al.length + 1) c2) = wz7 at HM HBN HTN ⊢
                refine wpAnyH_done (by kernel_rfl) ?_ _
                clear hHeld
                go_wp2_with fail
                go_roundw
                case rel => exact ⟨j + 1, _, _, HJ.out, by go_num, rfl, by rw [← HNX.out]; exact HM.out, HBN.out, HTN.out⟩
                case measure => simp [intOf]; have := HJ.out; omega
      · obtain rfl : j = n := by omega
        have d1 : decide ((j : Int) < (j : Int)) = false := by simp
        have HF := Lib.hid (show LastV w0.heap.size gp m wr c sn line mv g cp rest done vs { p with al := p.al ++ (allM value).map prefOf } x from by
          have h := HP.out
          rw [HPJ.out, List.take_of_length_le (by rw [HN.out]; exact Nat.le_refl _)] at h
          rw [HALM.out, List.map_map]
          exact h)
        go_wp2
        go_end0
        exact ⟨rfl, ⟨x, HF.out⟩, HB.out⟩
end Go.Proofs.YtcbfchkhbngpkaaGreatDoor
namespace Go.Proofs.YtcbfchkhbngpkaaGreatDoor
open Go.RowKit

/-- what is asked of readLine -/
def LineC (ok : PsM → List UInt8 → Prop) : Prop := ∀ (w0 W : World) (gp m line : Nat) (s t : PsM) (l : List UInt8), LvCf w0 → Below w0.heap.size w0 W → PsA w0.heap.size gp m W s line → m ≤ 5000 → l.length ≤ 4000 → ok s l → lineM s l = some t →
  Calls Tryz.prog 70 #[.pointer (some ⟨gp, 0, none⟩), .string ⟨l.toArray⟩] W fun e W' => e = .returned (.tuple #[]) ∧ PsA w0.heap.size gp (m + 1) W' t line ∧ Below w0.heap.size w0 W'
/-- all lines are of a kind -/
def RunOk (ok : PsM → List UInt8 → Prop) : PsM → List (List UInt8) → Prop
  | _, [] => True
  | s, a :: r => ok s (Lib.trimS a bl2) ∧ ∀ t, lineM s (Lib.trimS a bl2) = some t → RunOk ok t r
theorem lines_cut {r : List UInt8} (h : r ≠ []) : linesB r = (Lib.cut r [10]).1 :: linesB (Lib.cut r [10]).2.1 ∧ (Lib.cut r [10]).2.1.length < r.length := by
  rcases index_at 10 r with ⟨h1, _⟩ | ⟨a, q, rfl, h1, _⟩
  · rw [cut_none h1, linesB_last h1 h]
    refine ⟨rfl, ?_⟩
    cases r with
    | nil => exact absurd rfl h
    | cons x y => simp
  · rw [cut_some h1, linesB_cons h1]
    exact ⟨rfl, by simp; omega⟩
def txtLen : Value → Nat
  | .string s => s.size
  | _ => 0
theorem PsAt.setLine {base gp m : Nat} {W : World} {s : PsM} {line line' : Nat} {mv v : Value} {Bs : List Nat} (h : PsAt base gp m W s line mv v Bs) : PsAt base gp m (W.setCell ⟨gp, 34, none⟩ (.int .i64 (line' : Int))) s line' mv v Bs := by
  have hb := h.blk.set_ 34 (.int .i64 (line' : Int))
  rw [psC_set_line h.ok] at hb
  exact h.put .of_set h.ok rfl hb
set_option maxRecDepth 100000 in
set_option maxHeartbeats 8000000 in
theorem read_any {ok : PsM → List UInt8 → Prop} (HLC : LineC ok) (w0 W : World) (gp : Nat) (s t : PsM) (l : List UInt8) (hlv : LvCf w0) (hb0 : Below w0.heap.size w0 W) (hp : PsA w0.heap.size gp 0 W s 0) (hl : l.length ≤ 4000) (hok : RunOk ok s (linesB l)) (hr : runM s (linesB l) = some t) (he : endOk t = true) :
    Calls Tryz.prog 42 #[.pointer (some ⟨gp, 0, none⟩), .string ⟨l.toArray⟩] W fun e W' => e = .returned (.tuple #[]) ∧ (∃ m line, PsA w0.heap.size gp m W' t line) ∧ Below w0.heap.size w0 W' := by
  have HLV := Lib.hid hlv
  have HLN := Lib.hid HLC
  have HE := Lib.hid he
  have HST := Lib.hid (show ∃ (m : Nat) (r : List UInt8) (st : PsM), Value.string ⟨l.toArray⟩ = .string ⟨r.toArray⟩ ∧ m + r.length ≤ 4000 ∧ PsA w0.heap.size gp m W st m ∧ RunOk ok st (linesB r) ∧ runM st (linesB r) = some t ∧ Below w0.heap.size w0 W from ⟨0, l, s, rfl, by omega, hp, hok, hr, hb0⟩)
  clear hlv HLC hb0 hp hok hr he hl
  go_enter Tryz.func42, Tryz.ntmps42
  go_wp2_with fail
  go_loopw [1] (fun v wr => ∃ (m : Nat) (r : List UInt8) (st : PsM), v = .string ⟨r.toArray⟩ ∧ m + r.length ≤ 4000 ∧ PsA w0.heap.size gp m wr st m ∧ RunOk ok st (linesB r) ∧ runM st (linesB r) = some t ∧ Below w0.heap.size w0 wr) (fun v _ => txtLen v)
  case atStart => exact HST.out
  case round =>
    clear HST
    obtain ⟨m, r, st, rfl, hmr, hp, hok, hr, hb⟩ := hrel
    by_cases h0 : r = []
    · subst h0
      rw [linesB_nil, runM] at hr
      injection hr with hr
      subst hr
      obtain ⟨mv, v, Bs, hp⟩ := hp
      have HP := Lib.hid hp
      have HB := Lib.hid hb
      have fl := hp.lineC
      have zx := hp.blk.frozen 34
      obtain ⟨m1, hm1⟩ : ∃ z, m + 1 = z := ⟨_, rfl⟩
      have e1 : (m : Int) + 1 = (m1 : Int) := by omega
      have w1' : IntKind.i64.wrap (m1 : Int) = (m1 : Int) := by rw [IntKind.wrap_i64]; omega
      have HP2 := Lib.hid (hp.setLine (line' := m1))
      have HB2 := Lib.hid (set_own (j := 34) (v := .int .i64 (m1 : Int)) hb hp.low)
      clear hp hb hok hmr hm1
      go_wp2_with fail
      refine (endSection_any _ _ gp m m1 st mv v Bs HP2.out HE.out).mono ?_
      rintro e w2 ⟨rfl, rfl⟩
      go_wp2
      go_end0
      exact ⟨rfl, ⟨m, m1, mv, v, Bs, HP2.out⟩, HB2.out⟩
    · obtain ⟨hlc, hlen⟩ := lines_cut h0
      have hle := cut_le r [10]
      obtain ⟨a, ha⟩ : ∃ z, (Lib.cut r [10]).1 = z := ⟨_, rfl⟩
      obtain ⟨q, hq⟩ : ∃ z, (Lib.cut r [10]).2.1 = z := ⟨_, rfl⟩
      rw [ha, hq] at hlc hle
      rw [hq] at hlen
      rw [hlc] at hr hok
      obtain ⟨hok1, hok2⟩ := hok
      rw [runM] at hr
      obtain ⟨t1, ht1⟩ : ∃ t1, lineM st (Lib.trimS a bl2) = some t1 := by
        cases hx : lineM st (Lib.trimS a bl2) with
        | none => rw [hx] at hr; cases hr
        | some t1 => exact ⟨t1, rfl⟩
      rw [ht1] at hr
      simp only at hr
      have HOK := Lib.hid (And.intro hok1 (hok2 t1 ht1))
      have HR := Lib.hid hr
      have HT1 := Lib.hid ht1
      have HLE := Lib.hid (show a.length ≤ 4000 ∧ q.length < r.length ∧ m + r.length ≤ 4000 from by omega)
      obtain ⟨mv, v, Bs, hp⟩ := hp
      have HP := Lib.hid hp
      have HB := Lib.hid hb
      have hcut := cut_c r [10] (by omega) wr (HLV.out.below hb)
      obtain ⟨bo, hbo⟩ : ∃ z, (Lib.cut r [10]).2.2 = z := ⟨_, rfl⟩
      rw [ha, hq, hbo] at hcut
      obtain ⟨R, hR⟩ : ∃ S : ByteArray, ⟨r.toArray⟩ = S := ⟨_, rfl⟩
      obtain ⟨q2, q3⟩ := text_eq R r [] hR false (decide_eq_false h0)
      obtain ⟨AA, hA⟩ : ∃ S : ByteArray, ⟨a.toArray⟩ = S := ⟨_, rfl⟩
      obtain ⟨QQ, hQ⟩ : ∃ S : ByteArray, ⟨q.toArray⟩ = S := ⟨_, rfl⟩
      rw [hR, hA, hQ] at hcut
      rw [hR]
      have HCUT := Lib.hid hcut
      have HAQ := Lib.hid (And.intro hA hQ)
      have HRR := Lib.hid hR
      obtain ⟨m1, hm1⟩ : ∃ z, m + 1 = z := ⟨_, rfl⟩
      have e1 : (m : Int) + 1 = (m1 : Int) := by omega
      have w1' : IntKind.i64.wrap (m1 : Int) = (m1 : Int) := by rw [IntKind.wrap_i64]; omega
      have HM1 := Lib.hid (show m1 = m + 1 ∧ m1 ≤ 4001 from by omega)
      clear hcut hok1 hok2 hr ht1 hlc hle hlen hp hb hmr hm1 ha hq hbo hR hA hQ h0
      go_wp2_with fail
      refine HCUT.out.mono ?_
      rintro e w2 ⟨rfl, hb⟩
      replace HP := Lib.hid (HP.out.below hb)
      replace HB := Lib.hid (HB.out.trans (hb.mono HB.out.size))
      clear hb HCUT q2 q3
      have fl := HP.out.lineC
      have zx := HP.out.blk.frozen 34
      have HP2 := Lib.hid (HP.out.setLine (line' := m1))
      have HB2 := Lib.hid (set_own (j := 34) (v := .int .i64 (m1 : Int)) HB.out HP.out.low)
      go_wp2_with fail
      have htr := trim_c a (by have := HLE.out; omega) (w2.setCell ⟨gp, 34, none⟩ (.int .i64 (m1 : Int)))
      rw [HAQ.out.1, show bl2.toArray = #[32, 9] from rfl] at htr
      refine htr.mono ?_
      rintro e w4 ⟨rfl, hb⟩
      have HP4 := Lib.hid (HP2.out.below hb)
      have HB4 := Lib.hid (HB2.out.trans (hb.mono HB2.out.size))
      clear hb htr fl zx HP HB HP2 HB2 e1 w1'
      go_wp2_with fail
      have hln := HLN.out w0 w4 gp m m1 st t1 (Lib.trimS a bl2) HLV.out HB4.out ⟨_, _, _, HP4.out⟩ (by have := HM1.out; omega) (Nat.le_trans (trim_le _ _) HLE.out.1) HOK.out.1 HT1.out
      refine hln.mono ?_
      rintro e w5 ⟨rfl, hp5, hb5⟩
      have HP5 := Lib.hid hp5
      have HB5 := Lib.hid hb5
      clear hp5 hb5 hln
      go_wp2_with fail
      go_roundw
      case rel => exact ⟨m1, q, t1, by rw [HAQ.out.2], by have := HM1.out; have := HLE.out; omega, by have := HP5.out; rw [← HM1.out.1] at this; exact this, HOK.out.2, HR.out, HB5.out⟩
      case measure =>
        have h1 := HLE.out.2.1
        rw [← HAQ.out.2, ← HRR.out]
        simpa [txtLen, mk_size] using h1
end Go.Proofs.YtcbfchkhbngpkaaGreatDoor
namespace Go.Proofs.YtcbfchkhbngpkaaGreatDoor
open Go.RowKit

theorem peerZ : ∃ i, Tryz.prog.info? 57 = some i ∧ i.zero = some (.agg (peer0.cells (.slice none 0 0)).toArray) ∧ i.size = 85 ∧ i.bytes = 136 := by
  have h : (Tryz.prog.info? 57).map (fun i => (i.zero, i.size, i.bytes)) = some (some (.agg (peer0.cells (.slice none 0 0)).toArray), 85, 136) := by kernel_rfl
  cases hi : Tryz.prog.info? 57 with
  | none => rw [hi] at h; cases h
  | some i =>
    rw [hi] at h
    simp only [Option.map_some, Option.some.injEq, Prod.mk.injEq] at h
    exact ⟨i, rfl, h.1, h.2.1, h.2.2⟩
theorem entry_peer_cases {s t : PsM} {done : List PeerM} {p : PeerM} {name value : List UInt8} (hp : s.conf.peers = done ++ [p]) (h : entryM s name value = some t) : ∃ S q, s.seen = some S ∧ S.contains name = false ∧ peerM p name value = some q ∧ t = ⟨{ s.conf with peers := done ++ [q] }, some (name :: S)⟩ := by
  unfold entryM at h
  cases hs : s.seen with
  | none => rw [hs] at h; cases h
  | some S =>
    rw [hs] at h
    simp only [hp, List.getLast?_concat, List.dropLast_concat] at h
    cases hc : S.contains name with
    | true => rw [hc, if_pos rfl] at h; cases h
    | false =>
      rw [hc, if_neg (by simp)] at h
      cases hi : peerM p name value with
      | none => rw [hi] at h; cases h
      | some q =>
        rw [hi] at h
        simp only [Option.map_some, Option.some.injEq] at h
        exact ⟨S, q, rfl, hc, rfl, h.symm⟩
theorem psC_set_peers {c : ConfM} (h : c.ok) (line : Nat) (mv v v2 : Value) : (psC c line mv v).set 33 v2 = psC c line mv v2 := by
  have hp : (c.priv.map u8v).length = 32 := by rw [List.length_map, h.1]
  have e : ∀ u, psC c line mv u = c.priv.map u8v ++ [.int .i64 c.port, u, .int .i64 (line : Int), mv] := fun u => by simp [psC, ConfM.cells]
  rw [e, e, List.set_append_right _ _ (by omega), hp]
  rfl
/-- a peer is appended -/
theorem PsAt.push {base gp m : Nat} {W W1 : World} {s : PsM} {line : Nat} {mv v v2 : Value} {Bs : List Nat} {vs : List Value} (h : PsAt base gp m W s line mv v Bs) (hl : vs.length = s.conf.peers.length)
    (hown : ∀ (i : Nat) (p : PeerM) (x : Value), s.conf.peers[i]? = some p → vs[i]? = some x → W.ownsRow base 60 18 x p.al.length (pfsV p.al).flatten) (hB : (v :: vs).filterMap Value.ownBlock = Bs) (hg : W.grownBy W1 v.ownBlock)
    (ho : W1.ownsRow base 57 85 v2 (s.conf.peers.length + 1) ((peersV s.conf.peers vs).flatten ++ peer0.cells (.slice none 0 0))) (hv : v2.ownBlock = v.ownBlock ∨ v2.ownBlock = some W.heap.size) : PsA base gp m (W1.setCell ⟨gp, 33, none⟩ v2) ⟨{ s.conf with peers := s.conf.peers ++ [peer0] }, s.seen⟩ line := by
  have hnd := h.nd
  have hnin := h.nin
  have hmem := h.peers.mem
  have hBv : ∀ z : Value, ∀ k, k ∈ (z :: vs).filterMap Value.ownBlock ↔ z.ownBlock = some k ∨ k ∈ vs.filterMap Value.ownBlock := fun z k => by
    rw [List.filterMap_cons]
    cases hz : z.ownBlock with
    | none => simp
    | some q => simp [eq_comm]
  have hsep : ∀ k ∈ vs.filterMap Value.ownBlock, v.ownBlock ≠ some k := fun k hk e => by
    rw [← hB, List.filterMap_cons, e] at hnd
    exact (List.nodup_cons.1 hnd).1 hk
  have hvs : ∀ k ∈ vs.filterMap Value.ownBlock, k < W.heap.size := fun k hk => (hmem k (by rw [← hB, hBv]; exact .inr hk)).2
  have hgpv : v.ownBlock ≠ some gp := fun e => hnin (by rw [← hB, hBv]; exact .inl e)
  have hgpvs : gp ∉ vs.filterMap Value.ownBlock := fun e => hnin (by rw [← hB, hBv]; exact .inr e)
  have h2gp : v2.ownBlock ≠ some gp := fun e => by
    rcases hv with hv | hv
    · exact hgpv (hv ▸ e)
    · rw [hv] at e
      injection e with e
      have := h.blk.lt
      omega
  have hset : ∀ k, k ≠ gp → (W1.setCell ⟨gp, 33, none⟩ v2).heap[k]? = W1.heap[k]? := fun k hk => Below.heap_setCell _ _ _ _ hk
  have hb1 : Blk W1 gp 83 (psC s.conf line mv v) := by
    have := h.blk
    unfold Blk at this ⊢
    rw [hg.block gp h.blk.lt (fun e => hgpv e.symm)]
    exact this
  have hb2 := hb1.set_ 33 v2
  rw [psC_set_peers h.ok] at hb2
  have hnd2 : ((v2 :: vs).filterMap Value.ownBlock).Nodup := by
    have hn1 : (vs.filterMap Value.ownBlock).Nodup := by
      rw [← hB, List.filterMap_cons] at hnd
      cases hz : v.ownBlock with
      | none => rw [hz] at hnd; exact hnd
      | some q => rw [hz] at hnd; exact (List.nodup_cons.1 hnd).2
    rw [List.filterMap_cons]
    cases hz : v2.ownBlock with
    | none => exact hn1
    | some q =>
      refine List.nodup_cons.2 ⟨fun hq => ?_, hn1⟩
      rcases hv with hv | hv
      · exact hsep q hq (hv ▸ hz)
      · rw [hv] at hz
        injection hz with hz
        have := hvs q hq
        omega
  have hl2 : (s.conf.peers ++ [peer0]).length = s.conf.peers.length + 1 := by simp
  have hfm : ((v2 :: (vs ++ [Value.slice none 0 0])).filterMap Value.ownBlock) = (v2 :: vs).filterMap Value.ownBlock := by
    rw [← List.cons_append, List.filterMap_append]
    simp [Value.ownBlock]
  refine ⟨mv, v2, (v2 :: vs).filterMap Value.ownBlock, ⟨h.ok.1, h.ok.2.1, fun q hq => ?_⟩, h.low, hnd2, fun e => ?_, hb2, ⟨vs ++ [.slice none 0 0], by simp [hl], ?_, fun i q x hq hx => ?_, hfm⟩, ?_⟩
  · rcases List.mem_append.1 hq with hq | hq
    · exact h.ok.2.2 q hq
    · rw [List.mem_singleton.1 hq]; exact peer0_ok
  · rcases (hBv v2 gp).1 e with e | e
    · exact h2gp e
    · exact hgpvs e
  · rw [hl2, peersV_snoc hl, List.flatten_append, List.flatten_singleton]
    exact own_kept ho fun k hk => hset k (fun e => h2gp (e ▸ hk))
  · by_cases hi : i < s.conf.peers.length
    · rw [List.getElem?_append_left hi] at hq
      rw [List.getElem?_append_left (by omega)] at hx
      have ho1 := hown i q x hq hx
      refine own_kept ho1 fun k hk => ?_
      have hkm : k ∈ vs.filterMap Value.ownBlock := List.mem_filterMap.2 ⟨x, List.mem_of_getElem? hx, hk⟩
      rw [hset k (fun e => hgpvs (e ▸ hkm)), hg.block k (own_lt ho1 hk).2 (fun e => hsep k hkm e.symm)]
    · have hi2 : i = s.conf.peers.length := by
        have := (List.getElem?_eq_some_iff.1 hq).1
        simp at this
        omega
      subst hi2
      rw [List.getElem?_append_right (Nat.le_refl _), Nat.sub_self] at hq
      rw [← hl, List.getElem?_append_right (Nat.le_refl _), Nat.sub_self] at hx
      have hq2 : peer0 = q := by simpa using hq
      have hx2 : Value.slice none 0 0 = x := by simpa using hx
      subst hq2 hx2
      exact World.ownsRow_nil _ _ _ _
  · have hs := h.seen
    show SeenAt base gp m ((v2 :: vs).filterMap Value.ownBlock) _ mv s.seen
    cases hsn : s.seen with
    | none => rw [hsn] at hs; exact hs
    | some S =>
      rw [hsn] at hs
      obtain ⟨gm, h1, h2, h3, h4, h5, h6⟩ := hs
      have hgv : v.ownBlock ≠ some gm := fun e => h4 (by rw [← hB, hBv]; exact .inl e)
      refine ⟨gm, h1, h2, h3, fun e => ?_, h5, h6.kept ?_⟩
      · rcases (hBv v2 gm).1 e with e | e
        · rcases hv with hv | hv
          · exact hgv (hv ▸ e)
          · rw [hv] at e
            injection e with e
            have := h6.lt
            omega
        · exact h4 (by rw [← hB, hBv]; exact .inr e)
      · rw [hset gm h3, hg.block gm h6.lt (fun e => hgv e.symm)]
set_option maxRecDepth 100000 in
set_option maxHeartbeats 8000000 in
theorem entry_peerW (w0 W : World) (gp m line : Nat) (s t : PsM) (name value : List UInt8) (hlv : LvCf w0) (hb0 : Below w0.heap.size w0 W) (hp : PsA w0.heap.size gp m W s line) (hm : m ≤ 5000) (hnl : name.length ≤ 4000) (hvl : value.length ≤ 4000) (done : List PeerM) (p : PeerM) (hpe : s.conf.peers = done ++ [p]) (hal : p.al.length ≤ 100000) (hdn : done.length ≤ 100000) (h : entryM s name value = some t) :
    Calls Tryz.prog 96 #[.pointer (some ⟨gp, 0, none⟩), .string ⟨name.toArray⟩, .string ⟨value.toArray⟩] W fun e W' => e = .returned (.tuple #[]) ∧ PsA w0.heap.size gp (m + 1) W' t line ∧ Below w0.heap.size w0 W' := by
  obtain ⟨S, q, hs, hc, hi, rfl⟩ := entry_peer_cases hpe h
  obtain ⟨mv, v, Bs, hp⟩ := hp
  have hseen := hp.seen
  rw [hs] at hseen
  obtain ⟨gm, rfl, hgl, hgp, hgB, hSm, hnm⟩ := hseen
  obtain ⟨g, cp, rest, vs, x, rfl, hlv0⟩ := hp.last hpe
  clear hlv0
  have fv := hp.peersC
  have fs := hp.seenC
  have HNM := Lib.hid hnm
  have HP := Lib.hid hp
  have HB := Lib.hid hb0
  have HLV := Lib.hid hlv
  have HC := Lib.hid hc
  have HS := Lib.hid hs
  have HI := Lib.hid hi
  have HL := Lib.hid (And.intro hnl hvl)
  have HGL := Lib.hid hgl
  have hml : S.length < maxLen := by have : maxLen = 9223372036854775807 := rfl; omega
  have HML := Lib.hid hml
  have HPE := Lib.hid hpe
  obtain ⟨N, hN⟩ : ∃ S : ByteArray, ⟨name.toArray⟩ = S := ⟨_, rfl⟩
  obtain ⟨V, hV⟩ : ∃ S : ByteArray, ⟨value.toArray⟩ = S := ⟨_, rfl⟩
  rw [hN, hV]
  have HN := Lib.hid hN
  have HV := Lib.hid hV
  clear h hi hs hc hp hb0 hlv hnm hgl hgp hgB hSm hml hpe hN hV hnl hvl hm
  have HAL := Lib.hid hal
  have HDN := Lib.hid hdn
  clear hal
  have d1 : decide ((done.length : Int) ≥ 0) = true := by simp
  have e1 : ((done.length + 1 : Nat) : Int) - 1 = (done.length : Int) := by omega
  have e2 : (done.length : Int) + 1 - 1 = (done.length : Int) := by omega
  have w1' : IntKind.i64.wrap (done.length : Int) = (done.length : Int) := by rw [IntKind.wrap_i64]; omega
  have i1 : (0 : Int) ≤ (done.length : Int) := by omega
  have i2 : (done.length : Int) < ((done.length + 1 : Nat) : Int) := by omega
  have i3 : (done.length : Int) < (done.length : Int) + 1 := by omega
  have hne : ∀ W : World, (binOp .neq 81 (.map (some gm)) (.map none)).run Tryz.prog W = .ok (.bool true) W := fun W => run_neq_map_nil (P := Tryz.prog) W 81 9 4 (some gm) Tryz.underlying81
  go_enter Tryz.func96, Tryz.ntmps96
  go_wp2_with (at_lookup; refine wpList_lookup_names (by rfl) (.tmp 16) (.tmp 17) 81 rfl 9 4 Tryz.underlying9 Tryz.underlying81 Tryz.underlying4 boolZero gm _ S rfl HNM.out name (by have := HL.out.1; omega) (by show Value.string N = _; rw [HN.out]) _ HC.out ?_)
  refine (require_true _).mono ?_
  rintro e w2 ⟨rfl, rfl⟩
  go_upto_region 2 with (at_mapUpdate; refine wpList_update_names rfl (.tmp 25) (.tmp 26) (.const (.bool true)) 81 rfl 9 4 Tryz.underlying9 Tryz.underlying81 Tryz.underlying4 gm _ S rfl HNM.out HML.out name (by have := HL.out.1; omega) (by show Value.string N = _; rw [HN.out]) rfl ?_; intro w3 hn3 hg3)
  have hp3 := HP.out.note HS.out (.of_grown hg3) hn3
  have hb3 := grown_own HB.out hg3 HGL.out
  replace HP := Lib.hid hp3
  replace HB := Lib.hid hb3
  have fv2 := HP.out.peersC
  clear hp3 hb3 hn3 hg3 HNM fv fs
  go_wp2_with fail
  obtain ⟨g2, cp2, rest2, vs2, x2, he2, hlast⟩ := HP.out.last HPE.out
  injection he2 with he2 _ he3
  injection he2 with he2
  injection he2 with he2 _ _
  subst he2 he3
  have hcall := rpeer_any w0 w3 gp (m + 1) line s.conf (some (name :: S)) _ g cp rest2 done vs2 p q x2 name value HLV.out HB.out hlast HL.out.2 HAL.out HI.out
  rw [HN.out, HV.out] at hcall
  refine hcall.mono ?_
  rintro e w4 ⟨rfl, ⟨x4, hp4⟩, hb4⟩
  have HP4 := Lib.hid hp4.toPs
  have HB4 := Lib.hid hb4
  clear hcall hp4 hb4 fv2 hlast
  go_wp2
  go_end0
  exact ⟨rfl, ⟨_, _, _, HP4.out⟩, HB4.out⟩
set_option maxRecDepth 100000 in
set_option maxHeartbeats 8000000 in
theorem line_peer (w0 W : World) (gp m line : Nat) (s : PsM) (hb0 : Below w0.heap.size w0 W) (hp : PsA w0.heap.size gp m W s line) (hn : s.conf.peers.length ≤ 100000) (h : endOk s = true) :
    Calls Tryz.prog 70 #[.pointer (some ⟨gp, 0, none⟩), .string ⟨tPeer.toArray⟩] W fun e W' => e = .returned (.tuple #[]) ∧ PsA w0.heap.size gp (m + 1) W' ⟨{ s.conf with peers := s.conf.peers ++ [peer0] }, some []⟩ line ∧ Below w0.heap.size w0 W' := by
  obtain ⟨mv, v, Bs, hp⟩ := hp
  obtain ⟨pi, hpi, hpz, hps, hpb⟩ := peerZ
  have HPI := Lib.hid (And.intro hpi (And.intro hpz (And.intro hps hpb)))
  have HP := Lib.hid (hp.later (Nat.le_succ m))
  have HB := Lib.hid hb0
  have HE := Lib.hid h
  have HNB := Lib.hid hn
  have HPF := Lib.hid (fun W => hasPrefix_c tPeer [35] W)
  have hmm := @run_makeMap Tryz.prog
  obtain ⟨zc, hzc⟩ : ∃ z, (peer0.cells (.slice none 0 0)).toArray = z := ⟨_, rfl⟩
  have HZC := Lib.hid hzc
  have HBT := Lib.hid (show Tryz.prog.built 57 [] = some zc from by rw [← hzc]; kernel_rfl)
  clear hp hb0 h hpi hpz hps hpb hzc hn
  rw [show tPeer.toArray = #[91, 80, 101, 101, 114, 93] from rfl] at HPF ⊢
  go_enter Tryz.func70, Tryz.ntmps70
  go_wp2_with fail
  refine (HPF.out W).mono ?_
  rintro e w2 ⟨rfl, hb⟩
  replace HP := Lib.hid (HP.out.below hb)
  replace HB := Lib.hid (HB.out.trans (hb.mono HB.out.size))
  clear hb HPF
  rw [show ([35] : List UInt8).isPrefixOf tPeer = false from by decide]
  go_wp2_with fail
  refine (endSection_any w0.heap.size w2 gp (m + 1) line s mv v Bs HP.out HE.out).mono ?_
  rintro e w3 ⟨rfl, rfl⟩
  have HN := Lib.hid (made_map HP.out HB.out.size)
  have HB3 := Lib.hid (set_own (j := 35) (v := .map (some w3.heap.size)) (HB.out.alloc HB.out.size (.map #[] 0)) HP.out.low)
  have fs3 : (w3.alloc (.map #[] 0)).cell? ⟨gp, 35, none⟩ = some mv := (cell_below HP.out.seenC ((Below.refl _ _).alloc (Nat.le_refl _) _))
  have zx3 : (w3.alloc (.map #[] 0)).frozen? ⟨gp, 35, none⟩ = false := (HP.out.below ((Below.refl _ _).alloc (Nat.le_refl _) (.map #[] 0))).blk.frozen 35
  go_upto_region 10 with fail
  clear fs3 zx3
  generalize (w3.alloc (.map #[] 0)).setCell ⟨gp, 35, none⟩ (.map (some w3.heap.size)) = w4 at HN HB3 ⊢
  generalize w3.heap.size = gm at HN ⊢
  clear HP HB
  have fv := HN.out.peersC
  have zv := HN.out.blk.frozen 33
  obtain ⟨vs, hvl, hvr, hvo, hvB⟩ := HN.out.peers
  have HV := Lib.hid (And.intro hvl (And.intro hvr (And.intro hvo hvB)))
  clear hvl hvr hvo hvB
  obtain ⟨n, hnn⟩ : ∃ z, s.conf.peers.length = z := ⟨_, rfl⟩
  have HNN := Lib.hid hnn
  clear hnn
  have HAL := Lib.hid ((Below.refl w4.heap.size w4).alloc (Nat.le_refl _) (.cells zc 57))
  have HX := Lib.hid (show RdRow (w4.alloc (.cells zc 57)) (w4.alloc (.cells zc 57)).heap.size (some ⟨w4.heap.size, 0, none⟩) 85 1 [peer0.cells (.slice none 0 0)] from by
    rw [← HZC.out]
    exact blk_row (t := 57) (rest := []) (by simpa using Blk.new w4 57 (peer0.cells (.slice none 0 0))) (by intro o ho; rw [List.mem_singleton.1 ho]; exact PeerM.cells_length peer0_ok _) rfl)
  go_wp2_with (first | (refine wpList_build_as rfl 57 [] rfl zc ?_ ?_; exact HBT.out) | (refine wpList_buildOne rfl 25 57 (.tmp 56) rfl zc rfl 85 Tryz.underlying25 pi HPI.out.1 HPI.out.2.2.1 _ HPI.out.2.1 (by decide) (by decide) (by rw [← HZC.out, List.size_toArray, PeerM.cells_length peer0_ok]) ?_) | (refine wpList_append_rows _ rfl (.tmp 55) (.tmp 57) 25 rfl w0.heap.size 57 pi _ 85 136 Tryz.underlying25 HPI.out.1 HPI.out.2.1 HPI.out.2.2.1 HPI.out.2.2.2 (by rfl) (by decide) v n (peersV s.conf.peers vs).flatten rfl (by have h := own_below HV.out.2.1 HAL.out; rw [HNN.out] at h; exact h) _ (some ⟨w4.heap.size, 0, none⟩) 1 1 [peer0.cells (.slice none 0 0)] rfl HX.out (by intro u hu; simp only [List.flatten_cons, List.flatten_nil, List.append_nil] at hu; exact peer_one peer0 none 0 0 u hu) (by have := HNB.out; have := HNN.out; unfold maxLen; omega) (by have := HNB.out; have := HNN.out; omega) (Nat.le_trans HB3.out.size HAL.out.size) ?_; intro v5 w5 ho5 hg5 hv5; have fo : w5.cell? ⟨gp, 33, none⟩ = some v := (keep_cell (cell_below HN.out.peersC HAL.out) (Nat.lt_of_lt_of_le HN.out.blk.lt HAL.out.size) hg5 (fun e => HN.out.nin (by rw [← HV.out.2.2.2]; exact List.mem_filterMap.2 ⟨v, List.mem_cons_self .., e.symm⟩))); have zo : w5.frozen? ⟨gp, 33, none⟩ = false := (keep_frozen ((HN.out.below HAL.out).blk.frozen 33) (Nat.lt_of_lt_of_le HN.out.blk.lt HAL.out.size) hg5 (fun e => HN.out.nin (by rw [← HV.out.2.2.2]; exact List.mem_filterMap.2 ⟨v, List.mem_cons_self .., e.symm⟩))); obtain ⟨A5, c5, rfl, _, _, _⟩ := own_sliceK ho5))
  have hpu := PsAt.push (W := w4.alloc (.cells zc 57)) (HN.out.below HAL.out) HV.out.1 (fun i p x hp hx => own_below (HV.out.2.2.1 i p x hp hx) HAL.out) HV.out.2.2.2 hg5 (by rw [HNN.out]; simpa using ho5) hv5
  have hbl := ((HB3.out.trans (HAL.out.mono HB3.out.size)).grown hg5 (Nat.le_trans HB3.out.size HAL.out.size) (fun k hk => (own_lt HV.out.2.1 hk).1)).setCell (p := ⟨gp, 33, none⟩) HN.out.low (.slice A5 (n + 1) c5)
  go_end0
  exact ⟨rfl, hpu, hbl⟩
/-- the numbers of peers and prefixes are not too great -/
def okB (s : PsM) (_ : List UInt8) : Prop := s.conf.peers.length ≤ 100000 ∧ ∀ p ∈ s.conf.peers, p.al.length ≤ 100000
theorem lineB : LineC okB := by
  intro w0 W gp m line s t l hlv hb hp hm hl ⟨hn, ha⟩ h
  unfold lineM at h
  by_cases h1 : l = [] ∨ l.head? = some 35
  · rw [if_pos h1] at h
    injection h with h
    subst h
    exact line_skip w0 W gp m line s l hb hp h1
  · rw [if_neg h1] at h
    by_cases h2 : l = tIface
    · rw [if_pos h2] at h
      by_cases h3 : s.seen.isNone = true
      · rw [if_pos h3] at h
        injection h with h
        subst h h2
        have hs : s.seen = none := by cases hq : s.seen <;> simp_all
        exact line_iface w0 W gp m line s hb hp hs
      · rw [if_neg h3] at h; cases h
    · rw [if_neg h2] at h
      by_cases h5 : l = tPeer
      · rw [if_pos h5] at h
        by_cases h6 : endOk s = true
        · rw [if_pos h6] at h
          injection h with h
          subst h h5
          exact line_peer w0 W gp m line s hb hp hn h6
        · rw [if_neg h6] at h; cases h
      · rw [if_neg h5] at h
        by_cases h4 : (Lib.cut l [61]).2.2 = true
        · rw [if_pos h4] at h
          have hle := cut_le l [61]
          have hn1 := trimR_le (Lib.cut l [61]).1 bl2
          have hv := trimL_le (Lib.cut l [61]).2.1 bl2
          rcases List.eq_nil_or_concat s.conf.peers with hpe | ⟨done, p, hpe⟩
          · exact line_entry w0 W gp m line s t l hlv hb hp hl h1 h2 h5 h4 fun W' hb' hp' => entry_iface w0 W' gp m line s t _ _ hlv hb' hp' hm (by omega) (by omega) hpe h
          · have hpe2 : s.conf.peers = done ++ [p] := by simpa using hpe
            have hdn : done.length ≤ 100000 := by
              rw [hpe2] at hn
              simp at hn
              omega
            exact line_entry w0 W gp m line s t l hlv hb hp hl h1 h2 h5 h4 fun W' hb' hp' => entry_peerW w0 W' gp m line s t _ _ hlv hb' hp' hm (by omega) (by omega) done p hpe2 (ha p (by rw [hpe2]; simp)) hdn h
        · rw [if_neg h4] at h; cases h
end Go.Proofs.YtcbfchkhbngpkaaGreatDoor
