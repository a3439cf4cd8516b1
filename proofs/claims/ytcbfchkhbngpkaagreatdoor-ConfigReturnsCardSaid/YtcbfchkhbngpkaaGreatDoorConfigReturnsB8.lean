/-
  Contracts of Go library functions that layer 13 reads and writes configurations by, laid by the kit shelf: Trim, TrimLeft, TrimRight, FormatInt, Split. The contracts of strings.Trim, TrimLeft, TrimRight at spaces and tabs. The contract of the parser's readLine: a line that is ignored, the line of the interface, an entry of it. The contracts of config's wrongPrefix, validKeepalive; slices.IndexFunc and ContainsFunc at prefixes and at peers. The contracts of config's validEndpoint and wrongPeer. The contract of config's Validate. The bits of an exclusive or of two bytes. The choices that the statements are made of, at a world. A slice built of arrays of one size: its block holds them one behind the other. The contracts of the choices that the statements are made of: Addr, Prefix. No statement is proved here.
-/
import Derived.Shelf.Strings.SlTrimAscii
import Derived.Shelf.Strings.Split
import Derived.Shelf.Strconv.Itoa4
import Derived.RegionTactic
import Derived.Deep.DeepCutAuto
import Derived.Test.YtcbfchkhbngpkaaGreatDoorConfigReturnsB7
namespace Go.Proofs.YtcbfchkhbngpkaaGreatDoor
open Go.Shelf
def sh_lays161_ren : Go.Shelf.Ren := ⟨fun | 161 => 98 | 231 => 99 | 227 => 101 | 233 => 102 | 235 => 104 | 228 => 123 | 197 => 124 | 151 => 125 | 260 => 154 | 152 => 155 | 137 => 172 | 119 => 173 | 224 => 134 | 225 => 133 | 217 => 132 | 266 => 159 | n => n, fun | 9 => 9 | 4 => 4 | 3 => 3 | 5 => 5 | 117 => 135 | 116 => 134 | 0 => 0 | 124 => 138 | 105 => 157 | 21 => 21 | 119 => 202 | 46 => 86 | 139 => 205 | 138 => 204 | n => n, fun | 3 => 4 | 4 => 5 | n => n⟩
theorem sh_lays161 : Go.Proofs.Lays.n161 Tryz.prog sh_lays161_ren := {
  mixed := by kernel_rfl
  f119 := Tryz.func173.trans (congrArg some (by kernel_rfl))
  f137 := Tryz.func172.trans (congrArg some (by kernel_rfl))
  f151 := Tryz.func125.trans (congrArg some (by kernel_rfl))
  f152 := Tryz.func155.trans (congrArg some (by kernel_rfl))
  f161 := Tryz.func98.trans (congrArg some (by kernel_rfl))
  f197 := Tryz.func124.trans (congrArg some (by kernel_rfl))
  f217 := Tryz.func132.trans (congrArg some (by kernel_rfl))
  f224 := Tryz.func134.trans (congrArg some (by kernel_rfl))
  f225 := Tryz.func133.trans (congrArg some (by kernel_rfl))
  f227 := Tryz.func101.trans (congrArg some (by kernel_rfl))
  f228 := Tryz.func123.trans (congrArg some (by kernel_rfl))
  f231 := Tryz.func99.trans (congrArg some (by kernel_rfl))
  f233 := Tryz.func102.trans (congrArg some (by kernel_rfl))
  f235 := Tryz.func104.trans (congrArg some (by kernel_rfl))
  f260 := Tryz.func154.trans (congrArg some (by kernel_rfl))
  f266 := Tryz.func159.trans (congrArg some (by kernel_rfl))
  t0 := Tryz.underlying0
  a0 := Tryz.isAgg0
  z0 := Tryz.sizeOf0
  v0 := Tryz.zeroValue0
  t3 := Tryz.underlying3
  a3 := Tryz.isAgg3
  z3 := Tryz.sizeOf3
  v3 := Tryz.zeroValue3
  t4 := Tryz.underlying4
  a4 := Tryz.isAgg4
  z4 := Tryz.sizeOf4
  v4 := Tryz.zeroValue4
  t5 := Tryz.underlying5
  a5 := Tryz.isAgg5
  z5 := Tryz.sizeOf5
  v5 := Tryz.zeroValue5
  t9 := Tryz.underlying9
  a9 := Tryz.isAgg9
  z9 := Tryz.sizeOf9
  v9 := Tryz.zeroValue9
  t21 := Tryz.underlying21
  a21 := Tryz.isAgg21
  z21 := Tryz.sizeOf21
  v21 := Tryz.zeroValue21
  t46 := Tryz.underlying86
  a46 := Tryz.isAgg86
  z46 := Tryz.sizeOf86
  v46 := Tryz.zeroValue86
  t105 := Tryz.underlying157
  a105 := Tryz.isAgg157
  z105 := Tryz.sizeOf157
  v105 := Tryz.zeroValue157
  t116 := Tryz.underlying134
  a116 := Tryz.isAgg134
  z116 := Tryz.sizeOf134
  t117 := Tryz.underlying135
  a117 := Tryz.isAgg135
  z117 := Tryz.sizeOf135
  v117 := Tryz.zeroValue135
  t119 := Tryz.underlying202
  a119 := Tryz.isAgg202
  z119 := Tryz.sizeOf202
  t124 := Tryz.underlying138
  a124 := Tryz.isAgg138
  z124 := Tryz.sizeOf138
  v124 := Tryz.zeroValue138
  t138 := Tryz.underlying204
  a138 := Tryz.isAgg204
  z138 := Tryz.sizeOf204
  v138 := Tryz.zeroValue204
  t139 := Tryz.underlying205
  a139 := Tryz.isAgg205
  z139 := Tryz.sizeOf205
  v139 := Tryz.zeroValue205
  g3 := by kernel_rfl
  g4 := by kernel_rfl }
def sh_lays162_ren : Go.Shelf.Ren := ⟨fun | 162 => 97 | 232 => 100 | 227 => 101 | 234 => 103 | 236 => 105 | 228 => 123 | 271 => 126 | 151 => 125 | 120 => 156 | 197 => 124 | 152 => 155 | 260 => 154 | 137 => 172 | 119 => 173 | 224 => 134 | 225 => 133 | 217 => 132 | 266 => 159 | n => n, fun | 9 => 9 | 4 => 4 | 3 => 3 | 5 => 5 | 117 => 135 | 116 => 134 | 0 => 0 | 124 => 138 | 21 => 21 | 105 => 157 | 46 => 86 | 119 => 202 | 139 => 205 | 138 => 204 | n => n, fun | 3 => 4 | 4 => 5 | n => n⟩
theorem sh_lays162 : Go.Proofs.Lays.n162 Tryz.prog sh_lays162_ren := {
  mixed := by kernel_rfl
  f119 := Tryz.func173.trans (congrArg some (by kernel_rfl))
  f120 := Tryz.func156.trans (congrArg some (by kernel_rfl))
  f137 := Tryz.func172.trans (congrArg some (by kernel_rfl))
  f151 := Tryz.func125.trans (congrArg some (by kernel_rfl))
  f152 := Tryz.func155.trans (congrArg some (by kernel_rfl))
  f162 := Tryz.func97.trans (congrArg some (by kernel_rfl))
  f197 := Tryz.func124.trans (congrArg some (by kernel_rfl))
  f217 := Tryz.func132.trans (congrArg some (by kernel_rfl))
  f224 := Tryz.func134.trans (congrArg some (by kernel_rfl))
  f225 := Tryz.func133.trans (congrArg some (by kernel_rfl))
  f227 := Tryz.func101.trans (congrArg some (by kernel_rfl))
  f228 := Tryz.func123.trans (congrArg some (by kernel_rfl))
  f232 := Tryz.func100.trans (congrArg some (by kernel_rfl))
  f234 := Tryz.func103.trans (congrArg some (by kernel_rfl))
  f236 := Tryz.func105.trans (congrArg some (by kernel_rfl))
  f260 := Tryz.func154.trans (congrArg some (by kernel_rfl))
  f266 := Tryz.func159.trans (congrArg some (by kernel_rfl))
  f271 := Tryz.func126.trans (congrArg some (by kernel_rfl))
  t0 := Tryz.underlying0
  a0 := Tryz.isAgg0
  z0 := Tryz.sizeOf0
  v0 := Tryz.zeroValue0
  t3 := Tryz.underlying3
  a3 := Tryz.isAgg3
  z3 := Tryz.sizeOf3
  v3 := Tryz.zeroValue3
  t4 := Tryz.underlying4
  a4 := Tryz.isAgg4
  z4 := Tryz.sizeOf4
  v4 := Tryz.zeroValue4
  t5 := Tryz.underlying5
  a5 := Tryz.isAgg5
  z5 := Tryz.sizeOf5
  v5 := Tryz.zeroValue5
  t9 := Tryz.underlying9
  a9 := Tryz.isAgg9
  z9 := Tryz.sizeOf9
  v9 := Tryz.zeroValue9
  t21 := Tryz.underlying21
  a21 := Tryz.isAgg21
  z21 := Tryz.sizeOf21
  v21 := Tryz.zeroValue21
  t46 := Tryz.underlying86
  a46 := Tryz.isAgg86
  z46 := Tryz.sizeOf86
  v46 := Tryz.zeroValue86
  t105 := Tryz.underlying157
  a105 := Tryz.isAgg157
  z105 := Tryz.sizeOf157
  v105 := Tryz.zeroValue157
  t116 := Tryz.underlying134
  a116 := Tryz.isAgg134
  z116 := Tryz.sizeOf134
  t117 := Tryz.underlying135
  a117 := Tryz.isAgg135
  z117 := Tryz.sizeOf135
  v117 := Tryz.zeroValue135
  t119 := Tryz.underlying202
  a119 := Tryz.isAgg202
  z119 := Tryz.sizeOf202
  t124 := Tryz.underlying138
  a124 := Tryz.isAgg138
  z124 := Tryz.sizeOf138
  v124 := Tryz.zeroValue138
  t138 := Tryz.underlying204
  a138 := Tryz.isAgg204
  z138 := Tryz.sizeOf204
  v138 := Tryz.zeroValue204
  t139 := Tryz.underlying205
  a139 := Tryz.isAgg205
  z139 := Tryz.sizeOf205
  v139 := Tryz.zeroValue205
  g3 := by kernel_rfl
  g4 := by kernel_rfl }
def sh_lays160_ren : Go.Shelf.Ren := ⟨fun | 160 => 71 | 232 => 100 | 231 => 99 | 227 => 101 | 234 => 103 | 233 => 102 | 236 => 105 | 235 => 104 | 228 => 123 | 271 => 126 | 151 => 125 | 197 => 124 | 120 => 156 | 152 => 155 | 260 => 154 | 137 => 172 | 119 => 173 | 224 => 134 | 225 => 133 | 217 => 132 | 266 => 159 | n => n, fun | 9 => 9 | 4 => 4 | 3 => 3 | 5 => 5 | 117 => 135 | 116 => 134 | 0 => 0 | 124 => 138 | 21 => 21 | 105 => 157 | 46 => 86 | 119 => 202 | 139 => 205 | 138 => 204 | n => n, fun | 3 => 4 | 4 => 5 | n => n⟩
theorem sh_lays160 : Go.Proofs.Lays.n160 Tryz.prog sh_lays160_ren := {
  mixed := by kernel_rfl
  f119 := Tryz.func173.trans (congrArg some (by kernel_rfl))
  f120 := Tryz.func156.trans (congrArg some (by kernel_rfl))
  f137 := Tryz.func172.trans (congrArg some (by kernel_rfl))
  f151 := Tryz.func125.trans (congrArg some (by kernel_rfl))
  f152 := Tryz.func155.trans (congrArg some (by kernel_rfl))
  f160 := Tryz.func71.trans (congrArg some (by kernel_rfl))
  f197 := Tryz.func124.trans (congrArg some (by kernel_rfl))
  f217 := Tryz.func132.trans (congrArg some (by kernel_rfl))
  f224 := Tryz.func134.trans (congrArg some (by kernel_rfl))
  f225 := Tryz.func133.trans (congrArg some (by kernel_rfl))
  f227 := Tryz.func101.trans (congrArg some (by kernel_rfl))
  f228 := Tryz.func123.trans (congrArg some (by kernel_rfl))
  f231 := Tryz.func99.trans (congrArg some (by kernel_rfl))
  f232 := Tryz.func100.trans (congrArg some (by kernel_rfl))
  f233 := Tryz.func102.trans (congrArg some (by kernel_rfl))
  f234 := Tryz.func103.trans (congrArg some (by kernel_rfl))
  f235 := Tryz.func104.trans (congrArg some (by kernel_rfl))
  f236 := Tryz.func105.trans (congrArg some (by kernel_rfl))
  f260 := Tryz.func154.trans (congrArg some (by kernel_rfl))
  f266 := Tryz.func159.trans (congrArg some (by kernel_rfl))
  f271 := Tryz.func126.trans (congrArg some (by kernel_rfl))
  t0 := Tryz.underlying0
  a0 := Tryz.isAgg0
  z0 := Tryz.sizeOf0
  v0 := Tryz.zeroValue0
  t3 := Tryz.underlying3
  a3 := Tryz.isAgg3
  z3 := Tryz.sizeOf3
  v3 := Tryz.zeroValue3
  t4 := Tryz.underlying4
  a4 := Tryz.isAgg4
  z4 := Tryz.sizeOf4
  v4 := Tryz.zeroValue4
  t5 := Tryz.underlying5
  a5 := Tryz.isAgg5
  z5 := Tryz.sizeOf5
  v5 := Tryz.zeroValue5
  t9 := Tryz.underlying9
  a9 := Tryz.isAgg9
  z9 := Tryz.sizeOf9
  v9 := Tryz.zeroValue9
  t21 := Tryz.underlying21
  a21 := Tryz.isAgg21
  z21 := Tryz.sizeOf21
  v21 := Tryz.zeroValue21
  t46 := Tryz.underlying86
  a46 := Tryz.isAgg86
  z46 := Tryz.sizeOf86
  v46 := Tryz.zeroValue86
  t105 := Tryz.underlying157
  a105 := Tryz.isAgg157
  z105 := Tryz.sizeOf157
  v105 := Tryz.zeroValue157
  t116 := Tryz.underlying134
  a116 := Tryz.isAgg134
  z116 := Tryz.sizeOf134
  t117 := Tryz.underlying135
  a117 := Tryz.isAgg135
  z117 := Tryz.sizeOf135
  v117 := Tryz.zeroValue135
  t119 := Tryz.underlying202
  a119 := Tryz.isAgg202
  z119 := Tryz.sizeOf202
  t124 := Tryz.underlying138
  a124 := Tryz.isAgg138
  z124 := Tryz.sizeOf138
  v124 := Tryz.zeroValue138
  t138 := Tryz.underlying204
  a138 := Tryz.isAgg204
  z138 := Tryz.sizeOf204
  v138 := Tryz.zeroValue204
  t139 := Tryz.underlying205
  a139 := Tryz.isAgg205
  z139 := Tryz.sizeOf205
  v139 := Tryz.zeroValue205
  g3 := by kernel_rfl
  g4 := by kernel_rfl }
def sh_laysM173_ren : Go.Shelf.Ren := ⟨fun | 173 => 50 | 246 => 73 | 283 => 106 | 284 => 107 | 285 => 108 | 286 => 109 | 129 => 128 | 317 => 127 | 318 => 129 | 319 => 130 | 320 => 131 | 337 => 157 | 338 => 158 | n => n, fun | 2 => 2 | 3 => 3 | 9 => 9 | 4 => 4 | 171 => 139 | 0 => 0 | 53 => 90 | 37 => 22 | 5 => 5 | 173 => 142 | 212 => 161 | 51 => 162 | 20 => 20 | 213 => 163 | 46 => 86 | 232 => 23 | 233 => 207 | n => n, fun | 17 => 0 | 18 => 6 | 19 => 7 | n => n⟩
theorem sh_laysM173 : Go.Proofs.LaysM.n173 Tryz.prog sh_laysM173_ren := {
  mixed := by kernel_rfl
  f129 := Tryz.func128.trans (congrArg some (by kernel_rfl))
  f173 := Tryz.func50.trans (congrArg some (by kernel_rfl))
  f246 := Tryz.func73.trans (congrArg some (by kernel_rfl))
  f283 := Tryz.func106.trans (congrArg some (by kernel_rfl))
  f284 := Tryz.func107.trans (congrArg some (by kernel_rfl))
  f285 := Tryz.func108.trans (congrArg some (by kernel_rfl))
  f286 := Tryz.func109.trans (congrArg some (by kernel_rfl))
  f317 := Tryz.func127.trans (congrArg some (by kernel_rfl))
  f318 := Tryz.func129.trans (congrArg some (by kernel_rfl))
  f319 := Tryz.func130.trans (congrArg some (by kernel_rfl))
  f320 := Tryz.func131.trans (congrArg some (by kernel_rfl))
  f337 := Tryz.func157.trans (congrArg some (by kernel_rfl))
  f338 := Tryz.func158.trans (congrArg some (by kernel_rfl))
  t0 := Tryz.underlying0
  a0 := Tryz.isAgg0
  z0 := Tryz.sizeOf0
  v0 := Tryz.zeroValue0
  t2 := Tryz.underlying2
  a2 := Tryz.isAgg2
  z2 := Tryz.sizeOf2
  v2 := Tryz.zeroValue2
  t3 := Tryz.underlying3
  a3 := Tryz.isAgg3
  z3 := Tryz.sizeOf3
  v3 := Tryz.zeroValue3
  t4 := Tryz.underlying4
  a4 := Tryz.isAgg4
  z4 := Tryz.sizeOf4
  v4 := Tryz.zeroValue4
  t5 := Tryz.underlying5
  a5 := Tryz.isAgg5
  z5 := Tryz.sizeOf5
  v5 := Tryz.zeroValue5
  t9 := Tryz.underlying9
  a9 := Tryz.isAgg9
  z9 := Tryz.sizeOf9
  v9 := Tryz.zeroValue9
  t20 := Tryz.underlying20
  a20 := Tryz.isAgg20
  z20 := Tryz.sizeOf20
  v20 := Tryz.zeroValue20
  t37 := Tryz.underlying22
  a37 := Tryz.isAgg22
  z37 := Tryz.sizeOf22
  v37 := Tryz.zeroValue22
  t46 := Tryz.underlying86
  a46 := Tryz.isAgg86
  z46 := Tryz.sizeOf86
  v46 := Tryz.zeroValue86
  t51 := Tryz.underlying162
  a51 := Tryz.isAgg162
  z51 := Tryz.sizeOf162
  v51 := Tryz.zeroValue162
  t53 := Tryz.underlying90
  a53 := Tryz.isAgg90
  z53 := Tryz.sizeOf90
  v53 := Tryz.zeroValue90
  t171 := Tryz.underlying139
  a171 := Tryz.isAgg139
  z171 := Tryz.sizeOf139
  v171 := Tryz.zeroValue139
  t173 := Tryz.underlying142
  a173 := Tryz.isAgg142
  z173 := Tryz.sizeOf142
  v173 := Tryz.zeroValue142
  t212 := Tryz.underlying161
  a212 := Tryz.isAgg161
  z212 := Tryz.sizeOf161
  v212 := Tryz.zeroValue161
  t213 := Tryz.underlying163
  a213 := Tryz.isAgg163
  z213 := Tryz.sizeOf163
  t232 := Tryz.underlying23
  a232 := Tryz.isAgg23
  z232 := Tryz.sizeOf23
  v232 := Tryz.zeroValue23
  t233 := Tryz.underlying207
  a233 := Tryz.isAgg207
  z233 := Tryz.sizeOf207
  v233 := Tryz.zeroValue207
  g17 := by kernel_rfl
  g18 := by kernel_rfl
  g19 := by kernel_rfl
  i0 := by kernel_rfl
  i2 := by kernel_rfl
  i3 := by kernel_rfl
  i4 := by kernel_rfl
  i5 := by kernel_rfl
  i9 := by kernel_rfl
  i20 := by kernel_rfl
  i37 := by kernel_rfl
  i46 := by kernel_rfl
  i51 := by kernel_rfl
  i53 := by kernel_rfl
  i171 := by kernel_rfl
  i173 := by kernel_rfl
  i212 := by kernel_rfl
  i232 := by kernel_rfl
  i233 := by kernel_rfl
  m17 := by kernel_rfl
  m18 := by kernel_rfl
  m19 := by kernel_rfl }
open Go.RowKit Go.Sort Go.Lib in
theorem sh_strconv_FormatInt_10 (n : Int) (h0 : -9223372036854775808 ≤ n) (h1 : n ≤ 9223372036854775807) (w : World) (htab : Lib.TabIs Tryz.prog w "internal/strconv.uint64pow10" .u64 Lib.pow10Tab) :
    Calls Tryz.prog 50 #[.int .i64 n, .int .i64 10] w fun e w' => e = .returned (.string ⟨(Lib.itoa n).toArray⟩) ∧ ∃ k os, w' = grow (w.drewN k) os := Any.strconv_FormatInt_10 sh_laysM173 n h0 h1 w htab
def sh_lays146_ren : Go.Shelf.Ren := ⟨fun | 146 => 152 | 221 => 136 | 268 => 161 | 138 => 162 | 143 => 113 | 195 => 174 | 197 => 124 | 218 => 175 | 219 => 112 | 260 => 154 | 217 => 132 | 225 => 133 | 224 => 134 | 267 => 135 | 266 => 159 | 314 => 160 | n => n, fun | 9 => 9 | 31 => 43 | 3 => 3 | 4 => 4 | 0 => 0 | 105 => 157 | 21 => 21 | 5 => 5 | 46 => 86 | 119 => 202 | 139 => 205 | 138 => 204 | 146 => 185 | 51 => 162 | n => n, fun | 1 => 1 | 3 => 4 | 4 => 5 | n => n⟩
theorem sh_lays146 : Go.Proofs.Lays.n146 Tryz.prog sh_lays146_ren := {
  mixed := by kernel_rfl
  f138 := Tryz.func162.trans (congrArg some (by kernel_rfl))
  f143 := Tryz.func113.trans (congrArg some (by kernel_rfl))
  f146 := Tryz.func152.trans (congrArg some (by kernel_rfl))
  f195 := Tryz.func174.trans (congrArg some (by kernel_rfl))
  f197 := Tryz.func124.trans (congrArg some (by kernel_rfl))
  f217 := Tryz.func132.trans (congrArg some (by kernel_rfl))
  f218 := Tryz.func175.trans (congrArg some (by kernel_rfl))
  f219 := Tryz.func112.trans (congrArg some (by kernel_rfl))
  f221 := Tryz.func136.trans (congrArg some (by kernel_rfl))
  f224 := Tryz.func134.trans (congrArg some (by kernel_rfl))
  f225 := Tryz.func133.trans (congrArg some (by kernel_rfl))
  f260 := Tryz.func154.trans (congrArg some (by kernel_rfl))
  f266 := Tryz.func159.trans (congrArg some (by kernel_rfl))
  f267 := Tryz.func135.trans (congrArg some (by kernel_rfl))
  f268 := Tryz.func161.trans (congrArg some (by kernel_rfl))
  f314 := Tryz.func160.trans (congrArg some (by kernel_rfl))
  t0 := Tryz.underlying0
  a0 := Tryz.isAgg0
  z0 := Tryz.sizeOf0
  v0 := Tryz.zeroValue0
  t3 := Tryz.underlying3
  a3 := Tryz.isAgg3
  z3 := Tryz.sizeOf3
  v3 := Tryz.zeroValue3
  t4 := Tryz.underlying4
  a4 := Tryz.isAgg4
  z4 := Tryz.sizeOf4
  v4 := Tryz.zeroValue4
  t5 := Tryz.underlying5
  a5 := Tryz.isAgg5
  z5 := Tryz.sizeOf5
  v5 := Tryz.zeroValue5
  t9 := Tryz.underlying9
  a9 := Tryz.isAgg9
  z9 := Tryz.sizeOf9
  v9 := Tryz.zeroValue9
  t21 := Tryz.underlying21
  a21 := Tryz.isAgg21
  z21 := Tryz.sizeOf21
  v21 := Tryz.zeroValue21
  t31 := Tryz.underlying43
  a31 := Tryz.isAgg43
  z31 := Tryz.sizeOf43
  v31 := Tryz.zeroValue43
  t46 := Tryz.underlying86
  a46 := Tryz.isAgg86
  z46 := Tryz.sizeOf86
  v46 := Tryz.zeroValue86
  t51 := Tryz.underlying162
  a51 := Tryz.isAgg162
  z51 := Tryz.sizeOf162
  v51 := Tryz.zeroValue162
  t105 := Tryz.underlying157
  a105 := Tryz.isAgg157
  z105 := Tryz.sizeOf157
  v105 := Tryz.zeroValue157
  t119 := Tryz.underlying202
  a119 := Tryz.isAgg202
  z119 := Tryz.sizeOf202
  t138 := Tryz.underlying204
  a138 := Tryz.isAgg204
  z138 := Tryz.sizeOf204
  v138 := Tryz.zeroValue204
  t139 := Tryz.underlying205
  a139 := Tryz.isAgg205
  z139 := Tryz.sizeOf205
  v139 := Tryz.zeroValue205
  t146 := Tryz.underlying185
  a146 := Tryz.isAgg185
  z146 := Tryz.sizeOf185
  v146 := Tryz.zeroValue185
  g1 := by kernel_rfl
  g3 := by kernel_rfl
  g4 := by kernel_rfl }
open Go.RowKit Go.Lib in
theorem sh_strings_Split (s sep : ByteArray) (m : Int) (w : World) (hs : s.size < 4294967281) (hm : w.cell? ⟨1, 0, none⟩ = some (.int .i64 m)) (h1 : 1 ≤ sep.size) :
    Calls Tryz.prog 152 #[.string s, .string sep] w fun e w' =>
      e = .returned (.slice (some ⟨w.heap.size, 0, none⟩) (Lib.countB s sep + 1) (Lib.countB s sep + 1)) ∧ w' = w.alloc (.cells ((Lib.splitB sep 0 (Lib.countB s sep) s).map Value.string).toArray 9) := Any.strings_Split sh_lays146 (by kernel_rfl) s sep m w hs hm h1
end Go.Proofs.YtcbfchkhbngpkaaGreatDoor
namespace Go.Proofs.YtcbfchkhbngpkaaGreatDoor
open Go.RowKit

theorem ascii_zero (w : World) : (zeroValue 134).run Tryz.prog w = .ok (.agg (Array.replicate 256 (.bool false))) w := by kernel_rfl
theorem ascii_size : (Tryz.prog.info? 134).map (·.size) = some 256 := by kernel_rfl
theorem bl2_ascii : ∀ (j : Nat) b, (ByteArray.mk bl2.toArray).data.toList[j]? = some b → b.toNat < 128 := by
  intro j b h
  have h2 := List.mem_of_getElem? h
  simp [bl2] at h2
  rcases h2 with rfl | rfl <;> decide
theorem trim_c (l : List UInt8) (hl : l.length ≤ 1000000) (w : World) :
    Calls Tryz.prog 71 #[.string ⟨l.toArray⟩, .string ⟨bl2.toArray⟩] w fun e w' => e = .returned (.string ⟨(Lib.trimS l bl2).toArray⟩) ∧ Below w.heap.size w w' := by
  have h := Any.strings_Trim_ascii sh_lays160 ascii_zero ascii_size ⟨l.toArray⟩ ⟨bl2.toArray⟩ w (by rw [mk_size]; omega) (by decide) bl2_ascii
  rw [mk_data, mk_data] at h
  exact h
theorem trimL_c (l : List UInt8) (_hl : l.length ≤ 1000000) (w : World) :
    Calls Tryz.prog 98 #[.string ⟨l.toArray⟩, .string ⟨bl2.toArray⟩] w fun e w' => e = .returned (.string ⟨(Lib.trimLeftS l bl2).toArray⟩) ∧ Below w.heap.size w w' := by
  have h := Any.strings_TrimLeft_ascii sh_lays161 ascii_zero ascii_size ⟨l.toArray⟩ ⟨bl2.toArray⟩ w (by decide) bl2_ascii
  rw [mk_data, mk_data] at h
  exact h
theorem trimR_c (l : List UInt8) (hl : l.length ≤ 1000000) (w : World) :
    Calls Tryz.prog 97 #[.string ⟨l.toArray⟩, .string ⟨bl2.toArray⟩] w fun e w' => e = .returned (.string ⟨(Lib.trimRightS l bl2).toArray⟩) ∧ Below w.heap.size w w' := by
  have h := Any.strings_TrimRight_ascii sh_lays162 ascii_zero ascii_size ⟨l.toArray⟩ ⟨bl2.toArray⟩ w (by rw [mk_size]; omega) (by decide) bl2_ascii
  rw [mk_data, mk_data] at h
  exact h
end Go.Proofs.YtcbfchkhbngpkaaGreatDoor
namespace Go.Proofs.YtcbfchkhbngpkaaGreatDoor
open Go.RowKit

/-- what a comparison of texts shows -/
theorem text_eq (S : ByteArray) (l k : List UInt8) (hS : ⟨l.toArray⟩ = S) (b : Bool) (h : decide (l = k) = b) : decide (S = ⟨k.toArray⟩) = b ∧ (S.toList == k) = b := by
  subst hS
  have e : (ByteArray.mk l.toArray = ⟨k.toArray⟩) ↔ l = k := by
    constructor
    · intro h; injection h with h; exact List.toArray_inj h
    · intro h; rw [h]
  refine ⟨?_, ?_⟩
  · rw [← h, Bool.eq_iff_iff, decide_eq_true_iff, decide_eq_true_iff]; exact e
  · rw [← h, Bool.eq_iff_iff, beq_iff_eq, decide_eq_true_iff, Lib.toList_data, mk_data]
theorem PsAt.later {base gp m m' : Nat} {W : World} {s : PsM} {line : Nat} {mv v : Value} {Bs : List Nat} (h : PsAt base gp m W s line mv v Bs) (hm : m ≤ m') : PsAt base gp m' W s line mv v Bs := ⟨h.ok, h.low, h.nd, h.nin, h.blk, h.peers, h.seen.mono hm⟩
set_option maxRecDepth 100000 in
set_option maxHeartbeats 8000000 in
theorem line_skip (w0 W : World) (gp m line : Nat) (s : PsM) (l : List UInt8) (hb0 : Below w0.heap.size w0 W) (hp : PsA w0.heap.size gp m W s line) (h : l = [] ∨ l.head? = some 35) :
    Calls Tryz.prog 70 #[.pointer (some ⟨gp, 0, none⟩), .string ⟨l.toArray⟩] W fun e W' => e = .returned (.tuple #[]) ∧ PsA w0.heap.size gp (m + 1) W' s line ∧ Below w0.heap.size w0 W' := by
  obtain ⟨mv, v, Bs, hp⟩ := hp
  have HP := Lib.hid (hp.later (Nat.le_succ m))
  have HB := Lib.hid hb0
  have HPF := Lib.hid (fun W => hasPrefix_c l [35] W)
  clear hp hb0
  by_cases h0 : l = []
  · subst h0
    go_enter Tryz.func70, Tryz.ntmps70
    go_wp2
    go_end0
    exact ⟨rfl, ⟨_, _, _, HP.out⟩, HB.out⟩
  · have hpf : ([35] : List UInt8).isPrefixOf l = true := by
      rcases h with h | h
      · exact absurd h h0
      · cases l with
        | nil => exact absurd rfl h0
        | cons a r =>
          simp only [List.head?_cons, Option.some.injEq] at h
          subst h
          rfl
    have HPT := Lib.hid hpf
    obtain ⟨S, hS⟩ : ∃ S : ByteArray, ⟨l.toArray⟩ = S := ⟨_, rfl⟩
    have hte := text_eq S l [] hS false (decide_eq_false h0)
    obtain ⟨q2, q3⟩ := hte
    have HS := Lib.hid hS
    rw [hS]
    clear h hpf hS h0
    go_enter Tryz.func70, Tryz.ntmps70
    go_wp2_with fail
    have hcall := HPF.out W
    rw [HPT.out, HS.out] at hcall
    refine hcall.mono ?_
    rintro e w2 ⟨rfl, hb⟩
    have HP2 := Lib.hid (HP.out.below hb)
    have HB2 := Lib.hid (HB.out.trans (hb.mono HB.out.size))
    clear hb hcall HPF
    go_wp2
    go_end0
    exact ⟨rfl, ⟨_, _, _, HP2.out⟩, HB2.out⟩
end Go.Proofs.YtcbfchkhbngpkaaGreatDoor
namespace Go.Proofs.YtcbfchkhbngpkaaGreatDoor
open Go.RowKit

set_option maxRecDepth 100000 in
set_option maxHeartbeats 8000000 in
theorem wrongPrefix_any (q : AddrM × Int) (hq : okP q) (w : World) :
    Calls Tryz.prog 61 #[.agg (prefC q.1 q.2).toArray] w fun e w' => e = .returned (.bool (!validM q.1 q.2)) ∧ Below w.heap.size w w' := by
  have HQ := Lib.hid hq
  have HVC := Lib.hid (fun W => valid_any q.1 q.2 hq.1 W)
  obtain ⟨cx, hcx⟩ : ∃ z, (prefC q.1 q.2).toArray = z := ⟨_, rfl⟩
  rw [hcx]
  obtain ⟨y, hy⟩ : ∃ y, validM q.1 q.2 = y := ⟨_, rfl⟩
  rw [hy]
  have HY := Lib.hid hy
  have HCX := Lib.hid hcx
  have HM := Lib.hid ((Lows.nil w).alloc 60 cx (prefC q.1 q.2) hcx.symm)
  clear hq hcx hy
  go_enter Tryz.func61, Tryz.ntmps61
  go_upto_region 1 with fail
  generalize w.alloc (.cells cx 60) = w1 at HM ⊢
  go_wp2_with ((with_reducible refine at_op (.load 60 (.tmp 1)) rfl ?_); refine wpList_load_obj rfl 60 (.tmp 1) rfl w.heap.size 0 rfl (prefC q.1 q.2) (HM.out.blk 0 rfl).all _ Tryz.underlying60 rfl (pref_cellsOf' q.1 HQ.out.1 q.2) ?_; rw [HCX.out])
  have hcall := HVC.out w1
  rw [HCX.out, HY.out] at hcall
  refine hcall.mono ?_
  rintro e w2 ⟨rfl, hb⟩
  have HB2 := Lib.hid (HM.out.bel.trans (hb.mono HM.out.size))
  clear hb HM HVC hcall
  go_wp2
  go_ret
  exact ⟨rfl, HB2.out⟩
set_option maxRecDepth 100000 in
set_option maxHeartbeats 8000000 in
theorem validKeep_any (n : Int) (w : World) :
    Calls Tryz.prog 59 #[.int .i64 n] w fun e w' => e = .returned (.bool (rightK n)) ∧ w' = w := by
  by_cases h0 : n = 0
  · subst h0
    go_enter Tryz.func59, Tryz.ntmps59
    go_wp2
    go_ret
    exact ⟨rfl, rfl⟩
  · have d0 : (n == 0) = false := beq_eq_false_iff_ne.2 h0
    by_cases h1 : 1000 ≤ n
    · have d1 : decide ((1000 : Int) ≤ n) = true := decide_eq_true h1
      by_cases h2 : n ≤ 1073741824
      · have d2 : decide (n ≤ 1073741824) = true := decide_eq_true h2
        have HR := Lib.hid (show rightK n = true from by rw [rightK, d0, d1, d2]; rfl)
        go_enter Tryz.func59, Tryz.ntmps59
        go_wp2
        go_ret
        exact ⟨by rw [HR.out]; rfl, rfl⟩
      · have d2 : decide (n ≤ 1073741824) = false := decide_eq_false h2
        have HR := Lib.hid (show rightK n = false from by rw [rightK, d0, d1, d2]; rfl)
        go_enter Tryz.func59, Tryz.ntmps59
        go_wp2
        go_ret
        exact ⟨by rw [HR.out]; rfl, rfl⟩
    · have d1 : decide ((1000 : Int) ≤ n) = false := decide_eq_false h1
      have HR := Lib.hid (show rightK n = false from by rw [rightK, d0, d1]; rfl)
      go_enter Tryz.func59, Tryz.ntmps59
      go_wp2
      go_ret
      exact ⟨by rw [HR.out]; rfl, rfl⟩
set_option maxRecDepth 100000 in
set_option maxHeartbeats 8000000 in
theorem prefFind_any (A : Option Addr) (n c : Nat) (cs : Nat → List Value) (p : Nat → Bool) (F : Nat) (hn : n ≤ 1000000) (hE : ∀ (args : Array Value) (W : World), (callFunc F args).run Tryz.prog W = .ok (.enter F args) W) (w : World)
    (hA : ∀ j, j < n → ∃ b off, A = some ⟨b, off, none⟩ ∧ (cs j).length = 18 ∧ b < w.heap.size ∧ At w b (off + j * 18) (cs j))
    (hf : ∀ j, j < n → ∀ W, Below w.heap.size w W → Calls Tryz.prog F #[.agg (cs j).toArray] W fun e W' => e = .returned (.bool (p j)) ∧ Below W.heap.size W W') :
    Calls Tryz.prog 81 #[.slice A n c, .func (.func F) #[] #[]] w fun e w' => e = .returned (.int .i64 (idxN p n)) ∧ Below w.heap.size w w' := by
  have HA := Lib.hid hA
  have HF := Lib.hid hf
  clear hA hf
  go_enter Tryz.func81, Tryz.ntmps81
  go_wp2_with fail
  go_loopw [8] (fun i wr => ∃ j : Nat, j ≤ n ∧ i = .int .i64 (j : Int) ∧ Below w.heap.size w wr ∧ ∀ q, q < j → p q = false) (fun i _ => n - (intOf i).toNat)
  case atStart => exact ⟨0, Nat.zero_le _, rfl, Below.refl _ _, fun q h => absurd h (Nat.not_lt_zero _)⟩
  case round =>
    obtain ⟨j, hj, rfl, hW, hno⟩ := hrel
    have HW := Lib.hid hW
    have HNO := Lib.hid hno
    clear hW hno
    by_cases hjn : j < n
    · have d1 : decide ((j : Int) < (n : Int)) = true := by simp; omega
      obtain ⟨b, off, rfl, hl, hbl, hat⟩ := HA.out j hjn
      have HLA := Lib.hid (show At wr b (off + j * 18) (cs j) from hat.mono HW.out hbl)
      have HU := Lib.hid (show (Tryz.prog.info? 60).map (·.size) = some (cs j).length from by rw [hl]; kernel_rfl)
      have hcall := HF.out j hjn wr HW.out
      obtain ⟨oc, hoc⟩ : ∃ z, (cs j).toArray = z := ⟨_, rfl⟩
      rw [hoc] at hcall
      obtain ⟨y, hy⟩ : ∃ y, p j = y := ⟨_, rfl⟩
      rw [hy] at hcall
      have HOC := Lib.hid hoc
      have HC := Lib.hid hcall
      have HY := Lib.hid hy
      clear hat hl hbl hcall hoc hy
      go_wp2_with ((with_reducible refine at_op (.load 60 (.tmp 14)) rfl ?_); refine wpList_load_obj rfl 60 (.tmp 14) rfl b _ rfl (cs j) HLA.out _ Tryz.underlying60 rfl HU.out ?_; rw [HOC.out])
      refine HC.out.mono ?_
      rintro e w2 ⟨rfl, hb⟩
      have HW2 := Lib.hid (HW.out.trans (hb.mono HW.out.size))
      clear hb HW HC HLA
      cases y with
      | true =>
        go_wp2
        go_ret
        exact ⟨by rw [idxN_some hjn HY.out HNO.out]; rfl, HW2.out⟩
      | false =>
        go_wp2_with fail
        go_roundw
        case rel => exact ⟨j + 1, by omega, by go_num, HW2.out, fun q hq => by
          rcases Nat.lt_or_ge q j with h | h
          · exact HNO.out q h
          · obtain rfl : q = j := by omega
            exact HY.out⟩
        case measure => simp [intOf]; omega
    · obtain rfl : j = n := by omega
      have d1 : decide ((j : Int) < (j : Int)) = false := by simp
      have HF2 := Lib.hid HW.out
      have HX := Lib.hid (idxN_none HNO.out)
      clear HW HNO
      go_wp2
      go_ret
      exact ⟨by rw [HX.out]; rfl, HF2.out⟩
set_option maxRecDepth 100000 in
set_option maxHeartbeats 8000000 in
theorem prefAny_any (A : Option Addr) (n c : Nat) (cs : Nat → List Value) (p : Nat → Bool) (F : Nat) (hn : n ≤ 1000000) (hE : ∀ (args : Array Value) (W : World), (callFunc F args).run Tryz.prog W = .ok (.enter F args) W) (w : World)
    (hA : ∀ j, j < n → ∃ b off, A = some ⟨b, off, none⟩ ∧ (cs j).length = 18 ∧ b < w.heap.size ∧ At w b (off + j * 18) (cs j))
    (hf : ∀ j, j < n → ∀ W, Below w.heap.size w W → Calls Tryz.prog F #[.agg (cs j).toArray] W fun e W' => e = .returned (.bool (p j)) ∧ Below W.heap.size W W') :
    Calls Tryz.prog 60 #[.slice A n c, .func (.func F) #[] #[]] w fun e w' => e = .returned (.bool ((List.range n).any p)) ∧ Below w.heap.size w w' := by
  have HI := Lib.hid (prefFind_any A n c cs p F hn hE w hA hf)
  have hge := idxN_ge p n
  obtain ⟨q, hq⟩ : ∃ q, idxN p n = q := ⟨_, rfl⟩
  obtain ⟨y, hy⟩ : ∃ y, (List.range n).any p = y := ⟨_, rfl⟩
  rw [hq] at HI
  rw [hq, hy] at hge
  rw [hy]
  have HGE := Lib.hid hge
  clear hA hf hge hq hy
  go_enter Tryz.func60, Tryz.ntmps60
  go_wp2_with fail
  refine HI.out.mono ?_
  rintro e w2 ⟨rfl, hb⟩
  have HB := Lib.hid hb
  have hd : decide (q ≥ 0) = y := HGE.out
  clear hb HI
  go_wp2
  go_ret
  exact ⟨by first | rfl | rw [← HGE.out]; rfl, HB.out⟩
set_option maxRecDepth 100000 in
set_option maxHeartbeats 8000000 in
theorem peerFind_any (A : Option Addr) (n c : Nat) (cs : Nat → List Value) (p : Nat → Bool) (F : Nat) (hn : n ≤ 1000000) (hE : ∀ (args : Array Value) (W : World), (callFunc F args).run Tryz.prog W = .ok (.enter F args) W) (w : World)
    (hA : ∀ j, j < n → ∃ b off, A = some ⟨b, off, none⟩ ∧ (cs j).length = 85 ∧ b < w.heap.size ∧ At w b (off + j * 85) (cs j))
    (hf : ∀ j, j < n → ∀ W, Below w.heap.size w W → Calls Tryz.prog F #[.agg (cs j).toArray] W fun e W' => e = .returned (.bool (p j)) ∧ Below W.heap.size W W') :
    Calls Tryz.prog 57 #[.slice A n c, .func (.func F) #[] #[]] w fun e w' => e = .returned (.int .i64 (idxN p n)) ∧ Below w.heap.size w w' := by
  have HA := Lib.hid hA
  have HF := Lib.hid hf
  clear hA hf
  go_enter Tryz.func57, Tryz.ntmps57
  go_wp2_with fail
  go_loopw [8] (fun i wr => ∃ j : Nat, j ≤ n ∧ i = .int .i64 (j : Int) ∧ Below w.heap.size w wr ∧ ∀ q, q < j → p q = false) (fun i _ => n - (intOf i).toNat)
  case atStart => exact ⟨0, Nat.zero_le _, rfl, Below.refl _ _, fun q h => absurd h (Nat.not_lt_zero _)⟩
  case round =>
    obtain ⟨j, hj, rfl, hW, hno⟩ := hrel
    have HW := Lib.hid hW
    have HNO := Lib.hid hno
    clear hW hno
    by_cases hjn : j < n
    · have d1 : decide ((j : Int) < (n : Int)) = true := by simp; omega
      obtain ⟨b, off, rfl, hl, hbl, hat⟩ := HA.out j hjn
      have HLA := Lib.hid (show At wr b (off + j * 85) (cs j) from hat.mono HW.out hbl)
      have HU := Lib.hid (show (Tryz.prog.info? 57).map (·.size) = some (cs j).length from by rw [hl]; kernel_rfl)
      have hcall := HF.out j hjn wr HW.out
      obtain ⟨oc, hoc⟩ : ∃ z, (cs j).toArray = z := ⟨_, rfl⟩
      rw [hoc] at hcall
      obtain ⟨y, hy⟩ : ∃ y, p j = y := ⟨_, rfl⟩
      rw [hy] at hcall
      have HOC := Lib.hid hoc
      have HC := Lib.hid hcall
      have HY := Lib.hid hy
      clear hat hl hbl hcall hoc hy
      go_wp2_with ((with_reducible refine at_op (.load 57 (.tmp 14)) rfl ?_); refine wpList_load_obj rfl 57 (.tmp 14) rfl b _ rfl (cs j) HLA.out _ Tryz.underlying57 rfl HU.out ?_; rw [HOC.out])
      refine HC.out.mono ?_
      rintro e w2 ⟨rfl, hb⟩
      have HW2 := Lib.hid (HW.out.trans (hb.mono HW.out.size))
      clear hb HW HC HLA
      cases y with
      | true =>
        go_wp2
        go_ret
        exact ⟨by rw [idxN_some hjn HY.out HNO.out]; rfl, HW2.out⟩
      | false =>
        go_wp2_with fail
        go_roundw
        case rel => exact ⟨j + 1, by omega, by go_num, HW2.out, fun q hq => by
          rcases Nat.lt_or_ge q j with h | h
          · exact HNO.out q h
          · obtain rfl : q = j := by omega
            exact HY.out⟩
        case measure => simp [intOf]; omega
    · obtain rfl : j = n := by omega
      have d1 : decide ((j : Int) < (j : Int)) = false := by simp
      have HF2 := Lib.hid HW.out
      have HX := Lib.hid (idxN_none HNO.out)
      clear HW HNO
      go_wp2
      go_ret
      exact ⟨by rw [HX.out]; rfl, HF2.out⟩
set_option maxRecDepth 100000 in
set_option maxHeartbeats 8000000 in
theorem peerAny_any (A : Option Addr) (n c : Nat) (cs : Nat → List Value) (p : Nat → Bool) (F : Nat) (hn : n ≤ 1000000) (hE : ∀ (args : Array Value) (W : World), (callFunc F args).run Tryz.prog W = .ok (.enter F args) W) (w : World)
    (hA : ∀ j, j < n → ∃ b off, A = some ⟨b, off, none⟩ ∧ (cs j).length = 85 ∧ b < w.heap.size ∧ At w b (off + j * 85) (cs j))
    (hf : ∀ j, j < n → ∀ W, Below w.heap.size w W → Calls Tryz.prog F #[.agg (cs j).toArray] W fun e W' => e = .returned (.bool (p j)) ∧ Below W.heap.size W W') :
    Calls Tryz.prog 32 #[.slice A n c, .func (.func F) #[] #[]] w fun e w' => e = .returned (.bool ((List.range n).any p)) ∧ Below w.heap.size w w' := by
  have HI := Lib.hid (peerFind_any A n c cs p F hn hE w hA hf)
  have hge := idxN_ge p n
  obtain ⟨q, hq⟩ : ∃ q, idxN p n = q := ⟨_, rfl⟩
  obtain ⟨y, hy⟩ : ∃ y, (List.range n).any p = y := ⟨_, rfl⟩
  rw [hq] at HI
  rw [hq, hy] at hge
  rw [hy]
  have HGE := Lib.hid hge
  clear hA hf hge hq hy
  go_enter Tryz.func32, Tryz.ntmps32
  go_wp2_with fail
  refine HI.out.mono ?_
  rintro e w2 ⟨rfl, hb⟩
  have HB := Lib.hid hb
  have hd : decide (q ≥ 0) = y := HGE.out
  clear hb HI
  go_wp2
  go_ret
  exact ⟨by first | rfl | rw [← HGE.out]; rfl, HB.out⟩
end Go.Proofs.YtcbfchkhbngpkaaGreatDoor
namespace Go.Proofs.YtcbfchkhbngpkaaGreatDoor
open Go.RowKit

theorem end_lits (D : Nat) (a : AddrM) (h : a.ok) (q : Int) (hq : inI64 q) : LitsAt Tryz.prog (D + 4) 55 (prefC a q) := by
  refine lits_struct Tryz.underlying55 (prefC a q) ?_ (by simp) ?_
  · rw [prefC_length a h q]; kernel_rfl
  · intro f hf
    simp only [List.mem_cons, List.not_mem_nil, or_false] at hf
    rcases hf with rfl | rfl
    · have e : ((prefC a q).drop 0).take (Tryz.prog.cellsOf 53) = a.cells := by
        rw [show Tryz.prog.cellsOf 53 = 17 by kernel_rfl]
        exact prefC_addr a h q
      exact e ▸ addr_lits D _ h
    · have e : ((prefC a q).drop 17).take (Tryz.prog.cellsOf 3) = [.int .i64 q] := by
        rw [show Tryz.prog.cellsOf 3 = 1 by kernel_rfl, prefC, List.drop_left' (AddrM.cells_length h)]; rfl
      exact e ▸ lits_int Tryz.underlying3 _ ⟨by simp [IntKind.min, IntKind.signed, IntKind.bits]; exact hq.1, by simp [IntKind.max, IntKind.signed, IntKind.bits]; exact hq.2⟩
theorem end_eqd (a b : AddrM) (i j : Int) (ha : a.ok) (hb : b.ok) (hi : inI64 i) (hj : inI64 j) (w : World) : (Op.equalIn 10000 55 (.agg (prefC a i).toArray) (.agg (prefC b j).toArray)).run Tryz.prog w = .ok (decide (a = b ∧ i = j)) w :=
  eq_obj 7 4 55 (by omega) (by kernel_rfl) (by kernel_rfl) (prefC a i) (prefC b j) (end_lits 0 a ha i hi) (end_lits 0 b hb j hj) _ Tryz.underlying55 rfl (by rw [prefC_length a ha]; kernel_rfl) (by rw [prefC_length b hb]; kernel_rfl) _ (by rw [decide_eq_true_iff, prefC_inj ha hb]) w
theorem peer_has {w : World} {g off : Nat} {p : PeerM} {v : Value} (h : At w g off (p.cells v)) (hp : p.ok) : w.cell? ⟨g, off + 64, none⟩ = some (.bool p.hasE) := h 64 _ (by
  rw [PeerM.cells, List.getElem?_append_right (by rw [List.length_map, hp.1]; decide), List.length_map, hp.1, List.getElem?_append_right (by rw [List.length_map, hp.2.1]; decide), List.length_map, hp.2.1]; rfl)
theorem peer_end {w : World} {g off : Nat} {p : PeerM} {v : Value} (h : At w g off (p.cells v)) (hp : p.ok) : At w g (off + 65) (prefC p.ea p.ep) := fun j u hj => by
  rw [Nat.add_assoc]
  refine h (65 + j) u ?_
  rw [PeerM.cells, List.getElem?_append_right (by rw [List.length_map, hp.1]; omega), List.length_map, hp.1, List.getElem?_append_right (by rw [List.length_map, hp.2.1]; omega), List.length_map, hp.2.1, show 65 + j - 32 - 32 = j + 1 by omega, List.getElem?_cons_succ, List.getElem?_append_left (List.getElem?_eq_some_iff.1 hj).1]
  exact hj
theorem peer_keep {w : World} {g off : Nat} {p : PeerM} {v : Value} (h : At w g off (p.cells v)) (hp : p.ok) : w.cell? ⟨g, off + 83, none⟩ = some (.int .i64 p.keep) := h 83 _ (by
  rw [PeerM.cells, List.getElem?_append_right (by rw [List.length_map, hp.1]; decide), List.length_map, hp.1, List.getElem?_append_right (by rw [List.length_map, hp.2.1]; decide), List.length_map, hp.2.1, show 83 - 32 - 32 = 18 + 1 from rfl, List.getElem?_cons_succ, List.getElem?_append_right (by rw [prefC_length p.ea hp.2.2.1]; decide), prefC_length p.ea hp.2.2.1]; rfl)
set_option maxRecDepth 100000 in
set_option maxHeartbeats 8000000 in
theorem validEnd_any (p : PeerM) (v : Value) (hp : p.ok) (w : World) (hlv : LvCf w) :
    Calls Tryz.prog 58 #[.agg (p.cells v).toArray] w fun e w' => e = .returned (.bool (rightE p)) ∧ Below w.heap.size w w' := by
  have HP := Lib.hid hp
  obtain ⟨cx, hcx⟩ : ∃ z, (p.cells v).toArray = z := ⟨_, rfl⟩
  rw [hcx]
  have HM := Lib.hid ((Lows.nil w).alloc 57 cx (p.cells v) hcx.symm)
  have HFE := Lib.hid (fun W (hb : Below w.heap.size w W) => fmtEnd_any p.ea hp.2.2.1 p.ep hp.2.2.2.1.1 hp.2.2.2.1.2 W (hlv.below hb))
  clear hp hcx hlv
  obtain ⟨ce, hce⟩ : ∃ z, (prefC p.ea p.ep).toArray = z := ⟨_, rfl⟩
  have HCE := Lib.hid hce
  clear hce
  obtain ⟨g, hg⟩ : ∃ g, w.heap.size = g := ⟨_, rfl⟩
  have HG := Lib.hid hg
  have HM2 := Lib.hid (show Lows w [blkL g 57 (p.cells v)] (w.alloc (.cells cx 57)) from by have h := HM.out; rwa [hg] at h)
  have fb := peer_has (HM2.out.blk 0 rfl).all HP.out
  obtain ⟨u, hu⟩ : ∃ u, p.hasE = u := ⟨_, rfl⟩
  rw [hu] at fb
  go_enter Tryz.func58, Tryz.ntmps58
  go_upto_region 1 with fail
  generalize w.alloc (.cells cx 57) = w1 at HM2 fb ⊢
  clear HM hg
  cases u with
  | true =>
    have HR := Lib.hid (show rightE p = !(endT p.ea p.ep).isEmpty from by rw [rightE, hu]; rfl)
    clear hu
    go_upto_region 2 with fail
    clear fb
    go_wp2_with ((with_reducible refine at_op (.load 55 (.tmp 5)) rfl ?_); refine wpList_load_obj rfl 55 (.tmp 5) rfl g _ rfl _ (peer_end (HM2.out.blk 0 rfl).all HP.out) _ Tryz.underlying55 rfl (end_cellsOf p.ea HP.out.2.2.1 p.ep) ?_; rw [HCE.out])
    have hcall := HFE.out w1 HM2.out.bel
    rw [HCE.out] at hcall
    obtain ⟨t, ht⟩ : ∃ t, endT p.ea p.ep = t := ⟨_, rfl⟩
    rw [ht] at hcall HR
    obtain ⟨TT, hT⟩ : ∃ S : ByteArray, ⟨t.toArray⟩ = S := ⟨_, rfl⟩
    rw [hT] at hcall
    obtain ⟨q2, q3⟩ := text_eq TT t [] hT _ rfl
    obtain ⟨y, hy⟩ : ∃ y, decide (t = []) = y := ⟨_, rfl⟩
    rw [hy] at q2 q3
    have HRY := Lib.hid (show rightE p = !y from by rw [HR.out, ← hy]; cases t <;> rfl)
    refine hcall.mono ?_
    rintro e w2 ⟨rfl, hb⟩
    have HB2 := Lib.hid (HM2.out.bel.trans (hb.mono HM2.out.size))
    clear hb HM2 HFE hcall HR hy hT ht
    go_wp2
    go_ret
    exact ⟨by rw [HRY.out]; rfl, HB2.out⟩
  | false =>
    have HR := Lib.hid (show rightE p = decide (p.ea = addr0 ∧ p.ep = 0) from by rw [rightE, hu]; rfl)
    have heq := fun W => end_eqd p.ea addr0 p.ep 0 HP.out.2.2.1 addr0_ok HP.out.2.2.2.1 ⟨by decide, by decide⟩ W
    rw [HCE.out, ← HR.out] at heq
    obtain ⟨y, hy⟩ : ∃ y, rightE p = y := ⟨_, rfl⟩
    simp only [hy] at heq
    have HY := Lib.hid hy
    have HEQ := Lib.hid heq
    clear hu heq hy
    go_upto_region 3 with fail
    clear fb
    go_wp2_with (first | ((with_reducible refine at_op (.load 55 (.tmp 9)) rfl ?_); refine wpList_load_obj rfl 55 (.tmp 9) rfl g _ rfl _ (peer_end (HM2.out.blk 0 rfl).all HP.out) _ Tryz.underlying55 rfl (end_cellsOf p.ea HP.out.2.2.1 p.ep) ?_; rw [HCE.out]) | (refine wpList_build_as rfl 55 [] rfl (prefC addr0 0).toArray ?_ ?_; kernel_rfl) | (refine wpList_eql_agg (by rfl) 55 _ 10 11 rfl ce (prefC addr0 0).toArray y rfl rfl end_noguard (HEQ.out _) ?_))
    go_ret
    exact ⟨by rw [HY.out]; rfl, HM2.out.bel⟩
set_option maxRecDepth 100000 in
set_option maxHeartbeats 8000000 in
theorem wrongPeer_any (p : PeerM) (A : Option Addr) (c : Nat) (hp : p.ok) (hn : p.al.length ≤ 1000000) (w : World) (hlv : LvCf w) (hr : PfRd w w.heap.size A p.al.length p.al) :
    Calls Tryz.prog 33 #[.agg (p.cells (.slice A p.al.length c)).toArray] w fun e w' => e = .returned (.bool (!rightP p)) ∧ Below w.heap.size w w' := by
  have HP := Lib.hid hp
  have hany := fun W (hb : Below w.heap.size w W) => prefAny_any A p.al.length c (fun j => match p.al[j]? with | none => [] | some q => prefC q.1 q.2) (fun j => p.al[j]?.any fun q => !validM q.1 q.2) 61 hn (enters_of Tryz.func61 (by kernel_rfl) rfl) W (fun j hj => by
    obtain ⟨b, off, rfl⟩ := hr.1.addr (by omega)
    have hq : p.al[j]? = some p.al[j] := List.getElem?_eq_getElem hj
    have hat := ((hr.below hb).mono hb.size).at j _ hq
    refine ⟨b, off, rfl, ?_⟩
    simp only [hq]
    exact ⟨prefC_length _ (hr.ok hq).1 _, hat.1, hat.2⟩) (fun j hj W' hb' => by
    have hq : p.al[j]? = some p.al[j] := List.getElem?_eq_getElem hj
    simp only [hq, Option.any_some]
    exact wrongPrefix_any _ (hr.ok hq) W')
  have hsum : (List.range p.al.length).any (fun j => p.al[j]?.any fun q => !validM q.1 q.2) = !p.al.all fun q => validM q.1 q.2 := by
    rw [Bool.eq_iff_iff, List.any_eq_true, Bool.not_eq_true', ← Bool.not_eq_true, List.all_eq_true]
    constructor
    · rintro ⟨j, hj, h⟩ hall
      have hq : p.al[j]? = some (p.al[j]'(List.mem_range.1 hj)) := List.getElem?_eq_getElem _
      rw [hq, Option.any_some, hall _ (List.getElem_mem _)] at h
      cases h
    · intro h
      rw [Classical.not_forall] at h
      obtain ⟨q, hq⟩ := h
      rw [Classical.not_imp] at hq
      obtain ⟨j, hj, e⟩ := List.getElem_of_mem hq.1
      refine ⟨j, List.mem_range.2 hj, ?_⟩
      rw [List.getElem?_eq_getElem hj, Option.any_some, e]
      simpa using hq.2
  obtain ⟨z, hz⟩ : ∃ z, (p.al.all fun q => validM q.1 q.2) = z := ⟨_, rfl⟩
  rw [hsum, hz] at hany
  have HANY := Lib.hid hany
  have hve := fun W (hb : Below w.heap.size w W) => validEnd_any p (.slice A p.al.length c) hp W (hlv.below hb)
  have hrp : rightP p = (rightE p && rightK p.keep && z) := by rw [rightP, hz]
  obtain ⟨x, hx⟩ : ∃ x, rightE p = x := ⟨_, rfl⟩
  obtain ⟨y, hy⟩ : ∃ y, rightK p.keep = y := ⟨_, rfl⟩
  rw [hx] at hve
  have hvk := fun W => validKeep_any p.keep W
  rw [hy] at hvk
  rw [hrp, hx, hy]
  obtain ⟨cx, hcx⟩ : ∃ z, (p.cells (.slice A p.al.length c)).toArray = z := ⟨_, rfl⟩
  rw [hcx] at hve ⊢
  have HVE := Lib.hid hve
  have HVK := Lib.hid hvk
  have HCX := Lib.hid hcx
  have HM := Lib.hid ((Lows.nil w).alloc 57 cx (p.cells (.slice A p.al.length c)) hcx.symm)
  clear hp hn hlv hr hany hsum hz hve hvk hrp hx hy hcx
  obtain ⟨n, hn⟩ : ∃ n, p.al.length = n := ⟨_, rfl⟩
  rw [hn] at HANY HM HCX
  obtain ⟨g, hg⟩ : ∃ g, w.heap.size = g := ⟨_, rfl⟩
  have HM2 := Lib.hid (show Lows w [blkL g 57 (p.cells (.slice A n c))] (w.alloc (.cells cx 57)) from by have h := HM.out; rwa [hg] at h)
  go_enter Tryz.func33, Tryz.ntmps33
  go_upto_region 1 with fail
  generalize w.alloc (.cells cx 57) = w1 at HM2 ⊢
  clear HM hg
  go_wp2_with ((with_reducible refine at_op (.load 57 (.tmp 1)) rfl ?_); refine wpList_load_obj rfl 57 (.tmp 1) rfl g 0 rfl _ (HM2.out.blk 0 rfl).all _ Tryz.underlying57 rfl (peer_cellsOf p HP.out _) ?_; rw [HCX.out])
  refine (HVE.out w1 HM2.out.bel).mono ?_
  rintro e w2 ⟨rfl, hb⟩
  replace HM2 := Lib.hid (HM2.out.below hb)
  clear hb HVE
  cases x with
  | false =>
    go_wp2
    go_ret
    exact ⟨rfl, HM2.out.bel⟩
  | true =>
    have fk := peer_keep (HM2.out.blk 0 rfl).all HP.out
    have fa := peer_al (HM2.out.blk 0 rfl) HP.out
    go_wp2_with fail
    refine (HVK.out _).mono ?_
    rintro e w3 ⟨rfl, rfl⟩
    cases y with
    | false =>
      go_wp2
      go_ret
      exact ⟨rfl, HM2.out.bel⟩
    | true =>
      go_wp2_with fail
      refine (HANY.out w3 HM2.out.bel).mono ?_
      rintro e w4 ⟨rfl, hb⟩
      have HB4 := Lib.hid (HM2.out.bel.trans (hb.mono HM2.out.size))
      clear hb HM2 HANY fk fa
      go_wp2
      go_ret
      exact ⟨by simp, HB4.out⟩
end Go.Proofs.YtcbfchkhbngpkaaGreatDoor
namespace Go.Proofs.YtcbfchkhbngpkaaGreatDoor
open Go.RowKit

theorem conf_port {w : World} {g off : Nat} {c : ConfM} {v : Value} (h : At w g off (c.cells v)) (hc : c.ok) : w.cell? ⟨g, off + 32, none⟩ = some (.int .i64 c.port) := h 32 _ (by
  rw [ConfM.cells, List.getElem?_append_right (by rw [List.length_map, hc.1]; decide), List.length_map, hc.1]; rfl)
theorem conf_peers {w : World} {g off : Nat} {c : ConfM} {v : Value} (h : At w g off (c.cells v)) (hc : c.ok) : w.cell? ⟨g, off + 33, none⟩ = some v := h 33 _ (by
  rw [ConfM.cells, List.getElem?_append_right (by rw [List.length_map, hc.1]; decide), List.length_map, hc.1]; rfl)
theorem conf_one (c : ConfM) (A : Option Addr) (n cap : Nat) : ∀ v ∈ c.cells (.slice A n cap), v.oneCell' = true := by
  intro v hv
  simp only [ConfM.cells, List.mem_append, List.mem_cons, List.mem_map, List.not_mem_nil, or_false] at hv
  rcases hv with ⟨x, _, rfl⟩ | rfl | rfl <;> rfl
theorem conf_cellsOf (c : ConfM) (h : c.ok) (v : Value) : (Tryz.prog.info? 27).map (·.size) = some (c.cells v).length := by
  rw [ConfM.cells_length h]; kernel_rfl
theorem any_not_all {α : Type} (l : List α) (f : α → Bool) : (List.range l.length).any (fun j => l[j]?.any fun q => !f q) = !l.all f := by
  rw [Bool.eq_iff_iff, List.any_eq_true, Bool.not_eq_true', ← Bool.not_eq_true, List.all_eq_true]
  constructor
  · rintro ⟨j, hj, h⟩ hall
    have hq : l[j]? = some (l[j]'(List.mem_range.1 hj)) := List.getElem?_eq_getElem _
    rw [hq, Option.any_some, hall _ (List.getElem_mem _)] at h
    cases h
  · intro h
    rw [Classical.not_forall] at h
    obtain ⟨q, hq⟩ := h
    rw [Classical.not_imp] at hq
    obtain ⟨j, hj, e⟩ := List.getElem_of_mem hq.1
    refine ⟨j, List.mem_range.2 hj, ?_⟩
    rw [List.getElem?_eq_getElem hj, Option.any_some, e]
    simpa using hq.2
set_option maxRecDepth 100000 in
set_option maxHeartbeats 8000000 in
theorem validate_any (c : ConfM) (A : Option Addr) (n cap : Nat) (w : World) (hc : c.ok) (hr : PeRd w w.heap.size A n c.peers) (hn : n ≤ 1000) (ha : ∀ p ∈ c.peers, p.al.length ≤ 1000) (hlv : LvCf w) :
    Calls Tryz.prog 11 #[.agg (c.cells (.slice A n cap)).toArray] w fun e w' => e = .returned (.int .i64 (validE c : Int)) ∧ Below w.heap.size w w' := by
  have hlen := hr.len
  have hco := fun W (hb : Below w.heap.size w W) => collect_any A n cap c.peers W ((hr.below hb).mono hb.size) hn ha
  have hfi : ∀ W, Below w.heap.size w W → Calls Tryz.prog 32 #[.slice A n cap, .func (.func 33) #[] #[]] W fun e w' => e = .returned (.bool ((List.range n).any (fun j => c.peers[j]?.any fun q => !rightP q))) ∧ Below W.heap.size W w' := fun W hb => by
    have hr2 := (hr.below hb).mono hb.size
    obtain ⟨vs, h1, h2, h3, h4⟩ := hr2
    have hcs : ∀ j, j < n → ∃ p x, c.peers[j]? = some p ∧ vs[j]? = some x ∧ (peersV c.peers vs)[j]? = some (p.cells x) := fun j hj =>
      ⟨_, _, List.getElem?_eq_getElem (by omega), List.getElem?_eq_getElem (by omega), peersV_at (List.getElem?_eq_getElem (by omega)) (List.getElem?_eq_getElem (by omega))⟩
    exact peerAny_any A n cap (fun j => ((peersV c.peers vs)[j]?).getD []) (fun j => c.peers[j]?.any fun q => !rightP q) 33 (by omega) (enters_of Tryz.func33 (by kernel_rfl) rfl) W (fun j hj => by
      obtain ⟨p, x, e1, e2, e3⟩ := hcs j hj
      obtain ⟨b, off, rfl⟩ := h2.addr (by omega)
      have hat := h2.at j _ e3
      refine ⟨b, off, rfl, ?_⟩
      simp only [e3, Option.getD_some]
      exact ⟨PeerM.cells_length (h3 p (List.mem_of_getElem? e1)) x, hat.1, hat.2⟩) (fun j hj W' hb' => by
      obtain ⟨p, x, e1, e2, e3⟩ := hcs j hj
      obtain ⟨A', c', rfl, _, _, hpf⟩ := h4 j p x e1 e2
      have hpk := h3 p (List.mem_of_getElem? e1)
      have hal := ha p (List.mem_of_getElem? e1)
      simp only [e3, Option.getD_some, e1, Option.any_some]
      exact wrongPeer_any p A' c' hpk (by omega) W' ((hlv.below hb).below hb') ((hpf.below hb').mono hb'.size))
  have hany := any_not_all c.peers rightP
  rw [hlen] at hany
  simp only [hany] at hfi
  have hale := alls_le ha
  obtain ⟨m, hm⟩ : ∃ m, (alls c.peers).length = m := ⟨_, rfl⟩
  simp only [hm] at hco
  have hkr := fun (A' : Option Addr) (c' : Nat) W (h1 : RdRow W W.heap.size A' 32 n (pubsV c.peers)) (hcc : n ≤ c') => keyRep_any A' n c' (c.peers.map PeerM.pub) W (by rw [List.map_map]; exact h1) (fun z hz => by
    obtain ⟨p, hp, rfl⟩ := List.mem_map.1 hz
    exact (hc.2.2 p hp).1) (by omega) hcc
  have hpr := fun (A' : Option Addr) (c' : Nat) W (h1 : PfRd W W.heap.size A' m (alls c.peers)) (hcc : m ≤ c') => prefRep_any A' m c' (alls c.peers) W h1.1 (fun z hz => by
    obtain ⟨p, hp, hz2⟩ := List.mem_flatMap.1 hz
    exact (hc.2.2 p hp).2.2.2.2.2 z hz2) (by omega) hcc
  have hve : validE c = if 8 < n ∨ 16 < m then 12 else if c.port < 0 ∨ 65535 < c.port ∨ c.peers.all rightP = false then 1 else if repM eqK (c.peers.map PeerM.pub) = true ∨ repM eqP (alls c.peers) = true then 19 else 0 := by
    rw [validE, hlen, show allP c = alls c.peers from rfl, hm]
  obtain ⟨z, hz⟩ : ∃ z, c.peers.all rightP = z := ⟨_, rfl⟩
  obtain ⟨r1, hr1⟩ : ∃ z, repM eqK (c.peers.map PeerM.pub) = z := ⟨_, rfl⟩
  obtain ⟨r2, hr2⟩ : ∃ z, repM eqP (alls c.peers) = z := ⟨_, rfl⟩
  rw [hz, hr1, hr2] at hve
  simp only [hz] at hfi
  simp only [hr1] at hkr
  simp only [hr2] at hpr
  obtain ⟨cx, hcx⟩ : ∃ z, (c.cells (.slice A n cap)).toArray = z := ⟨_, rfl⟩
  rw [hcx]
  have HC := Lib.hid hc
  have HCO := Lib.hid hco
  have HFI := Lib.hid hfi
  have HKR := Lib.hid hkr
  have HPR := Lib.hid hpr
  have HV0 := Lib.hid hve
  have HMN := Lib.hid (show n ≤ 1000 ∧ m ≤ 1000000 from by omega)
  have HAL := Lib.hid (show (∀ p ∈ c.peers, p.pub.length = 32) ∧ (∀ q ∈ alls c.peers, okP q) ∧ c.peers.length = n ∧ (alls c.peers).length = m from ⟨fun p hp => (hc.2.2 p hp).1, fun q hq => by
    obtain ⟨p, hp, hz2⟩ := List.mem_flatMap.1 hq
    exact (hc.2.2 p hp).2.2.2.2.2 q hz2, hlen, hm⟩)
  have HM0 := Lib.hid ((Lows.nil w).alloc 27 cx (c.cells (.slice A n cap)) hcx.symm)
  clear hc hr hn ha hlv hco hfi hany hale hm hkr hpr hve hz hr1 hr2 hcx hlen
  obtain ⟨g, hg⟩ : ∃ g, w.heap.size = g := ⟨_, rfl⟩
  have HM := Lib.hid (show Lows w [blkL g 27 (c.cells (.slice A n cap))] (w.alloc (.cells cx 27)) from by have h := HM0.out; rwa [hg] at h)
  have fp := conf_port (HM.out.blk 0 rfl).all HC.out
  have fs := conf_peers (HM.out.blk 0 rfl).all HC.out
  go_enter Tryz.func11, Tryz.ntmps11
  go_upto_region 1 with fail
  generalize w.alloc (.cells cx 27) = w1 at HM fp fs ⊢
  clear HM0 hg
  go_wp2_with fail
  refine (HCO.out w1 HM.out.bel).mono ?_
  rintro e w2 ⟨v1, v2, rfl, hT, hb⟩
  obtain ⟨A1, c1, rfl, hc1, _, _⟩ := own_sliceK hT.1
  obtain ⟨A2, c2, rfl, hc2, _, _⟩ := own_sliceK hT.2.1
  have HR1 := Lib.hid (show RdRow w2 w2.heap.size A1 32 n (pubsV c.peers) from RdRow.of_own (by rw [pubsV, List.length_map, HAL.out.2.2.1]) (fun o ho => by
    obtain ⟨p, hp, rfl⟩ := List.mem_map.1 ho
    rw [List.length_map, HAL.out.1 p hp]) hT.1)
  have hT2 := hT.2.1
  have HR2 := Lib.hid (show PfRd w2 w2.heap.size A2 m (alls c.peers) from PfRd.of_own HAL.out.2.2.2 HAL.out.2.1 hT2)
  replace HM := Lib.hid (HM.out.below hb)
  have HCC := Lib.hid (And.intro hc1 hc2)
  clear hT hT2 hb HCO fp fs hc1 hc2
  have fp := conf_port (HM.out.blk 0 rfl).all HC.out
  have fs := conf_peers (HM.out.blk 0 rfl).all HC.out
  by_cases h8 : 8 < n
  · have d8 : decide ((n : Int) > 8) = true := by simp; omega
    have d8' : decide (8 < n) = true := decide_eq_true h8
    have HVE := Lib.hid (show validE c = 12 from HV0.out.trans (if_pos (.inl h8)))
    go_wp2
    go_ret
    exact ⟨by rw [HVE.out]; rfl, HM.out.bel⟩
  · have d8 : decide ((n : Int) > 8) = false := by simp; omega
    have d8' : decide (8 < n) = false := decide_eq_false h8
    by_cases h16 : 16 < m
    · have d16 : decide ((m : Int) > 16) = true := by simp; omega
      have d16' : decide (16 < m) = true := decide_eq_true h16
      have HVE := Lib.hid (show validE c = 12 from HV0.out.trans (if_pos (.inr h16)))
      go_wp2
      go_ret
      exact ⟨by rw [HVE.out]; rfl, HM.out.bel⟩
    · have d16 : decide ((m : Int) > 16) = false := by simp; omega
      have d16' : decide (16 < m) = false := decide_eq_false h16
      replace HV0 := Lib.hid (HV0.out.trans (if_neg (by omega)))
      obtain ⟨q, hq⟩ : ∃ q, c.port = q := ⟨_, rfl⟩
      rw [hq] at fp HV0
      clear hq
      by_cases hp0 : q < 0
      · have p0 : decide (q < 0) = true := decide_eq_true hp0
        have HVE := Lib.hid (show validE c = 1 from HV0.out.trans (if_pos (.inl hp0)))
        go_wp2
        go_ret
        exact ⟨by rw [HVE.out]; rfl, HM.out.bel⟩
      · have p0 : decide (q < 0) = false := decide_eq_false hp0
        by_cases hp1 : 65535 < q
        · have p1 : decide (q > 65535) = true := decide_eq_true hp1
          have HVE := Lib.hid (show validE c = 1 from HV0.out.trans (if_pos (.inr (.inl hp1))))
          go_wp2
          go_ret
          exact ⟨by rw [HVE.out]; rfl, HM.out.bel⟩
        · have p1 : decide (q > 65535) = false := decide_eq_false hp1
          go_wp2_with fail
          refine (HFI.out w2 HM.out.bel).mono ?_
          rintro e w3 ⟨rfl, hb⟩
          replace HM := Lib.hid (HM.out.below hb)
          replace HR1 := Lib.hid ((HR1.out.below hb).mono hb.size)
          replace HR2 := Lib.hid ((HR2.out.below hb).mono hb.size)
          clear hb HFI fp fs
          cases z with
          | false =>
            have HVE := Lib.hid (show validE c = 1 from HV0.out.trans (if_pos (.inr (.inr rfl))))
            go_wp2
            go_ret
            exact ⟨by rw [HVE.out]; rfl, HM.out.bel⟩
          | true =>
            replace HV0 := Lib.hid (HV0.out.trans (if_neg (by simp; omega)))
            go_wp2_with fail
            refine (HKR.out A1 c1 w3 HR1.out HCC.out.1).mono ?_
            rintro e w4 ⟨rfl, hb⟩
            replace HM := Lib.hid (HM.out.below hb)
            replace HR2 := Lib.hid ((HR2.out.below hb).mono hb.size)
            clear hb HKR HR1
            cases r1 with
            | true =>
              have HVE := Lib.hid (show validE c = 19 from HV0.out.trans (if_pos (.inl rfl)))
              go_wp2
              go_ret
              exact ⟨by rw [HVE.out]; rfl, HM.out.bel⟩
            | false =>
              go_wp2_with fail
              refine (HPR.out A2 c2 w4 HR2.out HCC.out.2).mono ?_
              rintro e w5 ⟨rfl, hb⟩
              replace HM := Lib.hid (HM.out.below hb)
              clear hb HPR HR2
              cases r2 with
              | true =>
                have HVE := Lib.hid (show validE c = 19 from HV0.out.trans (if_pos (.inr rfl)))
                go_wp2
                go_ret
                exact ⟨by rw [HVE.out]; rfl, HM.out.bel⟩
              | false =>
                have HVE := Lib.hid (show validE c = 0 from HV0.out.trans (if_neg (by simp)))
                go_wp2
                go_ret
                exact ⟨by rw [HVE.out]; rfl, HM.out.bel⟩
end Go.Proofs.YtcbfchkhbngpkaaGreatDoor
namespace Go.Proofs.YtcbfchkhbngpkaaGreatDoor
open Go.RowKit

end Go.Proofs.YtcbfchkhbngpkaaGreatDoor
namespace Go.Proofs.YtcbfchkhbngpkaaGreatDoor
open Go.RowKit

/-- the choices at a world: p of them taken -/
structure CodesAt (W : World) (g : Nat) (A : Option Addr) (n c : Nat) (l : List UInt8) (B : Nat) (p : Nat) : Prop where
  blk : Blk W g 46 (codesC A n c p)
  rd : Rd W B A n l
  le : B ≤ g
  lt : g < W.heap.size
  small : n ≤ 100000
  pos : p ≤ n
section
variable {W W' : World} {g : Nat} {A : Option Addr} {n c : Nat} {l : List UInt8} {B p : Nat}
theorem CodesAt.below (h : CodesAt W g A n c l B p) (hb : Below W.heap.size W W') : CodesAt W' g A n c l B p :=
  ⟨h.blk.below hb h.lt, h.rd.below2 (by have := h.le; have := h.lt; omega) hb, h.le, Nat.lt_of_lt_of_le h.lt hb.size, h.small, h.pos⟩
theorem CodesAt.put (h : CodesAt W g A n c l B p) {b : Nat} (hg : W.grownBy W' (some b)) (hb : g < b) : CodesAt W' g A n c l B p :=
  ⟨h.blk.grown hg (fun e => by injection e with e; omega), h.rd.keep (fun q hq => World.cell?_of_block (hg.block q.block (by have := h.le; have := h.lt; omega) (fun e => by injection e with e; have := h.le; omega))), h.le, Nat.lt_of_lt_of_le h.lt hg.size, h.small, h.pos⟩
theorem CodesAt.next (h : CodesAt W g A n c l B p) {q : Nat} (hq : q ≤ n) (hb : Blk W' g 46 (codesC A n c q)) (hg : W.grownBy W' (some g)) : CodesAt W' g A n c l B q :=
  ⟨hb, h.rd.kept h.le h.lt hg, h.le, Nat.lt_of_lt_of_le h.lt hg.size, h.small, hq⟩
theorem CodesAt.nextLe (h : CodesAt W g A n c l B p) (m : Nat) : nextP l p m ≤ n := by have := nextP_le l p m (by rw [h.rd.1]; exact h.pos); rw [h.rd.1] at this; exact this
theorem CodesAt.callNext (h : CodesAt W g A n c l B p) (m : Nat) (hm : m ≤ 1000000) :
    Calls Tryz.prog 19 #[.pointer (some ⟨g, 0, none⟩), .int .i64 (m : Int)] W fun e w' => e = .returned (.int .i64 (nextV l p m : Int)) ∧ CodesAt w' g A n c l B (nextP l p m) ∧ W.grownBy w' (some g) :=
  (caseNext_any g A n c l p h.small h.pos m hm B h.le W h.blk h.rd).mono fun _ _ k => ⟨k.1, h.next (h.nextLe m) k.2.1 k.2.2, k.2.2⟩
end
end Go.Proofs.YtcbfchkhbngpkaaGreatDoor
namespace Go.Proofs.YtcbfchkhbngpkaaGreatDoor
open Go.RowKit

end Go.Proofs.YtcbfchkhbngpkaaGreatDoor
namespace Go.Proofs.YtcbfchkhbngpkaaGreatDoor
open Go.RowKit

theorem MemE.join {b m : Nat} : ∀ {E2 E : List Ent} {top : Nat} {W : World}, MemE m E2 top W → MemE b E m W → MemE b (E2 ++ E) top W
  | [], _, _, _, h, k => MemE.keep k h (fun _ _ _ => rfl)
  | _ :: _, _, _, _, h, k => ⟨h.1, h.2.1, h.2.2.1, MemE.join h.2.2.2 k⟩
theorem MemG.join {w0 W W' : World} {g : Nat} {E E2 : List Ent} (h : MemG w0 g E W) (hg : g < w0.heap.size) (k : MemG W g E2 W') : MemG w0 g (E2 ++ E) W' :=
  ⟨MemE.join k.1 (h.1.keep (Nat.le_refl _) (fun q h1 hq => k.2.block q hq (fun e => by injection e with e; omega))), grownBy_trans h.2 k.2⟩
section
variable {W W' : World} {g : Nat} {A : Option Addr} {n c : Nat} {l : List UInt8} {B p : Nat}
theorem CodesAt.callBytes (h : CodesAt W g A n c l B p) (m : Nat) (hm : m ≤ 1000) :
    Calls Tryz.prog 43 #[.pointer (some ⟨g, 0, none⟩), .int .i64 (m : Int)] W fun e w' => e = .returned (.slice (some ⟨W.heap.size, 0, none⟩) m m) ∧ CodesAt w' g A n c l B (nextP l p 256) ∧ MemG W g [blkE W.heap.size 5 ((pickB l p m).map u8v)] w' :=
  (caseBytes_any g A n c l p h.small h.pos m hm B h.le W h.blk h.rd).mono fun _ _ k => ⟨k.1, h.next (h.nextLe 256) k.2.1 k.2.2.2, k.2.2⟩
end
/-- an address of choices -/
def sixV (l : List UInt8) (p : Nat) : Bool := nextV l p 3 == 1
def fourB (l : List UInt8) (p : Nat) : List UInt8 := [10, UInt8.ofNat (nextV l p 4), UInt8.ofNat (nextV l (nextP l p 4) 4), UInt8.ofNat (nextV l (nextP l (nextP l p 4) 4) 256)]
def codeA (l : List UInt8) (p : Nat) : AddrM := ⟨sixV l p, if sixV l p then (pickB l (nextP l p 3) 16).set 0 253 else putL (List.replicate 16 0) 0 (fourB l (nextP l p 3))⟩
def codeAP (l : List UInt8) (p : Nat) : Nat := if sixV l p then nextP l (nextP l p 3) 256 else nextP l (nextP l (nextP l (nextP l p 3) 4) 4) 256
theorem codeA_ok (l : List UInt8) (p : Nat) : (codeA l p).ok := by
  unfold AddrM.ok codeA
  dsimp only
  split
  · rw [List.length_set, pickB_length]
  · rfl
theorem addr_put16 (b : Bool) (l : List UInt8) (h : l.length = 16) : setL (.bool b :: (List.replicate 16 (0 : UInt8)).map u8v) 1 (l.map u8v) = (AddrM.mk b l).cells := by
  rw [addr_put, AddrM.cells, putL, List.take_zero, List.nil_append, List.drop_of_length_le (by simp [h]), List.append_nil]
set_option maxRecDepth 100000 in
set_option maxHeartbeats 4000000 in
theorem caseAddr_any (g : Nat) (A : Option Addr) (n c : Nat) (l : List UInt8) (B : Nat) (p : Nat) (w : World) (hc : CodesAt w g A n c l B p) :
    Calls Tryz.prog 46 #[.pointer (some ⟨g, 0, none⟩)] w fun e w' => e = .returned (.agg (codeA l p).cells.toArray) ∧ CodesAt w' g A n c l B (codeAP l p) ∧ w.grownBy w' (some g) := by
  have hgl := hc.lt
  have HM := Lib.hid (show MemG w g [blkE w.heap.size 53 addr0.cells] (w.alloc (.cells #[.bool false, .int .u8 0, .int .u8 0, .int .u8 0, .int .u8 0, .int .u8 0, .int .u8 0, .int .u8 0, .int .u8 0, .int .u8 0, .int .u8 0, .int .u8 0, .int .u8 0, .int .u8 0, .int .u8 0, .int .u8 0, .int .u8 0] 53)) from (MemG.nil w g).alloc rfl 53 #[.bool false, .int .u8 0, .int .u8 0, .int .u8 0, .int .u8 0, .int .u8 0, .int .u8 0, .int .u8 0, .int .u8 0, .int .u8 0, .int .u8 0, .int .u8 0, .int .u8 0, .int .u8 0, .int .u8 0, .int .u8 0, .int .u8 0] addr0.cells rfl)
  have HC := Lib.hid (hc.below ((Below.refl _ _).alloc (Nat.le_refl _) (.cells #[.bool false, .int .u8 0, .int .u8 0, .int .u8 0, .int .u8 0, .int .u8 0, .int .u8 0, .int .u8 0, .int .u8 0, .int .u8 0, .int .u8 0, .int .u8 0, .int .u8 0, .int .u8 0, .int .u8 0, .int .u8 0, .int .u8 0] 53)))
  have HAO := Lib.hid (codeA_ok l p)
  have HCA := Lib.hid (show codeA l p = _ ∧ codeAP l p = _ from ⟨rfl, rfl⟩)
  clear hc
  go_enter Tryz.func46, Tryz.ntmps46
  go_upto_region 1 with fail
  generalize w.alloc (.cells #[.bool false, .int .u8 0, .int .u8 0, .int .u8 0, .int .u8 0, .int .u8 0, .int .u8 0, .int .u8 0, .int .u8 0, .int .u8 0, .int .u8 0, .int .u8 0, .int .u8 0, .int .u8 0, .int .u8 0, .int .u8 0, .int .u8 0] 53) = w1 at HM HC ⊢
  go_wp2_with fail
  refine (HC.out.callNext 3 (by omega)).mono ?_
  rintro e w2 ⟨rfl, hc2, hg2⟩
  have hsx : ((nextV l p 3 : Int) == 1) = sixV l p := by rw [sixV, Bool.eq_iff_iff, beq_iff_eq, beq_iff_eq]; omega
  replace HM := Lib.hid (HM.out.next hgl hg2)
  have HC := Lib.hid hc2
  clear hc2 hg2
  have HA := Lib.hid (show MemG w g [blkE w2.heap.size 53 addr0.cells, blkE w.heap.size 53 addr0.cells] (w2.alloc (.cells #[.bool false, .int .u8 0, .int .u8 0, .int .u8 0, .int .u8 0, .int .u8 0, .int .u8 0, .int .u8 0, .int .u8 0, .int .u8 0, .int .u8 0, .int .u8 0, .int .u8 0, .int .u8 0, .int .u8 0, .int .u8 0, .int .u8 0] 53)) from HM.out.alloc rfl 53 #[.bool false, .int .u8 0, .int .u8 0, .int .u8 0, .int .u8 0, .int .u8 0, .int .u8 0, .int .u8 0, .int .u8 0, .int .u8 0, .int .u8 0, .int .u8 0, .int .u8 0, .int .u8 0, .int .u8 0, .int .u8 0, .int .u8 0] addr0.cells rfl)
  have HC3 := Lib.hid (HC.out.below ((Below.refl _ _).alloc (Nat.le_refl _) (.cells #[.bool false, .int .u8 0, .int .u8 0, .int .u8 0, .int .u8 0, .int .u8 0, .int .u8 0, .int .u8 0, .int .u8 0, .int .u8 0, .int .u8 0, .int .u8 0, .int .u8 0, .int .u8 0, .int .u8 0, .int .u8 0, .int .u8 0] 53)))
  have hP3 := HC.out.lt
  obtain ⟨sx, hsxe⟩ : ∃ q, sixV l p = q := ⟨_, rfl⟩
  rw [hsxe] at hsx
  have HSX := Lib.hid hsxe
  clear hsxe
  go_upto_region 2 with (refine wpList_store_blk rfl 53 (.tmp 3) (.tmp 7) rfl w2.heap.size (.bool sx :: (List.replicate 16 (0 : UInt8)).map u8v) rfl rfl 53 addr0.cells (HA.out.blk 0 rfl) (by kernel_rfl) rfl (addr_one sx _) ?_; intro w3 hb hg)
  clear hsx
  (try simp only [Act.put])
  replace HM := Lib.hid (show MemG w g [blkE w2.heap.size 53 (.bool sx :: (List.replicate 16 (0 : UInt8)).map u8v), blkE w.heap.size 53 addr0.cells] w3 from HA.out.put 0 rfl _ hg hb)
  replace HC := Lib.hid (HC3.out.put hg hP3)
  clear HA HC3 hb hg
  have HPG := Lib.hid hP3
  clear hP3
  generalize w2.heap.size = P3 at HM HPG ⊢
  have f6 := (HM.out.blk 0 rfl).cell 0
  rw [show (.bool sx :: (List.replicate 16 (0 : UInt8)).map u8v : List Value)[0]? = some (.bool sx) from rfl] at f6
  cases sx with
  | true =>
    have HR := Lib.hid (show (AddrM.mk true ((pickB l (nextP l p 3) 16).set 0 253)) = codeA l p ∧ nextP l (nextP l p 3) 256 = codeAP l p from by rw [codeA, codeAP, HSX.out]; exact ⟨rfl, rfl⟩)
    have HBL := Lib.hid (pickB_length l (nextP l p 3) 16)
    have HPUT := Lib.hid (addr_put16 true (pickB l (nextP l p 3) 16) HBL.out)
    go_upto_region 3 with fail
    clear f6
    refine wp_region_held_drew (S := fun _ => True) (by kernel_rfl) (trivial) (fun hHeld => ?_)
    replace HM := Lib.hid HM.out.drew
    replace HC := Lib.hid (HC.out.below ((Below.refl _ _).drew))
    generalize w3.drew = wd1 at HM HC hHeld ⊢
    refine take_first (v := ?_) 0 rfl (by kernel_rfl) (by kernel_rfl) (by kernel_rfl) (fun _ _ _ h => h) (Or.inl ⟨by rfl, ?_⟩) (by assumption) ?_
    rotate_left
    · (intro w hSw; (try dsimp only at hSw); go_simp; try with_reducible rfl)
    (try simp only [Act.put, List.setIfInBounds_toArray, List.set_cons_zero, List.set_cons_succ])
    refine take_first (v := ?_) 1 rfl (by kernel_rfl) (by kernel_rfl) (by kernel_rfl) (fun _ _ _ h => h) (Or.inl ⟨by rfl, ?_⟩) (by assumption) ?_
    rotate_left
    · (intro w hSw; (try dsimp only at hSw); go_simp; try with_reducible rfl)
    (try simp only [Act.put, List.setIfInBounds_toArray, List.set_cons_zero, List.set_cons_succ])
    refine take_first (v := ?_) 2 rfl (by kernel_rfl) (by kernel_rfl) (by kernel_rfl) (fun _ _ _ h => h) (Or.inl ⟨by rfl, ?_⟩) (by assumption) ?_
    rotate_left
    · (intro w hSw; (try dsimp only at hSw); go_simp; try with_reducible rfl)
    (try simp only [Act.put, List.setIfInBounds_toArray, List.set_cons_zero, List.set_cons_succ])
    refine step_one 3 rfl (by kernel_rfl) (fun K hK => ?_)
    clear hHeld
    go_simp
    refine (HC.out.callBytes 16 (by omega)).mono ?_
    rintro e wy2 ⟨rfl, hc2, hm2⟩
    replace HM := Lib.hid (show MemG w g [blkE wd1.heap.size 5 ((pickB l (nextP l p 3) 16).map u8v), blkE P3 53 (.bool true :: (List.replicate 16 (0 : UInt8)).map u8v), blkE w.heap.size 53 addr0.cells] wy2 from HM.out.join hgl hm2)
    replace HC := Lib.hid hc2
    clear hc2 hm2
    generalize wd1.heap.size = PB at HM ⊢
    go_wp2_with fail
    refine hK.out _ _ (trivial) (fun hHeld => ?_)
    clear hK K
    (try simp only [Act.put, List.setIfInBounds_toArray, List.set_cons_zero, List.set_cons_succ])
    refine step_one 4 rfl (by kernel_rfl) (fun K hK => ?_)
    clear hHeld
    refine step_copy_bytes _ rfl (.tmp 11) (.tmp 13) 22 22 (by rfl) 5 Tryz.underlying22 (by kernel_rfl) P3 1 16 16 ⟨PB, 0, none⟩ 16 16 (by rfl) (by rfl) (.bool true :: (List.replicate 16 (0 : UInt8)).map u8v) 53 (HM.out.blk 1 rfl) ((pickB l (nextP l p 3) 16).map u8v) (by rw [List.length_map, HBL.out]; rfl) (fun q v hv => by rw [Go.WideShapes.add_plain]; exact (HM.out.blk 0 rfl).all q v hv) (by rw [List.length_map, HBL.out]; simp) (u8v_one _) ?_
    intro wy3 hb hg
    replace hb : Blk wy3 P3 53 (AddrM.mk true (pickB l (nextP l p 3) 16)).cells := by rw [← HPUT.out]; exact hb
    replace HM := Lib.hid (show MemG w g [blkE PB 5 ((pickB l (nextP l p 3) 16).map u8v), blkE P3 53 (AddrM.mk true (pickB l (nextP l p 3) 16)).cells, blkE w.heap.size 53 addr0.cells] wy3 from HM.out.put 1 rfl _ hg hb)
    replace HC := Lib.hid (HC.out.put hg HPG.out)
    clear hb hg
    refine hK.out _ _ (trivial) (fun hHeld => ?_)
    clear hK K
    (try simp only [Act.put, List.setIfInBounds_toArray, List.set_cons_zero, List.set_cons_succ])
    refine wpAnyH_done (by kernel_rfl) ?_ _
    clear hHeld
    revert wy3
    intro wq HM HC
    have HOK := Lib.hid (show (AddrM.mk true (pickB l (nextP l p 3) 16)).ok from HBL.out)
    have fx := ((HM.out.blk 1 rfl).cell (1 + 0)).trans (AddrM.ip_cell _ HOK.out 0 (by omega))
    have zx := (HM.out.blk 1 rfl).frozen (1 + 0)
    generalize ((AddrM.mk true (pickB l (nextP l p 3) 16)).ip.getD 0 0) = x0 at fx
    have HN := Lib.hid (show MemG w g [blkE PB 5 ((pickB l (nextP l p 3) 16).map u8v), blkE P3 53 (AddrM.mk true ((pickB l (nextP l p 3) 16).set 0 253)).cells, blkE w.heap.size 53 addr0.cells] (wq.setCell ⟨P3, 1 + 0, none⟩ (.int .u8 253)) from by have h := HM.out.setCell 1 rfl (1 + 0) (u8v 253); rw [AddrM.set_cell] at h; exact h)
    replace HC := Lib.hid (show CodesAt (wq.setCell ⟨P3, 1 + 0, none⟩ (.int .u8 253)) g A n c l B (nextP l (nextP l p 3) 256) from HC.out.put (W' := wq.setCell ⟨P3, 1 + 0, none⟩ (.int .u8 253)) (b := P3) ⟨rfl, rfl, rfl, by simp [World.setCell], fun k _ hne => Below.heap_setCell _ _ _ _ (fun e => hne (by rw [e]))⟩ HPG.out)
    rw [Nat.add_zero] at fx zx HN HC
    clear HM
    go_upto_region 5 with fail
    generalize wq.setCell ⟨P3, 1, none⟩ (.int .u8 253) = w5 at HN HC ⊢
    clear fx zx
    rw [HR.out.1] at HN
    rw [HR.out.2] at HC
    have HCL := Lib.hid (addr_cellsOf _ HAO.out)
    have HAL := Lib.hid (AddrM.cells_length HAO.out)
    obtain ⟨ca, hca⟩ : ∃ x, (codeA l p).cells.toArray = x := ⟨_, rfl⟩
    have HCC := Lib.hid hca
    clear hca
    go_wp2_with (first | (refine wpList_load_obj rfl 53 (.tmp 3) rfl P3 0 rfl (codeA l p).cells (HN.out.blk 1 rfl).all _ Tryz.underlying53 rfl HCL.out ?_; rw [HCC.out]) | (refine wpList_store_blk rfl 53 (.tmp 2) (.tmp 17) rfl w.heap.size (codeA l p).cells rfl (by show Value.agg ca = _; rw [HCC.out]) 53 addr0.cells (HN.out.blk 2 rfl) HCL.out (by rw [HAL.out]; rfl) (AddrM.one _) ?_; intro w9 hb9 hg9))
    exact bodyPost_ret (results_obj rfl _ _ w.heap.size 53 (codeA l p).cells _ rfl hb9 Tryz.underlying53 rfl HCL.out) rfl ⟨rfl, HC.out.put hg9 hgl, (HN.out.put 2 rfl _ hg9 hb9).2⟩
  | false =>
    obtain ⟨u1, hu1⟩ : ∃ u, UInt8.ofNat (nextV l (nextP l p 3) 4) = u := ⟨_, rfl⟩
    obtain ⟨u2, hu2⟩ : ∃ u, UInt8.ofNat (nextV l (nextP l (nextP l p 3) 4) 4) = u := ⟨_, rfl⟩
    obtain ⟨u3, hu3⟩ : ∃ u, UInt8.ofNat (nextV l (nextP l (nextP l (nextP l p 3) 4) 4) 256) = u := ⟨_, rfl⟩
    have hF : fourB l (nextP l p 3) = [10, u1, u2, u3] := by rw [fourB, hu1, hu2, hu3]
    have HR := Lib.hid (show (AddrM.mk false (putL (List.replicate 16 0) 0 [10, u1, u2, u3])) = codeA l p ∧ nextP l (nextP l (nextP l (nextP l p 3) 4) 4) 256 = codeAP l p from by rw [codeA, codeAP, HSX.out, ← hF]; exact ⟨rfl, rfl⟩)
    have HPUT := Lib.hid (show setL (.bool false :: (List.replicate 16 (0 : UInt8)).map u8v) 1 (([10, u1, u2, u3] : List UInt8).map u8v) = (AddrM.mk false (putL (List.replicate 16 0) 0 ([10, u1, u2, u3] : List UInt8))).cells from addr_put false [10, u1, u2, u3])
    have hw1 : IntKind.u8.wrap (nextV l (nextP l p 3) 4 : Int) = (u1.toNat : Int) := by rw [← hu1]; exact codeByte_wrap _
    have hw2 : IntKind.u8.wrap (nextV l (nextP l (nextP l p 3) 4) 4 : Int) = (u2.toNat : Int) := by rw [← hu2]; exact codeByte_wrap _
    have hw3 : IntKind.u8.wrap (nextV l (nextP l (nextP l (nextP l p 3) 4) 4) 256 : Int) = (u3.toNat : Int) := by rw [← hu3]; exact codeByte_wrap _
    have HW := Lib.hid (And.intro hw1 (And.intro hw2 hw3))
    clear hw1 hw2 hw3 hu1 hu2 hu3 hF
    go_upto_region 6 with fail
    clear f6
    refine wp_region_held_drew (S := fun _ => True) (by kernel_rfl) (trivial) (fun hHeld => ?_)
    replace HM := Lib.hid HM.out.drew
    replace HC := Lib.hid (HC.out.below ((Below.refl _ _).drew))
    generalize w3.drew = wd1 at HM HC hHeld ⊢
    refine take_first (v := ?_) 0 rfl (by kernel_rfl) (by kernel_rfl) (by kernel_rfl) (fun _ _ _ h => h) (Or.inl ⟨by rfl, ?_⟩) (by assumption) ?_
    rotate_left
    · (intro w hSw; (try dsimp only at hSw); go_simp; try with_reducible rfl)
    (try simp only [Act.put, List.setIfInBounds_toArray, List.set_cons_zero, List.set_cons_succ])
    refine take_first (v := ?_) 1 rfl (by kernel_rfl) (by kernel_rfl) (by kernel_rfl) (fun _ _ _ h => h) (Or.inl ⟨by rfl, ?_⟩) (by assumption) ?_
    rotate_left
    · (intro w hSw; (try dsimp only at hSw); go_simp; try with_reducible rfl)
    (try simp only [Act.put, List.setIfInBounds_toArray, List.set_cons_zero, List.set_cons_succ])
    refine take_first (v := ?_) 2 rfl (by kernel_rfl) (by kernel_rfl) (by kernel_rfl) (fun _ _ _ h => h) (Or.inl ⟨by rfl, ?_⟩) (by assumption) ?_
    rotate_left
    · (intro w hSw; (try dsimp only at hSw); go_simp; try with_reducible rfl)
    (try simp only [Act.put, List.setIfInBounds_toArray, List.set_cons_zero, List.set_cons_succ])
    refine take_first (v := ?_) 5 rfl (by kernel_rfl) (by kernel_rfl) (by kernel_rfl) (fun _ _ _ h => h) (Or.inl ⟨by rfl, ?_⟩) (by assumption) ?_
    rotate_left
    · (intro w hSw; (try dsimp only at hSw); go_simp; try with_reducible rfl)
    (try simp only [Act.put, List.setIfInBounds_toArray, List.set_cons_zero, List.set_cons_succ])
    refine take_first (v := ?_) 8 rfl (by kernel_rfl) (by kernel_rfl) (by kernel_rfl) (fun _ _ _ h => h) (Or.inl ⟨by rfl, ?_⟩) (by assumption) ?_
    rotate_left
    · (intro w hSw; (try dsimp only at hSw); go_simp; try with_reducible rfl)
    (try simp only [Act.put, List.setIfInBounds_toArray, List.set_cons_zero, List.set_cons_succ])
    refine step_one 3 rfl (by kernel_rfl) (fun K hK => ?_)
    clear hHeld
    go_simp
    refine (HC.out.callNext 4 (by omega)).mono ?_
    rintro e wy2 ⟨rfl, hc2, hg2⟩
    replace HM := Lib.hid (show MemG w g [blkE P3 53 (.bool false :: (List.replicate 16 (0 : UInt8)).map u8v), blkE w.heap.size 53 addr0.cells] wy2 from HM.out.next hgl hg2)
    replace HC := Lib.hid hc2
    clear hc2 hg2
    go_wp2_with fail
    refine hK.out _ _ (trivial) (fun hHeld => ?_)
    clear hK K
    (try simp only [Act.put, List.setIfInBounds_toArray, List.set_cons_zero, List.set_cons_succ])
    refine take_first (v := ?_) 4 rfl (by kernel_rfl) (by kernel_rfl) (by kernel_rfl) (fun _ _ _ h => h) (Or.inl ⟨by rfl, ?_⟩) (by assumption) ?_
    rotate_left
    · (intro w hSw; (try dsimp only at hSw); have e1 := HW.out.1; go_simp; try with_reducible rfl)
    (try simp only [Act.put, List.setIfInBounds_toArray, List.set_cons_zero, List.set_cons_succ])
    refine step_one 6 rfl (by kernel_rfl) (fun K hK => ?_)
    clear hHeld
    go_simp
    refine (HC.out.callNext 4 (by omega)).mono ?_
    rintro e wy3 ⟨rfl, hc2, hg2⟩
    replace HM := Lib.hid (show MemG w g [blkE P3 53 (.bool false :: (List.replicate 16 (0 : UInt8)).map u8v), blkE w.heap.size 53 addr0.cells] wy3 from HM.out.next hgl hg2)
    replace HC := Lib.hid hc2
    clear hc2 hg2
    go_wp2_with fail
    refine hK.out _ _ (trivial) (fun hHeld => ?_)
    clear hK K
    (try simp only [Act.put, List.setIfInBounds_toArray, List.set_cons_zero, List.set_cons_succ])
    refine take_first (v := ?_) 7 rfl (by kernel_rfl) (by kernel_rfl) (by kernel_rfl) (fun _ _ _ h => h) (Or.inl ⟨by rfl, ?_⟩) (by assumption) ?_
    rotate_left
    · (intro w hSw; (try dsimp only at hSw); have e1 := HW.out.2.1; go_simp; try with_reducible rfl)
    (try simp only [Act.put, List.setIfInBounds_toArray, List.set_cons_zero, List.set_cons_succ])
    refine step_one 9 rfl (by kernel_rfl) (fun K hK => ?_)
    clear hHeld
    go_simp
    refine (HC.out.callNext 256 (by omega)).mono ?_
    rintro e wy4 ⟨rfl, hc2, hg2⟩
    replace HM := Lib.hid (show MemG w g [blkE P3 53 (.bool false :: (List.replicate 16 (0 : UInt8)).map u8v), blkE w.heap.size 53 addr0.cells] wy4 from HM.out.next hgl hg2)
    replace HC := Lib.hid hc2
    clear hc2 hg2
    go_wp2_with fail
    refine hK.out _ _ (trivial) (fun hHeld => ?_)
    clear hK K
    (try simp only [Act.put, List.setIfInBounds_toArray, List.set_cons_zero, List.set_cons_succ])
    refine take_first (v := ?_) 10 rfl (by kernel_rfl) (by kernel_rfl) (by kernel_rfl) (fun _ _ _ h => h) (Or.inl ⟨by rfl, ?_⟩) (by assumption) ?_
    rotate_left
    · (intro w hSw; (try dsimp only at hSw); have e1 := HW.out.2.2; go_simp; try with_reducible rfl)
    (try simp only [Act.put, List.setIfInBounds_toArray, List.set_cons_zero, List.set_cons_succ])
    refine step_one 11 rfl (by kernel_rfl) (fun K hK => ?_)
    clear hHeld
    go_simp
    replace HM := Lib.hid (show MemG w g [blkE wy4.heap.size 5 (([10, u1, u2, u3] : List UInt8).map u8v), blkE P3 53 (.bool false :: (List.replicate 16 (0 : UInt8)).map u8v), blkE w.heap.size 53 addr0.cells] (wy4.alloc (.cells #[.int .u8 10, .int .u8 (u1.toNat : Int), .int .u8 (u2.toNat : Int), .int .u8 (u3.toNat : Int)] 5)) from HM.out.alloc rfl 5 #[.int .u8 10, .int .u8 (u1.toNat : Int), .int .u8 (u2.toNat : Int), .int .u8 (u3.toNat : Int)] (([10, u1, u2, u3] : List UInt8).map u8v) rfl)
    replace HC := Lib.hid (HC.out.below ((Below.refl _ _).alloc (Nat.le_refl _) (.cells #[.int .u8 10, .int .u8 (u1.toNat : Int), .int .u8 (u2.toNat : Int), .int .u8 (u3.toNat : Int)] 5)))
    generalize wy4.alloc (.cells #[.int .u8 10, .int .u8 (u1.toNat : Int), .int .u8 (u2.toNat : Int), .int .u8 (u3.toNat : Int)] 5) = wy5 at HM HC ⊢
    generalize wy4.heap.size = PB at HM ⊢
    refine hK.out _ _ (trivial) (fun hHeld => ?_)
    clear hK K
    (try simp only [Act.put, List.setIfInBounds_toArray, List.set_cons_zero, List.set_cons_succ])
    refine step_one 12 rfl (by kernel_rfl) (fun K hK => ?_)
    clear hHeld
    refine step_copy_bytes _ rfl (.tmp 19) (.tmp 29) 22 22 (by rfl) 5 Tryz.underlying22 (by kernel_rfl) P3 1 4 16 ⟨PB, 0, none⟩ 4 4 (by rfl) (by rfl) (.bool false :: (List.replicate 16 (0 : UInt8)).map u8v) 53 (HM.out.blk 1 rfl) ((([10, u1, u2, u3] : List UInt8)).map u8v) (by rw [List.length_map, show ([10, u1, u2, u3] : List UInt8).length = 4 from rfl]; rfl) (fun q v hv => by rw [Go.WideShapes.add_plain]; exact (HM.out.blk 0 rfl).all q v hv) (by rw [List.length_map, show ([10, u1, u2, u3] : List UInt8).length = 4 from rfl]; simp) (u8v_one _) ?_
    intro wy6 hb hg
    replace hb : Blk wy6 P3 53 (AddrM.mk false (putL (List.replicate 16 0) 0 ([10, u1, u2, u3] : List UInt8))).cells := by rw [← HPUT.out]; exact hb
    replace HM := Lib.hid (show MemG w g [blkE PB 5 (([10, u1, u2, u3] : List UInt8).map u8v), blkE P3 53 (AddrM.mk false (putL (List.replicate 16 0) 0 ([10, u1, u2, u3] : List UInt8))).cells, blkE w.heap.size 53 addr0.cells] wy6 from HM.out.put 1 rfl _ hg hb)
    replace HC := Lib.hid (HC.out.put hg HPG.out)
    clear hb hg
    refine hK.out _ _ (trivial) (fun hHeld => ?_)
    clear hK K
    (try simp only [Act.put, List.setIfInBounds_toArray, List.set_cons_zero, List.set_cons_succ])
    refine wpAnyH_done (by kernel_rfl) ?_ _
    clear hHeld
    revert wy6
    intro w5 HM HC
    rw [HR.out.1] at HM
    rw [HR.out.2] at HC
    have HCL := Lib.hid (addr_cellsOf _ HAO.out)
    have HAL := Lib.hid (AddrM.cells_length HAO.out)
    obtain ⟨ca, hca⟩ : ∃ x, (codeA l p).cells.toArray = x := ⟨_, rfl⟩
    have HCC := Lib.hid hca
    clear hca
    go_wp2_with (first | (refine wpList_load_obj rfl 53 (.tmp 3) rfl P3 0 rfl (codeA l p).cells (HM.out.blk 1 rfl).all _ Tryz.underlying53 rfl HCL.out ?_; rw [HCC.out]) | (refine wpList_store_blk rfl 53 (.tmp 2) (.tmp 31) rfl w.heap.size (codeA l p).cells rfl (by show Value.agg ca = _; rw [HCC.out]) 53 addr0.cells (HM.out.blk 2 rfl) HCL.out (by rw [HAL.out]; rfl) (AddrM.one _) ?_; intro w9 hb9 hg9))
    exact bodyPost_ret (results_obj rfl _ _ w.heap.size 53 (codeA l p).cells _ rfl hb9 Tryz.underlying53 rfl HCL.out) rfl ⟨rfl, HC.out.put hg9 hgl, (HM.out.put 2 rfl _ hg9 hb9).2⟩
end Go.Proofs.YtcbfchkhbngpkaaGreatDoor
