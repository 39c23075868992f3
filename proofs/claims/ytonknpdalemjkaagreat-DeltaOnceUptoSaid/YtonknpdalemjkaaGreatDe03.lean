/- texts put together: Shelf, LabSort, SortRow, LabCanon0, LabName2, App. -/
import Derived.Test.YtonknpdalemjkaaGreatDe00
import Derived.Test.YtonknpdalemjkaaGreatDe01
import Derived.Ground.Names2Prog
import Derived.Lib.AppendStr
import Derived.Maps.OwnSet
import Derived.Shelf.GgSortFunc.InsertionK
import Derived.Shelf.LaysM
import Derived.Shelf.SlSortCmp.SmallK
import Derived.Shelf.SlSortCmp.WholeK
import Derived.Shelf.Slices.SearchI
import Derived.Shelf.Small.Bits
import Derived.Shelf.Small.Strs
import Derived.Shelf.Small.Wraps
import Derived.Shelf.Strconv.Itoa0
import Derived.Shelf.Strings.Cut
import Derived.Shelf.Strings.Prefix
import Derived.Shelf.Strings.Search1
import Derived.Shelf.Strings.Search2
import Derived.Shelf.Strings.Shaped
import Derived.Sort.OwnSorted
import Derived.Test.YtonknpdalemjkaaGreatProg
namespace Go.Proofs
open Go.Shelf
def Tryz.lays125_ren : Go.Shelf.Ren := ⟨fun | 125 => 107 | 128 => 123 | 129 => 124 | n => n, fun | 46 => 127 | 3 => 3 | 51 => 147 | 53 => 48 | 4 => 4 | 5 => 5 | 9 => 9 | n => n, fun | n => n⟩
theorem Tryz.lays125 : Go.Proofs.Lays.n125 Tryz.prog Tryz.lays125_ren := {
 mixed := by kernel_rfl
 f125 := Tryz.func107.trans (congrArg some (by kernel_rfl))
 f128 := Tryz.func123.trans (congrArg some (by kernel_rfl))
 f129 := Tryz.func124.trans (congrArg some (by kernel_rfl))
 t3 := Tryz.underlying3
 a3 := Tryz.isAgg3
 z3 := Tryz.sizeOf3
 v3 := Tryz.zeroValue3
 t4 := Tryz.underlying4
 a4 := Tryz.isAgg4
 z4 := Tryz.sizeOf4
 v4 := Tryz.zeroValue4
 t5 := Tryz.underlying5
 a5 := Tryz.isAgg5
 z5 := Tryz.sizeOf5
 v5 := Tryz.zeroValue5
 t9 := Tryz.underlying9
 a9 := Tryz.isAgg9
 z9 := Tryz.sizeOf9
 v9 := Tryz.zeroValue9
 t46 := Tryz.underlying127
 a46 := Tryz.isAgg127
 z46 := Tryz.sizeOf127
 v46 := Tryz.zeroValue127
 t51 := Tryz.underlying147
 a51 := Tryz.isAgg147
 z51 := Tryz.sizeOf147
 v51 := Tryz.zeroValue147
 t53 := Tryz.underlying48
 a53 := Tryz.isAgg48
 z53 := Tryz.sizeOf48
 v53 := Tryz.zeroValue48 }
theorem Tryz.bits_Len (x : Int) (w : World) (h0 : 0 ≤ x) (h1 : x ≤ 18446744073709551615) :
  Calls Tryz.prog 107 #[.int .u64 x] w fun e w' => e = .returned (.int .i64 (Lib.bitLen x.toNat)) ∧ w' = w := Any.bits_Len Tryz.lays125 x w h0 h1
def Tryz.lays106_ren : Go.Shelf.Ren := ⟨fun | 106 => 158 | 213 => 164 | 265 => 177 | n => n, fun | 9 => 9 | 3 => 3 | n => n, fun | n => n⟩
theorem Tryz.lays106 : Go.Proofs.Lays.n106 Tryz.prog Tryz.lays106_ren := {
 mixed := by kernel_rfl
 f106 := Tryz.func158.trans (congrArg some (by kernel_rfl))
 f213 := Tryz.func164.trans (congrArg some (by kernel_rfl))
 f265 := Tryz.func177.trans (congrArg some (by kernel_rfl))
 t3 := Tryz.underlying3
 a3 := Tryz.isAgg3
 z3 := Tryz.sizeOf3
 v3 := Tryz.zeroValue3
 t9 := Tryz.underlying9
 a9 := Tryz.isAgg9
 z9 := Tryz.sizeOf9
 v9 := Tryz.zeroValue9 }
open Go.RowKit in
theorem Tryz.strings_Compare (a b : ByteArray) (w : World) :
  Calls Tryz.prog 158 #[.string a, .string b] w fun e w' => e = .returned (.int .i64 (Lib.compareBytes a.data.toList b.data.toList)) ∧ w' = w := Any.strings_Compare Tryz.lays106 a b w
def Tryz.lays122_ren : Go.Shelf.Ren := ⟨fun | 122 => 109 | 215 => 125 | n => n, fun | 3 => 3 | 4 => 4 | n => n, fun | n => n⟩
theorem Tryz.lays122 : Go.Proofs.Lays.n122 Tryz.prog Tryz.lays122_ren := {
 mixed := by kernel_rfl
 f122 := Tryz.func109.trans (congrArg some (by kernel_rfl))
 f215 := Tryz.func125.trans (congrArg some (by kernel_rfl))
 t3 := Tryz.underlying3
 a3 := Tryz.isAgg3
 z3 := Tryz.sizeOf3
 v3 := Tryz.zeroValue3
 t4 := Tryz.underlying4
 a4 := Tryz.isAgg4
 z4 := Tryz.sizeOf4
 v4 := Tryz.zeroValue4 }
open Go.RowKit in
theorem Tryz.cmp_Compare_int (x y : Int) (w : World) :
  Calls Tryz.prog 109 #[.int .i64 x, .int .i64 y] w fun e w' => e = .returned (.int .i64 (Lib.compareInt x y)) ∧ w' = w := Any.cmp_Compare_int Tryz.lays122 x y w
def Tryz.lays145_ren : Go.Shelf.Ren := ⟨fun | 145 => 137 | 220 => 152 | 219 => 161 | 217 => 165 | 225 => 166 | 224 => 167 | 267 => 168 | 266 => 178 | 314 => 179 | n => n, fun | 9 => 9 | 4 => 4 | 59 => 130 | 3 => 3 | 5 => 5 | 46 => 127 | 146 => 189 | 51 => 147 | n => n, fun | 1 => 0 | n => n⟩
theorem Tryz.lays145 : Go.Proofs.Lays.n145 Tryz.prog Tryz.lays145_ren := {
 mixed := by kernel_rfl
 f145 := Tryz.func137.trans (congrArg some (by kernel_rfl))
 f217 := Tryz.func165.trans (congrArg some (by kernel_rfl))
 f219 := Tryz.func161.trans (congrArg some (by kernel_rfl))
 f220 := Tryz.func152.trans (congrArg some (by kernel_rfl))
 f224 := Tryz.func167.trans (congrArg some (by kernel_rfl))
 f225 := Tryz.func166.trans (congrArg some (by kernel_rfl))
 f266 := Tryz.func178.trans (congrArg some (by kernel_rfl))
 f267 := Tryz.func168.trans (congrArg some (by kernel_rfl))
 f314 := Tryz.func179.trans (congrArg some (by kernel_rfl))
 t3 := Tryz.underlying3
 a3 := Tryz.isAgg3
 z3 := Tryz.sizeOf3
 v3 := Tryz.zeroValue3
 t4 := Tryz.underlying4
 a4 := Tryz.isAgg4
 z4 := Tryz.sizeOf4
 v4 := Tryz.zeroValue4
 t5 := Tryz.underlying5
 a5 := Tryz.isAgg5
 z5 := Tryz.sizeOf5
 v5 := Tryz.zeroValue5
 t9 := Tryz.underlying9
 a9 := Tryz.isAgg9
 z9 := Tryz.sizeOf9
 v9 := Tryz.zeroValue9
 t46 := Tryz.underlying127
 a46 := Tryz.isAgg127
 z46 := Tryz.sizeOf127
 v46 := Tryz.zeroValue127
 t51 := Tryz.underlying147
 a51 := Tryz.isAgg147
 z51 := Tryz.sizeOf147
 v51 := Tryz.zeroValue147
 t59 := Tryz.underlying130
 a59 := Tryz.isAgg130
 z59 := Tryz.sizeOf130
 v59 := Tryz.zeroValue130
 t146 := Tryz.underlying189
 a146 := Tryz.isAgg189
 z146 := Tryz.sizeOf189
 v146 := Tryz.zeroValue189
 g1 := by kernel_rfl }
open Go.RowKit Go.Lib in
theorem Tryz.strings_Cut (s sep : ByteArray) (m : Int) (w : World) (hs : s.size < 4294967281) (hm : w.cell? ⟨0, 0, none⟩ = some (.int .i64 m)) :
  Calls Tryz.prog 137 #[.string s, .string sep] w fun e w' => e = .returned (.tuple #[.string ⟨(Lib.cut s.data.toList sep.data.toList).1.toArray⟩, .string ⟨(Lib.cut s.data.toList sep.data.toList).2.1.toArray⟩, .bool (Lib.cut s.data.toList sep.data.toList).2.2]) ∧ ∃ n, w' = w.drewN n := Any.strings_Cut Tryz.lays145 s sep m w hs hm
def Tryz.lays101_ren : Go.Shelf.Ren := ⟨fun | 101 => 138 | 208 => 153 | 206 => 162 | n => n, fun | 9 => 9 | 4 => 4 | 3 => 3 | n => n, fun | n => n⟩
theorem Tryz.lays101 : Go.Proofs.Lays.n101 Tryz.prog Tryz.lays101_ren := {
 mixed := by kernel_rfl
 f101 := Tryz.func138.trans (congrArg some (by kernel_rfl))
 f206 := Tryz.func162.trans (congrArg some (by kernel_rfl))
 f208 := Tryz.func153.trans (congrArg some (by kernel_rfl))
 t3 := Tryz.underlying3
 a3 := Tryz.isAgg3
 z3 := Tryz.sizeOf3
 v3 := Tryz.zeroValue3
 t4 := Tryz.underlying4
 a4 := Tryz.isAgg4
 z4 := Tryz.sizeOf4
 v4 := Tryz.zeroValue4
 t9 := Tryz.underlying9
 a9 := Tryz.isAgg9
 z9 := Tryz.sizeOf9
 v9 := Tryz.zeroValue9 }
open Go.RowKit Go.Lib in
theorem Tryz.strings_TrimPrefix (s p : ByteArray) (w : World) :
  Calls Tryz.prog 138 #[.string s, .string p] w fun e w' => e = .returned (.string ⟨(Lib.trimPrefix s.data.toList p.data.toList).toArray⟩) ∧ w' = w := Any.strings_TrimPrefix Tryz.lays101 s p w
def Tryz.sortLab_ren : Go.Shelf.Ren := ⟨fun | 6 => 156 | 15 => 107 | 14 => 163 | 28 => 123 | 29 => 124 | 20 => 169 | 21 => 170 | 22 => 171 | 23 => 172 | 24 => 173 | 25 => 174 | 26 => 175 | 27 => 176 | 46 => 180 | 47 => 143 | 48 => 144 | 49 => 181 | 50 => 182 | 57 => 183 | n => n, fun | 22 => 118 | 24 => 133 | 25 => 175 | 3 => 3 | 39 => 127 | 0 => 0 | 53 => 147 | 55 => 48 | 4 => 4 | 46 => 141 | 45 => 140 | 50 => 85 | 5 => 5 | 9 => 9 | 66 => 163 | 70 => 167 | 76 => 176 | 77 => 177 | n => n, fun | n => n⟩
theorem Tryz.sortLab : Go.Proofs.SlLaysF0.n6 Tryz.prog Tryz.sortLab_ren := {
 mixed := by kernel_rfl
 f6 := ⟨Tryz.f156.name, by decide, Tryz.func156.trans (congrArg some (by kernel_rfl))⟩
 f14 := ⟨Tryz.f163.name, by decide, Tryz.func163.trans (congrArg some (by kernel_rfl))⟩
 f15 := Tryz.func107.trans (congrArg some (by kernel_rfl))
 f20 := ⟨Tryz.f169.name, by decide, Tryz.func169.trans (congrArg some (by kernel_rfl))⟩
 f21 := ⟨Tryz.f170.name, by decide, Tryz.func170.trans (congrArg some (by kernel_rfl))⟩
 f22 := ⟨Tryz.f171.name, by decide, Tryz.func171.trans (congrArg some (by kernel_rfl))⟩
 f23 := ⟨Tryz.f172.name, by decide, Tryz.func172.trans (congrArg some (by kernel_rfl))⟩
 f24 := ⟨Tryz.f173.name, by decide, Tryz.func173.trans (congrArg some (by kernel_rfl))⟩
 f25 := ⟨Tryz.f174.name, by decide, Tryz.func174.trans (congrArg some (by kernel_rfl))⟩
 f26 := ⟨Tryz.f175.name, by decide, Tryz.func175.trans (congrArg some (by kernel_rfl))⟩
 f27 := ⟨Tryz.f176.name, by decide, Tryz.func176.trans (congrArg some (by kernel_rfl))⟩
 f28 := Tryz.func123.trans (congrArg some (by kernel_rfl))
 f29 := Tryz.func124.trans (congrArg some (by kernel_rfl))
 f46 := ⟨Tryz.f180.name, by decide, Tryz.func180.trans (congrArg some (by kernel_rfl))⟩
 f47 := Tryz.func143.trans (congrArg some (by kernel_rfl))
 f48 := Tryz.func144.trans (congrArg some (by kernel_rfl))
 f49 := ⟨Tryz.f181.name, by decide, Tryz.func181.trans (congrArg some (by kernel_rfl))⟩
 f50 := ⟨Tryz.f182.name, by decide, Tryz.func182.trans (congrArg some (by kernel_rfl))⟩
 f57 := ⟨Tryz.f183.name, by decide, Tryz.func183.trans (congrArg some (by kernel_rfl))⟩
 t0 := Tryz.underlying0
 a0 := Tryz.isAgg0
 z0 := Tryz.sizeOf0
 v0 := Tryz.zeroValue0
 t3 := Tryz.underlying3
 a3 := Tryz.isAgg3
 z3 := Tryz.sizeOf3
 v3 := Tryz.zeroValue3
 t4 := Tryz.underlying4
 a4 := Tryz.isAgg4
 z4 := Tryz.sizeOf4
 v4 := Tryz.zeroValue4
 t5 := Tryz.underlying5
 a5 := Tryz.isAgg5
 z5 := Tryz.sizeOf5
 v5 := Tryz.zeroValue5
 t9 := Tryz.underlying9
 a9 := Tryz.isAgg9
 z9 := Tryz.sizeOf9
 v9 := Tryz.zeroValue9
 t22 := Tryz.underlying118
 a22 := Tryz.isAgg118
 z22 := Tryz.sizeOf118
 v22 := Tryz.zeroValue118
 t25 := Tryz.underlying175
 a25 := Tryz.isAgg175
 z25 := Tryz.sizeOf175
 v25 := Tryz.zeroValue175
 t39 := Tryz.underlying127
 a39 := Tryz.isAgg127
 z39 := Tryz.sizeOf127
 v39 := Tryz.zeroValue127
 t45 := Tryz.underlying140
 a45 := Tryz.isAgg140
 z45 := Tryz.sizeOf140
 v45 := Tryz.zeroValue140
 t46 := Tryz.underlying141
 a46 := Tryz.isAgg141
 z46 := Tryz.sizeOf141
 v46 := Tryz.zeroValue141
 t50 := Tryz.underlying85
 a50 := Tryz.isAgg85
 z50 := Tryz.sizeOf85
 v50 := Tryz.zeroValue85
 t53 := Tryz.underlying147
 a53 := Tryz.isAgg147
 z53 := Tryz.sizeOf147
 v53 := Tryz.zeroValue147
 t55 := Tryz.underlying48
 a55 := Tryz.isAgg48
 z55 := Tryz.sizeOf48
 v55 := Tryz.zeroValue48
 t66 := Tryz.underlying163
 a66 := Tryz.isAgg163
 z66 := Tryz.sizeOf163
 v66 := Tryz.zeroValue163
 t70 := Tryz.underlying167
 a70 := Tryz.isAgg167
 z70 := Tryz.sizeOf167
 v70 := Tryz.zeroValue167
 t76 := Tryz.underlying176
 a76 := Tryz.isAgg176
 z76 := Tryz.sizeOf176
 v76 := Tryz.zeroValue176
 t77 := Tryz.underlying177
 a77 := Tryz.isAgg177
 z77 := Tryz.sizeOf177
 v77 := Tryz.zeroValue177 }
def Tryz.sortDot_ren : Go.Shelf.Ren := ⟨fun | 6 => 103 | 15 => 107 | 14 => 112 | 28 => 123 | 29 => 124 | 20 => 129 | 21 => 130 | 22 => 131 | 23 => 132 | 24 => 133 | 25 => 134 | 26 => 135 | 27 => 136 | 46 => 149 | 47 => 143 | 48 => 144 | 49 => 150 | 50 => 151 | 57 => 160 | n => n, fun | 22 => 23 | 24 => 51 | 25 => 117 | 3 => 3 | 39 => 127 | 0 => 0 | 53 => 147 | 55 => 48 | 4 => 4 | 46 => 141 | 45 => 140 | 50 => 85 | 5 => 5 | 9 => 9 | 66 => 163 | 70 => 167 | 76 => 176 | 77 => 177 | n => n, fun | n => n⟩
theorem Tryz.sortDot : Go.Proofs.SlLaysF0.n6 Tryz.prog Tryz.sortDot_ren := {
 mixed := by kernel_rfl
 f6 := ⟨Tryz.f103.name, by decide, Tryz.func103.trans (congrArg some (by kernel_rfl))⟩
 f14 := ⟨Tryz.f112.name, by decide, Tryz.func112.trans (congrArg some (by kernel_rfl))⟩
 f15 := Tryz.func107.trans (congrArg some (by kernel_rfl))
 f20 := ⟨Tryz.f129.name, by decide, Tryz.func129.trans (congrArg some (by kernel_rfl))⟩
 f21 := ⟨Tryz.f130.name, by decide, Tryz.func130.trans (congrArg some (by kernel_rfl))⟩
 f22 := ⟨Tryz.f131.name, by decide, Tryz.func131.trans (congrArg some (by kernel_rfl))⟩
 f23 := ⟨Tryz.f132.name, by decide, Tryz.func132.trans (congrArg some (by kernel_rfl))⟩
 f24 := ⟨Tryz.f133.name, by decide, Tryz.func133.trans (congrArg some (by kernel_rfl))⟩
 f25 := ⟨Tryz.f134.name, by decide, Tryz.func134.trans (congrArg some (by kernel_rfl))⟩
 f26 := ⟨Tryz.f135.name, by decide, Tryz.func135.trans (congrArg some (by kernel_rfl))⟩
 f27 := ⟨Tryz.f136.name, by decide, Tryz.func136.trans (congrArg some (by kernel_rfl))⟩
 f28 := Tryz.func123.trans (congrArg some (by kernel_rfl))
 f29 := Tryz.func124.trans (congrArg some (by kernel_rfl))
 f46 := ⟨Tryz.f149.name, by decide, Tryz.func149.trans (congrArg some (by kernel_rfl))⟩
 f47 := Tryz.func143.trans (congrArg some (by kernel_rfl))
 f48 := Tryz.func144.trans (congrArg some (by kernel_rfl))
 f49 := ⟨Tryz.f150.name, by decide, Tryz.func150.trans (congrArg some (by kernel_rfl))⟩
 f50 := ⟨Tryz.f151.name, by decide, Tryz.func151.trans (congrArg some (by kernel_rfl))⟩
 f57 := ⟨Tryz.f160.name, by decide, Tryz.func160.trans (congrArg some (by kernel_rfl))⟩
 t0 := Tryz.underlying0
 a0 := Tryz.isAgg0
 z0 := Tryz.sizeOf0
 v0 := Tryz.zeroValue0
 t3 := Tryz.underlying3
 a3 := Tryz.isAgg3
 z3 := Tryz.sizeOf3
 v3 := Tryz.zeroValue3
 t4 := Tryz.underlying4
 a4 := Tryz.isAgg4
 z4 := Tryz.sizeOf4
 v4 := Tryz.zeroValue4
 t5 := Tryz.underlying5
 a5 := Tryz.isAgg5
 z5 := Tryz.sizeOf5
 v5 := Tryz.zeroValue5
 t9 := Tryz.underlying9
 a9 := Tryz.isAgg9
 z9 := Tryz.sizeOf9
 v9 := Tryz.zeroValue9
 t22 := Tryz.underlying23
 a22 := Tryz.isAgg23
 z22 := Tryz.sizeOf23
 v22 := Tryz.zeroValue23
 t25 := Tryz.underlying117
 a25 := Tryz.isAgg117
 z25 := Tryz.sizeOf117
 v25 := Tryz.zeroValue117
 t39 := Tryz.underlying127
 a39 := Tryz.isAgg127
 z39 := Tryz.sizeOf127
 v39 := Tryz.zeroValue127
 t45 := Tryz.underlying140
 a45 := Tryz.isAgg140
 z45 := Tryz.sizeOf140
 v45 := Tryz.zeroValue140
 t46 := Tryz.underlying141
 a46 := Tryz.isAgg141
 z46 := Tryz.sizeOf141
 v46 := Tryz.zeroValue141
 t50 := Tryz.underlying85
 a50 := Tryz.isAgg85
 z50 := Tryz.sizeOf85
 v50 := Tryz.zeroValue85
 t53 := Tryz.underlying147
 a53 := Tryz.isAgg147
 z53 := Tryz.sizeOf147
 v53 := Tryz.zeroValue147
 t55 := Tryz.underlying48
 a55 := Tryz.isAgg48
 z55 := Tryz.sizeOf48
 v55 := Tryz.zeroValue48
 t66 := Tryz.underlying163
 a66 := Tryz.isAgg163
 z66 := Tryz.sizeOf163
 v66 := Tryz.zeroValue163
 t70 := Tryz.underlying167
 a70 := Tryz.isAgg167
 z70 := Tryz.sizeOf167
 v70 := Tryz.zeroValue167
 t76 := Tryz.underlying176
 a76 := Tryz.isAgg176
 z76 := Tryz.sizeOf176
 v76 := Tryz.zeroValue176
 t77 := Tryz.underlying177
 a77 := Tryz.isAgg177
 z77 := Tryz.sizeOf177
 v77 := Tryz.zeroValue177 }
def Tryz.sortEnt_ren : Go.Shelf.Ren := ⟨fun | 6 => 95 | 15 => 107 | 14 => 106 | 28 => 123 | 29 => 124 | 20 => 115 | 21 => 116 | 22 => 117 | 23 => 118 | 24 => 119 | 25 => 120 | 26 => 121 | 27 => 122 | 46 => 142 | 47 => 143 | 48 => 144 | 49 => 145 | 50 => 146 | 57 => 159 | n => n, fun | 22 => 22 | 24 => 54 | 25 => 115 | 3 => 3 | 39 => 127 | 0 => 0 | 53 => 147 | 55 => 48 | 4 => 4 | 46 => 141 | 45 => 140 | 50 => 85 | 5 => 5 | 9 => 9 | 66 => 163 | 70 => 167 | 76 => 176 | 77 => 177 | n => n, fun | n => n⟩
theorem Tryz.sortEnt : Go.Proofs.SlLaysF0.n6 Tryz.prog Tryz.sortEnt_ren := {
 mixed := by kernel_rfl
 f6 := ⟨Tryz.f95.name, by decide, Tryz.func95.trans (congrArg some (by kernel_rfl))⟩
 f14 := ⟨Tryz.f106.name, by decide, Tryz.func106.trans (congrArg some (by kernel_rfl))⟩
 f15 := Tryz.func107.trans (congrArg some (by kernel_rfl))
 f20 := ⟨Tryz.f115.name, by decide, Tryz.func115.trans (congrArg some (by kernel_rfl))⟩
 f21 := ⟨Tryz.f116.name, by decide, Tryz.func116.trans (congrArg some (by kernel_rfl))⟩
 f22 := ⟨Tryz.f117.name, by decide, Tryz.func117.trans (congrArg some (by kernel_rfl))⟩
 f23 := ⟨Tryz.f118.name, by decide, Tryz.func118.trans (congrArg some (by kernel_rfl))⟩
 f24 := ⟨Tryz.f119.name, by decide, Tryz.func119.trans (congrArg some (by kernel_rfl))⟩
 f25 := ⟨Tryz.f120.name, by decide, Tryz.func120.trans (congrArg some (by kernel_rfl))⟩
 f26 := ⟨Tryz.f121.name, by decide, Tryz.func121.trans (congrArg some (by kernel_rfl))⟩
 f27 := ⟨Tryz.f122.name, by decide, Tryz.func122.trans (congrArg some (by kernel_rfl))⟩
 f28 := Tryz.func123.trans (congrArg some (by kernel_rfl))
 f29 := Tryz.func124.trans (congrArg some (by kernel_rfl))
 f46 := ⟨Tryz.f142.name, by decide, Tryz.func142.trans (congrArg some (by kernel_rfl))⟩
 f47 := Tryz.func143.trans (congrArg some (by kernel_rfl))
 f48 := Tryz.func144.trans (congrArg some (by kernel_rfl))
 f49 := ⟨Tryz.f145.name, by decide, Tryz.func145.trans (congrArg some (by kernel_rfl))⟩
 f50 := ⟨Tryz.f146.name, by decide, Tryz.func146.trans (congrArg some (by kernel_rfl))⟩
 f57 := ⟨Tryz.f159.name, by decide, Tryz.func159.trans (congrArg some (by kernel_rfl))⟩
 t0 := Tryz.underlying0
 a0 := Tryz.isAgg0
 z0 := Tryz.sizeOf0
 v0 := Tryz.zeroValue0
 t3 := Tryz.underlying3
 a3 := Tryz.isAgg3
 z3 := Tryz.sizeOf3
 v3 := Tryz.zeroValue3
 t4 := Tryz.underlying4
 a4 := Tryz.isAgg4
 z4 := Tryz.sizeOf4
 v4 := Tryz.zeroValue4
 t5 := Tryz.underlying5
 a5 := Tryz.isAgg5
 z5 := Tryz.sizeOf5
 v5 := Tryz.zeroValue5
 t9 := Tryz.underlying9
 a9 := Tryz.isAgg9
 z9 := Tryz.sizeOf9
 v9 := Tryz.zeroValue9
 t22 := Tryz.underlying22
 a22 := Tryz.isAgg22
 z22 := Tryz.sizeOf22
 v22 := Tryz.zeroValue22
 t25 := Tryz.underlying115
 a25 := Tryz.isAgg115
 z25 := Tryz.sizeOf115
 v25 := Tryz.zeroValue115
 t39 := Tryz.underlying127
 a39 := Tryz.isAgg127
 z39 := Tryz.sizeOf127
 v39 := Tryz.zeroValue127
 t45 := Tryz.underlying140
 a45 := Tryz.isAgg140
 z45 := Tryz.sizeOf140
 v45 := Tryz.zeroValue140
 t46 := Tryz.underlying141
 a46 := Tryz.isAgg141
 z46 := Tryz.sizeOf141
 v46 := Tryz.zeroValue141
 t50 := Tryz.underlying85
 a50 := Tryz.isAgg85
 z50 := Tryz.sizeOf85
 v50 := Tryz.zeroValue85
 t53 := Tryz.underlying147
 a53 := Tryz.isAgg147
 z53 := Tryz.sizeOf147
 v53 := Tryz.zeroValue147
 t55 := Tryz.underlying48
 a55 := Tryz.isAgg48
 z55 := Tryz.sizeOf48
 v55 := Tryz.zeroValue48
 t66 := Tryz.underlying163
 a66 := Tryz.isAgg163
 z66 := Tryz.sizeOf163
 v66 := Tryz.zeroValue163
 t70 := Tryz.underlying167
 a70 := Tryz.isAgg167
 z70 := Tryz.sizeOf167
 v70 := Tryz.zeroValue167
 t76 := Tryz.underlying176
 a76 := Tryz.isAgg176
 z76 := Tryz.sizeOf176
 v76 := Tryz.zeroValue176
 t77 := Tryz.underlying177
 a77 := Tryz.isAgg177
 z77 := Tryz.sizeOf177
 v77 := Tryz.zeroValue177 }
end Go.Proofs
namespace Go.Proofs.YtonknpdalemjkaaGreat.lb
open Go Go.Shelf Go.RowKit Go.Lib Go.Sort
def enc (x : ByteArray × ByteArray) : List Value := [.string x.1, .string x.2]
def cf (x y : ByteArray × ByteArray) : Int := Lib.compareBytes x.1.data.toList y.1.data.toList
set_option maxHeartbeats 1000000 in
theorem closure (x y : ByteArray × ByteArray) (W : World) : Calls Tryz.prog 157 #[.agg #[.string x.1, .string x.2], .agg #[.string y.1, .string y.2]] W fun e w' => e = .returned (.int .i64 (cf x y)) ∧ ∃ q os', w' = grow (W.drewN q) os' := by
 have hcon := fun W' => Tryz.strings_Compare x.1 y.1 W'
 unfold cf
 generalize Lib.compareBytes x.1.data.toList y.1.data.toList = r at hcon ⊢
 go_enter Tryz.func157, Tryz.ntmps157
 go_wp2_with (go_at_call 158; refine (hcon _).mono ?_; rintro e w' ⟨rfl, rfl⟩)
 go_ret
 exact ⟨rfl, 0, _, by rw [alloc_eq_grow, alloc_eq_grow, grow_grow]; rfl⟩
theorem cmpLays (blk off size : Nat) (w : World) : CmpLays Tryz.prog 157 #[] enc 2 cf blk off size w :=
 fun _ _ _ _ x y => closure x y _
theorem hlen (n : Nat) (W : World) (h : n ≤ 12) : Calls Tryz.prog 107 #[.int .u64 n] W fun e w' => (∃ l : Int, e = .returned (.int .i64 l)) ∧ w' = W :=
 (Tryz.bits_Len n W (by omega) (by omega)).mono fun _ _ ⟨he, hw⟩ => ⟨⟨_, he⟩, hw⟩
set_option maxHeartbeats 1000000 in
theorem sortFunc (blk off cap : Nat) (d : Array (ByteArray × ByteArray)) (w : World) (hH : HoldsK enc 2 w blk off d) (hblk : blk < w.heap.size) (h12 : d.size ≤ 12) :
  Calls Tryz.prog 156 #[.slice (some ⟨blk, off, none⟩) d.size cap, .func (.func 157) #[] #[]] w fun e w' => e = .returned (.tuple #[]) ∧ ∃ n os, w' = sortWorldK enc 2 w blk off n (Sort.insertionSort (ltOf cf) d 0 d.size) os := by
 have eg : ∀ args w, (callFunc 157 args).run Tryz.prog w = .ok (.enter 157 args) w := enters_of Tryz.func157 (by kernel_rfl) rfl
 have hcon := AnyQ.slices_SortFunc_small Tryz.sortLab 2 Tryz.isAgg133 Tryz.sizeOf133 enc (fun _ => rfl) (fun x v hv => by simp [enc] at hv; rcases hv with rfl | rfl <;> rfl) cf 157 #[] blk off cap d w eg (cmpLays blk off d.size w) hH hblk h12 hlen
 exact hcon
end Go.Proofs.YtonknpdalemjkaaGreat.lb
namespace Go.Proofs.YtonknpdalemjkaaGreat.kit
open Go.RowKit Go.Sort
variable {α : Type} [Inhabited α]
theorem flat_len {α : Type} (enc : α → List Value) (k : Nat) (hk : ∀ x, (enc x).length = k) : ∀ l : List α, (l.flatMap enc).length = l.length * k := by
 intro l
 induction l with
 | nil => simp
 | cons x r ih => rw [List.flatMap_cons, List.length_append, hk, ih, List.length_cons, Nat.add_mul, Nat.one_mul, Nat.add_comm]
theorem flat_get (enc : α → List Value) (k : Nat) (hk : ∀ x, (enc x).length = k) (k0 : 0 < k) : ∀ (l : List α) (t : Nat), t < l.length * k → (l.flatMap enc)[t]! = (enc l[t / k]!)[t % k]! := by
 intro l
 induction l with
 | nil => intro t h; simp at h
 | cons x r ih =>
  intro t h
  rw [List.flatMap_cons]
  have hx := hk x
  by_cases ht : t < k
  ·
   have e1 : t / k = 0 := Nat.div_eq_of_lt ht
   have e2 : t % k = t := Nat.mod_eq_of_lt ht
   rw [e1, e2]
   have h1 : t < (enc x ++ r.flatMap enc).length := by rw [List.length_append]; omega
   rw [getElem!_pos _ t h1, List.getElem_append_left (by omega)]
   have : (x :: r)[0]! = x := rfl
   rw [this, getElem!_pos _ t (by omega)]
  ·
   obtain ⟨u, rfl⟩ : ∃ u, t = u + k := ⟨t - k, by omega⟩
   have hu : u < r.length * k := by rw [List.length_cons, Nat.add_mul, Nat.one_mul] at h; omega
   have hlen := flat_len enc k hk r
   have h1 : u + k < (enc x ++ r.flatMap enc).length := by rw [List.length_append]; omega
   have e1 : (u + k) / k = u / k + 1 := Nat.add_div_right u k0
   have e2 : (u + k) % k = u % k := Nat.add_mod_right u k
   have e3 : u + k - (enc x).length = u := by omega
   rw [getElem!_pos _ (u + k) h1, List.getElem_append_right (by omega), e1, e2]
   have h2 := ih u hu
   rw [getElem!_pos _ u (by omega)] at h2
   have e4 : (x :: r)[u / k + 1]! = r[u / k]! := by simp
   rw [e4, ← h2]
   simp only [e3]
theorem flatK_list (enc : α → List Value) (k : Nat) (hk : ∀ x, (enc x).length = k) (k0 : 0 < k) (d : Array α) : (flatK enc k d).toList = d.toList.flatMap enc := by
 have hlen := flat_len enc k hk d.toList
 refine List.ext_getElem (by rw [hlen, Array.length_toList, size_flatK, Array.length_toList]) fun t h1 h2 => ?_
 have ht : t < d.size * k := by rw [Array.length_toList, size_flatK] at h1; exact h1
 have a := get_flatK enc k d t ht
 have b := flat_get enc k hk k0 d.toList t (by rw [Array.length_toList]; exact ht)
 rw [getElem!_pos _ t (by rw [size_flatK]; exact ht)] at a
 rw [getElem!_pos _ t h2] at b
 rw [Array.getElem_toList, a, b]
 have : d.toList[t / k]! = d[t / k]! := by
  simp [Array.getElem!_eq_getD, Array.getD, List.getElem!_eq_getElem?_getD]
  by_cases h : t / k < d.size <;> simp [h]
 rw [this]
theorem sort_own {w : World} {base : Nat} {e : TypeId} {enc : α → List Value} {k n g cap : Nat} {l : List α} (hk : ∀ x, (enc x).length = k) (k0 : 0 < k) (hown : w.ownsRow base e k (.slice (some ⟨g, 0, none⟩) n cap) n (l.flatMap enc)) (hl : l.length = n) (hB : base ≤ w.heap.size) :
  HoldsK enc k w g 0 l.toArray ∧ g < w.heap.size ∧ base ≤ g ∧ ∀ (d : Array α) (m : Nat) (os : Array Obj), d.size = n →
   (sortWorldK enc k w g 0 m d os).ownsRow base e k (.slice (some ⟨g, 0, none⟩) n cap) n (d.toList.flatMap enc) ∧ Below base w (sortWorldK enc k w g 0 m d os) := by
 have hlt := hown.lt g rfl
 rcases hown.2 with ⟨hv, _⟩ | ⟨g', cap', cur, hv, hbg, hg, hnc, hcm, hcs, htake⟩
 ·
  cases hv
 simp only [Value.slice.injEq, Option.some.injEq, Addr.mk.injEq] at hv
 obtain ⟨⟨rfl, _, _⟩, _, rfl⟩ := hv
 have hfl := flatK_list enc k hk k0 l.toArray
 have hnk : n * k ≤ cap * k := Nat.mul_le_mul_right _ hnc
 refine ⟨?_, hlt.2, hbg, fun d m os hd => ⟨?_, ?_⟩⟩
 ·
  intro j hj
  have hj2 : j < n * k := by rw [size_flatK, List.size_toArray, hl] at hj; exact hj
  refine ⟨?_, by simp [World.frozen?, hg]⟩
  have hc : (l.flatMap enc)[j]? = some ((flatK enc k l.toArray)[j]!) := by
   have h1 : j < (flatK enc k l.toArray).toList.length := by rw [Array.length_toList]; exact hj
   have h2 : (flatK enc k l.toArray).toList[j]? = (l.flatMap enc)[j]? := by rw [hfl]
   rw [← h2, List.getElem?_eq_getElem h1, Array.getElem_toList, getElem!_pos _ j hj]
  have := hown.cells (g := g) rfl j _ hc
  rw [Addr.add_lit] at this
  exact this
 ·
  have hs : (flatK enc k d).size = n * k := by rw [size_flatK, hd]
  refine ⟨by rw [flat_len enc k hk, Array.length_toList, hd], Or.inr ⟨g, cap, putCells id 0 (flatK enc k d) cur, rfl, hbg, ?_, hnc, hcm, by simp [putCells, hcs], ?_⟩⟩
  ·
   unfold sortWorldK putRowK
   rw [heap_grow_old _ _ (by simpa using hlt.2)]
   simp [putRow, mapBlock, Sort.ahead, Array.getElem?_modify, hg, onCells]
  ·
   rw [← flatK_list enc k hk k0 d]
   apply List.ext_getElem?
   intro j
   by_cases hj : j < n * k
   ·
    have hjf : j < (flatK enc k d).size := by omega
    rw [List.getElem?_take_of_lt hj, Array.getElem?_toList, Array.getElem?_toList]
    have hjc : j < cur.size := by omega
    rw [getElem?_pos (flatK enc k d) j hjf]
    simp only [putCells, Array.getElem?_mapIdx, getElem?_pos cur j hjc, Option.map_some, Nat.sub_zero, id]
    rw [if_pos (show 0 ≤ j ∧ j < 0 + (flatK enc k d).size from ⟨Nat.zero_le _, by omega⟩), getElem!_pos (flatK enc k d) j hjf]
   ·
    rw [List.getElem?_eq_none (by rw [List.length_take]; omega), List.getElem?_eq_none (by rw [Array.length_toList]; omega)]
 ·
  unfold sortWorldK putRowK
  refine ⟨rfl, rfl, rfl, by simp, fun i hi => ?_⟩
  have hne : g ≠ i := by omega
  rw [heap_grow_old _ _ (by simp; omega)]
  simp [putRow, mapBlock, Sort.ahead, Array.getElem?_modify, hne]
end Go.Proofs.YtonknpdalemjkaaGreat.kit
namespace Go.Proofs.YtonknpdalemjkaaGreat.lm
open Go.RowKit Go.Sort Go.Maps
theorem cf_tless (x y : Lab) : ltOf lb.cf x y = tless x.1 y.1 := by
 have h : ltOf lb.cf x y = true ↔ tless x.1 y.1 = true := by
  unfold ltOf lb.cf
  rw [decide_eq_true_iff, cmp_lt, tless_iff, ByteArray.toList_eq, ByteArray.toList_eq]
 exact Bool.eq_iff_iff.2 h
theorem swo : SWO (ltOf lb.cf) where
 irrefl x := by rw [cf_tless, tless_irrefl]
 trans x y z h1 h2 := by rw [cf_tless] at *; exact tless_trans h1 h2
 ntrans x y z h1 h2 := by
  rw [cf_tless] at *
  by_cases e1 : x.1 = y.1
  ·
   rw [e1]; exact h2
  ·
   by_cases e2 : y.1 = z.1
   ·
    rw [← e2]; exact h1
   ·
    have h3 := (tless_total e1).resolve_left (by rw [h1]; exact Bool.false_ne_true)
    have h4 := (tless_total e2).resolve_left (by rw [h2]; exact Bool.false_ne_true)
    cases h : tless x.1 z.1 with
    | false => rfl
    | true => exact (tless_asymm h (tless_trans h4 h3)).elim
theorem sorted_is {l : List Lab} {d : Array Lab} (hn : (names l).Nodup) (hp : PermIn 0 l.toArray.size l.toArray d) (hs : SortedIn (ltOf lb.cf) 0 l.toArray.size d) : d.toList = sortN l := by
 obtain ⟨h1, _, h2⟩ := hp
 have e1 : (d.extract 0 l.toArray.size) = d := by rw [← h1]; simp
 have e2 : (l.toArray.extract 0 l.toArray.size).toList = l := by simp
 rw [e1, e2] at h2
 have hnd : (names d.toList).Nodup := (names_perm h2).nodup_iff.2 hn
 refine srt_unique ?_ (sortN_srt hn) (h2.trans (sortN_perm l).symm)
 unfold Srt
 rw [List.pairwise_iff_getElem]
 intro i j hi hj hij
 have hi' : i < d.size := by simpa using hi
 have hj' : j < d.size := by simpa using hj
 have h3 := hs i j (Nat.zero_le _) hij (by rw [← h1]; exact hj')
 rw [cf_tless, getElem!_pos d j hj', getElem!_pos d i hi'] at h3
 have hne : d[i].1 ≠ d[j].1 := fun e => by
  have h4 := List.pairwise_iff_getElem.1 hnd i j (by simpa [names] using hi') (by simpa [names] using hj') hij
  exact h4 (by simpa [names] using e)
 rw [Array.getElem_toList, Array.getElem_toList]
 exact (tless_total hne).resolve_right (by rw [h3]; exact Bool.false_ne_true)
def MapN (D : DataW Unit) (U : List ByteArray) : Prop := ∀ s, Maps.has D (.string s.data.toList) = decide (s ∈ U)
theorem mapN_nil : MapN (.map []) [] := fun _ => rfl
theorem mapN_put {D : DataW Unit} {U : List ByteArray} {s : ByteArray} (h : MapN D U) (hm : IsMap D) (d : DataW Unit) : MapN (D.put (.string s.data.toList) d) (U ++ [s]) := by
 intro t
 by_cases e : t = s
 ·
  subst e
  rw [has_put_same hm (by trivial)]
  simp
 ·
  rw [has_put_other (fun e2 => e (ByteArray.ext (Array.ext' (by simpa using e2)))), h t]
  simp [e]
end Go.Proofs.YtonknpdalemjkaaGreat.lm
namespace Go.Proofs.YtonknpdalemjkaaGreat
open Go.RowKit Go.ChangeShapes Go.Maps Go.WideMaps
theorem two {w w2 : World} {x y : Value} {t : TypeId} (hb : Below (w.alloc (.cells #[x, y] t)).heap.size (w.alloc (.cells #[x, y] t)) w2) :
  w2.cell? ⟨w.heap.size, 0, none⟩ = some x ∧ w2.cell? ⟨w.heap.size, 1, none⟩ = some y ∧ w2.frozen? ⟨w.heap.size, 0, none⟩ = false ∧ w2.frozen? ⟨w.heap.size, 1, none⟩ = false ∧ w.heap.size < w2.heap.size := by
 have hs : w.heap.size < (w.alloc (.cells #[x, y] t)).heap.size := by simp
 have c : ∀ (k : Nat) (u : Value), (#[x, y] : Array Value)[k]? = some u → w2.cell? ⟨w.heap.size, k, none⟩ = some u := fun k u hu =>
  (hb.cell (p := ⟨w.heap.size, k, none⟩) hs).trans (by rw [World.cell?_alloc_at _ _ _ _ rfl]; exact hu)
 have f : ∀ k : Nat, w2.frozen? ⟨w.heap.size, k, none⟩ = false := fun k => (hb.frozen (p := ⟨w.heap.size, k, none⟩) hs).trans (World.frozen?_alloc_at _ _ _ _ rfl)
 exact ⟨c 0 x rfl, c 1 y rfl, f 0, f 1, by have := hb.size; simp at this; omega⟩
theorem mlaw : Keyed Tryz.prog 9 := string_keyed Tryz.underlying9
theorem zeroI (w : World) : (zeroValue 3).run Tryz.prog w = .ok (.int .i64 0) w := by kernel_rfl
theorem look_ok {H : Type} {P : Program} {w : World} {ops : Array Oper} {rest : List Oper} {o : Oper} {a : Act} {Q : Exit → Act → World → Prop} (hg : o.guard = none) (m x : Operand) (t : TypeId) (hop : o.op = Op.lookup t m x true)
  (k e : TypeId) (q : IntKind) (K : Keyed P k) (ht : P.underlying t = some (.map k e)) (he : P.underlying e = some (.int q)) (hz : (zeroValue e).run P w = .ok (.int q 0) w) (b n : Nat) (D : DataW H)
  (hm : a.eval m = .map (some b)) (hown : w.ownsMap P k (plainElem P e) b n D) (key : Value) (kl : Lit) (hx : a.eval x = key) (hkey : keyOf P k key = some kl) (r : Bool) (hr : Maps.has D kl = r)
  (hK : ∀ c : Int, wpList P ops Q rest (a.put o.dst (.tuple #[.int q c, .bool r])) w) : wpList P ops Q (o :: rest) a w :=
 wpList_lookup_own_ok_int w hg m x t hop k e q K ht he hz b n D hm hown key kl hx hkey fun c _ _ => hr ▸ hK c
theorem infoLab : (Tryz.prog.info? 133).map (fun i => (i.zero, i.size, i.bytes)) = some (some (.agg #[.string ⟨#[]⟩, .string ⟨#[]⟩]), 2, 32) := by kernel_rfl
def CanonP (r : Int × List Lab) (w : World) (e : Ending) (w' : World) : Prop := ∃ v, e = .returned (.tuple #[v, .int .i64 r.1]) ∧ Labs w' w'.heap.size v r.2 ∧ Below w.heap.size w w'
theorem lcells_app (a b : List Lab) : lcells (a ++ b) = lcells a ++ lcells b := by simp [lcells]
theorem own_form {w : World} {B n k : Nat} {e : TypeId} {v : Value} {xs : List Value} (h : w.ownsRow B e k v n xs) : (v = .slice none 0 0 ∧ n = 0) ∨ ∃ g cap, v = .slice (some ⟨g, 0, none⟩) n cap ∧ B ≤ g := by
 rcases h.2 with ⟨rfl, hx⟩ | ⟨g, cap, cur, rfl, hbg, _⟩
 ·
  exact Or.inl ⟨rfl, hx⟩
 ·
  exact Or.inr ⟨g, cap, rfl, hbg⟩
end Go.Proofs.YtonknpdalemjkaaGreat
namespace Go.Proofs.YtonknpdalemjkaaGreat
open Go.RowKit Go.ChangeShapes
set_option maxHeartbeats 1600000 in
set_option maxRecDepth 100000 in
theorem isval_any (s : ByteArray) (w : World) (hs : s.size ≤ maxLen) :
  Calls Tryz.prog 155 #[.string s] w (Said (lb.isVal s) w) := by
 unfold maxLen at hs
 have HE : Hid (lb.isVal s = decide (s.size ≤ 32 ∧ lb.VlOk s s.size)) := rfl
 obtain ⟨R, hR⟩ : ∃ R, R = lb.isVal s := ⟨_, rfl⟩
 rw [← hR] at HE ⊢
 clear hR
 by_cases h2 : 32 < s.size
 ·
  have HR : Hid (R = false) := by show _ = _; rw [HE.out]; exact decide_eq_false (fun h => by omega)
  have h2I : (32 : Int) < (s.size : Int) := by omega
  go_enter Tryz.func155, Tryz.ntmps155
  go_wp2
  go_ret
  rw [HR.out]; exact ⟨rfl, Below.refl _ _⟩
 have h2I : ¬ (32 : Int) < (s.size : Int) := by omega
 go_enter Tryz.func155, Tryz.ntmps155
 go_wp2
 go_loop [3, 9] (fun _ i => ∃ k : Nat, k ≤ s.size ∧ i = .int .i64 k ∧ Hid (lb.VlOk s k)) (fun _ i => s.size - (intOf i).toNat)
 case atStart => exact ⟨0, Nat.zero_le _, rfl, fun i hi => absurd hi (Nat.not_lt_zero _)⟩
 case round =>
  obtain ⟨k, hk, rfl, HV⟩ := hrel
  by_cases hlt : k < s.size
  ·
   have HBT := Lib.hid (lb.byte_at s k hlt)
   have hkI : (k : Int) < (s.size : Int) := by omega
   by_cases hv : 32 ≤ (s[k]'hlt).toNat ∧ (s[k]'hlt).toNat ≤ 126
   ·
    obtain ⟨hv1, hv2⟩ := hv
    have HG : Hid (lb.VlOk s (k + 1)) := lb.vl_succ HV.out (by rw [HBT.out]; exact ⟨hv1, hv2⟩)
    have g1 : ¬ ((s[k]'hlt).toNat : Int) < 32 := by omega
    have g2 : ¬ (126 : Int) < ((s[k]'hlt).toNat : Int) := by omega
    have g3 : ¬ (s[k]'hlt).toNat < 32 := by omega
    have g4 : ¬ 126 < (s[k]'hlt).toNat := by omega
    go_wp2
    go_round
    case rel => exact ⟨k + 1, by omega, by go_num, HG⟩
    case measure => simp [intOf]; omega
   ·
    have HR : Hid (R = false) := by
     show _ = _
     rw [HE.out]
     refine decide_eq_false (fun h => hv ?_)
     have := h.2 k hlt
     rw [HBT.out] at this; exact this
    by_cases h3 : (s[k]'hlt).toNat < 32
    ·
     have g1 : ((s[k]'hlt).toNat : Int) < 32 := by omega
     clear hv
     go_wp2
     go_ret
     rw [HR.out]; exact ⟨rfl, Below.refl _ _⟩
    ·
     have g1 : ¬ ((s[k]'hlt).toNat : Int) < 32 := by omega
     have g2 : (126 : Int) < ((s[k]'hlt).toNat : Int) := by omega
     have g4 : 126 < (s[k]'hlt).toNat := by omega
     clear hv
     go_wp2
     go_ret
     rw [HR.out]; exact ⟨rfl, Below.refl _ _⟩
  ·
   obtain rfl : k = s.size := by omega
   have HR : Hid (R = true) := by show _ = _; rw [HE.out]; exact decide_eq_true ⟨by omega, HV.out⟩
   go_wp2
   go_ret
   rw [HR.out]; exact ⟨rfl, Below.refl _ _⟩
end Go.Proofs.YtonknpdalemjkaaGreat
namespace Go.Proofs.YtonknpdalemjkaaGreat
open Go.RowKit Go.ChangeShapes
theorem own_stay {B : Nat} {e : TypeId} {k : Nat} {v : Value} {n : Nat} {xs : List Value} {w w' : World} (h : w.ownsRow B e k v n xs) (hb : Below w.heap.size w w') : w'.ownsRow B e k v n xs :=
 h.kept (row := none) ⟨hb.os, hb.tape, hb.output, hb.size, fun i hi _ => hb.block i hi⟩ (by cases v.ownBlock <;> simp)
theorem app1g {P : Program} {w : World} {ops : Array Oper} {rest : List Oper} {o : Oper} {a : Act} {Q : Exit → Act → World → Prop} {cs : Array Value} {e' : TypeId}
  (s x : Operand) (t : TypeId) (hgd : o.guard = none)
  (ho : o.op = .call { callee := .builtin .append, args := #[s, x], argTypes := #[t, t] })
  (base : Nat) {e : TypeId} {z : Value} {size bytes : Nat} (ht : P.underlying t = some (.slice e)) (hi : (P.info? e).map (fun i => (i.zero, i.size, i.bytes)) = some (some z, size, bytes))
  (hzs : z.cells.size = size) (hsz : 0 < size) (hb1 : 0 < bytes)
  {v : Value} {n : Nat} {xs : List Value} {c : Nat} (hown : w.ownsRow base e size v n xs) (hs : a.eval s = v) (hx : a.eval x = .slice (some ⟨w.heap.size, 0, none⟩) 1 c)
  (hcs : cs.size = size) (h1 : ∀ u ∈ cs.toList, u.oneCell' = true) (hbytes : (n + 1) * bytes ≤ 140737488355328) (hbase : base ≤ w.heap.size)
  (h : ∀ v' w', w'.ownsRow base e size v' (n + 1) (xs ++ cs.toList) → (w.alloc (.cells cs e')).grownBy w' v.ownBlock → wpList P ops Q rest (a.put o.dst v') w') :
  wpList P ops Q (o :: rest) a (w.alloc (.cells cs e')) := by
 obtain ⟨i, hi, hz, hsize, hby⟩ := info_parts hi
 have hle : n + 1 ≤ (n + 1) * bytes := Nat.le_mul_of_pos_right _ hb1
 refine wpList_append_own _ hgd s x t ho base e i z size bytes ht hi hz hsize hby hzs hsz v n xs hs (hown.alloc _) ⟨w.heap.size, 0, none⟩ 1 c cs.toList hx (by simp [hcs]) ?_ h1
  (by unfold maxLen; omega) hbytes (by simp; omega) fun v' w' r1 r2 _ => h v' w' r1 r2
 intro j u hj
 rw [Array.getElem?_toList] at hj
 rw [Addr.add_lit, Nat.zero_add, World.cell?_alloc_at _ _ _ _ rfl]
 exact hj
theorem strCells_str {l : List Nat} (h : ∀ x ∈ l, x < 256) : Lib.strCells (kit.str l) = kit.u8s l := by
 simp only [Lib.strCells, kit.str, kit.u8s, List.map_map]
 refine List.map_congr_left fun x hx => ?_
 have := h x hx
 simp [Nat.mod_eq_of_lt this]
theorem appS {P : Program} {w : World} {ops : Array Oper} {rest : List Oper} {o : Oper} {a : Act} {Q : Exit → Act → World → Prop}
  (s x : Operand) (t u : TypeId) (hgd : o.guard = none) (ho : o.op = .call { callee := .builtin .append, args := #[s, x], argTypes := #[t, u] })
  (base : Nat) {e : TypeId} (ht : P.underlying t = some (.slice e)) (hu : P.underlying u = some .string) (hi : (P.info? e).map (fun i => (i.zero, i.size, i.bytes)) = some (some (.int .u8 0), 1, 1))
  {v : Value} {l m : List Nat} (hown : w.ownsRow base e 1 v l.length (kit.u8s l)) (hs : a.eval s = v) (hx : a.eval x = .string (kit.str m)) (hm : ∀ y ∈ m, y < 256)
  (hlen : l.length + m.length ≤ 140737488355328) (hbase : base ≤ w.heap.size)
  (h : ∀ v' w', w'.ownsRow base e 1 v' (l ++ m).length (kit.u8s (l ++ m)) → w.grownBy w' v.ownBlock → wpList P ops Q rest (a.put o.dst v') w') :
  wpList P ops Q (o :: rest) a w := by
 obtain ⟨i, hi, hz, hsize, hby⟩ := info_parts hi
 refine Lib.wpList_append_own_string _ hgd s x t u ho base e i ht hu hi hz hsize hby v l.length _ hs hown (kit.str m) hx (by rw [kit.str_size]; unfold maxLen; omega) (by rw [kit.str_size]; omega) hbase fun v' w' r1 r2 _ => h v' w' ?_ r2
 rw [kit.str_size, strCells_str hm] at r1
 rw [List.length_append, kit.u8s_app]
 exact r1
theorem grown_below {w w' : World} {B k n : Nat} {e : TypeId} {v : Value} {xs : List Value} (ho : w.ownsRow B e k v n xs) (hB : B ≤ w.heap.size) (hg : w.grownBy w' v.ownBlock) : Below B w w' :=
 (Below.refl B w).grown hg hB (fun k hk => (ho.lt k hk).1)
end Go.Proofs.YtonknpdalemjkaaGreat
