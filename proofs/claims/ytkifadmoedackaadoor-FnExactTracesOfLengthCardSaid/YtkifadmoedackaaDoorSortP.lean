/-
  DERIVED: THE SHELF's CONTRACTS AT THIS DUMP, IN PLAIN WORDS (tools/lay-plain.mjs out of 'YtkifadmoedackaaDoorSortLay.lean', which tools/lay-shelf.mjs wrote): THE SAME DECLARATIONS UNDER THE SAME NAMES: 'import', 'namespace', 'open', 'def', 'theorem' AND NOTHING ELSE: no command of the shelf's: FOR A HAND-IN. Each laying: the table of numbers ('.._ren') and one theorem, a field a fact of the dump's own or the kernel's comparison; each contract: ONE APPLICATION.
-/
import Derived.Shelf.SortG.Plain
import Derived.Shelf.SlGeneric
import Derived.Ground.SlgnProg
import Derived.Test.YtkifadmoedackaaDoorProg
namespace Go.Proofs
open Go.Shelf
def Tryd.sortSet_ren : Go.Shelf.Ren := ⟨fun | 53 => 158 | 64 => 161 | 63 => 160 | 78 => 172 | 79 => 173 | 70 => 163 | 71 => 164 | 72 => 165 | 73 => 166 | 74 => 167 | 75 => 168 | 59 => 169 | 76 => 170 | 77 => 171 | 88 => 174 | 89 => 175 | 90 => 176 | 91 => 177 | 92 => 178 | 68 => 179 | 96 => 180 | n => n, fun | 22 => 58 | 23 => 88 | 3 => 3 | 51 => 160 | 0 => 0 | 67 => 183 | 69 => 112 | 4 => 4 | 61 => 175 | 60 => 174 | 44 => 180 | 5 => 5 | 9 => 9 | 75 => 184 | 79 => 188 | 83 => 190 | 84 => 191 | n => n, fun | n => n⟩
theorem Tryd.sortSet : Go.Proofs.SlLaysN.n53 Tryd.prog Tryd.sortSet_ren := {
  mixed := by kernel_rfl
  f53 := ⟨Tryd.f158.name, by decide, Tryd.func158.trans (congrArg some (by kernel_rfl))⟩
  f59 := ⟨Tryd.f169.name, by decide, Tryd.func169.trans (congrArg some (by kernel_rfl))⟩
  f63 := ⟨Tryd.f160.name, by decide, Tryd.func160.trans (congrArg some (by kernel_rfl))⟩
  f64 := Tryd.func161.trans (congrArg some (by kernel_rfl))
  f68 := ⟨Tryd.f179.name, by decide, Tryd.func179.trans (congrArg some (by kernel_rfl))⟩
  f70 := ⟨Tryd.f163.name, by decide, Tryd.func163.trans (congrArg some (by kernel_rfl))⟩
  f71 := ⟨Tryd.f164.name, by decide, Tryd.func164.trans (congrArg some (by kernel_rfl))⟩
  f72 := ⟨Tryd.f165.name, by decide, Tryd.func165.trans (congrArg some (by kernel_rfl))⟩
  f73 := ⟨Tryd.f166.name, by decide, Tryd.func166.trans (congrArg some (by kernel_rfl))⟩
  f74 := ⟨Tryd.f167.name, by decide, Tryd.func167.trans (congrArg some (by kernel_rfl))⟩
  f75 := ⟨Tryd.f168.name, by decide, Tryd.func168.trans (congrArg some (by kernel_rfl))⟩
  f76 := ⟨Tryd.f170.name, by decide, Tryd.func170.trans (congrArg some (by kernel_rfl))⟩
  f77 := ⟨Tryd.f171.name, by decide, Tryd.func171.trans (congrArg some (by kernel_rfl))⟩
  f78 := Tryd.func172.trans (congrArg some (by kernel_rfl))
  f79 := Tryd.func173.trans (congrArg some (by kernel_rfl))
  f88 := ⟨Tryd.f174.name, by decide, Tryd.func174.trans (congrArg some (by kernel_rfl))⟩
  f89 := Tryd.func175.trans (congrArg some (by kernel_rfl))
  f90 := Tryd.func176.trans (congrArg some (by kernel_rfl))
  f91 := ⟨Tryd.f177.name, by decide, Tryd.func177.trans (congrArg some (by kernel_rfl))⟩
  f92 := ⟨Tryd.f178.name, by decide, Tryd.func178.trans (congrArg some (by kernel_rfl))⟩
  f96 := ⟨Tryd.f180.name, by decide, Tryd.func180.trans (congrArg some (by kernel_rfl))⟩
  t0 := Tryd.underlying0
  a0 := Tryd.isAgg0
  z0 := Tryd.sizeOf0
  v0 := Tryd.zeroValue0
  t3 := Tryd.underlying3
  a3 := Tryd.isAgg3
  z3 := Tryd.sizeOf3
  v3 := Tryd.zeroValue3
  t4 := Tryd.underlying4
  a4 := Tryd.isAgg4
  z4 := Tryd.sizeOf4
  v4 := Tryd.zeroValue4
  t5 := Tryd.underlying5
  a5 := Tryd.isAgg5
  z5 := Tryd.sizeOf5
  v5 := Tryd.zeroValue5
  t9 := Tryd.underlying9
  a9 := Tryd.isAgg9
  z9 := Tryd.sizeOf9
  v9 := Tryd.zeroValue9
  t22 := Tryd.underlying58
  a22 := Tryd.isAgg58
  z22 := Tryd.sizeOf58
  v22 := Tryd.zeroValue58
  t23 := Tryd.underlying88
  a23 := Tryd.isAgg88
  z23 := Tryd.sizeOf88
  v23 := Tryd.zeroValue88
  t44 := Tryd.underlying180
  a44 := Tryd.isAgg180
  z44 := Tryd.sizeOf180
  v44 := Tryd.zeroValue180
  t51 := Tryd.underlying160
  a51 := Tryd.isAgg160
  z51 := Tryd.sizeOf160
  v51 := Tryd.zeroValue160
  t60 := Tryd.underlying174
  a60 := Tryd.isAgg174
  z60 := Tryd.sizeOf174
  v60 := Tryd.zeroValue174
  t61 := Tryd.underlying175
  a61 := Tryd.isAgg175
  z61 := Tryd.sizeOf175
  v61 := Tryd.zeroValue175
  t67 := Tryd.underlying183
  a67 := Tryd.isAgg183
  z67 := Tryd.sizeOf183
  v67 := Tryd.zeroValue183
  t69 := Tryd.underlying112
  a69 := Tryd.isAgg112
  z69 := Tryd.sizeOf112
  v69 := Tryd.zeroValue112
  t75 := Tryd.underlying184
  a75 := Tryd.isAgg184
  z75 := Tryd.sizeOf184
  v75 := Tryd.zeroValue184
  t79 := Tryd.underlying188
  a79 := Tryd.isAgg188
  z79 := Tryd.sizeOf188
  v79 := Tryd.zeroValue188
  t83 := Tryd.underlying190
  a83 := Tryd.isAgg190
  z83 := Tryd.sizeOf190
  v83 := Tryd.zeroValue190
  t84 := Tryd.underlying191
  a84 := Tryd.isAgg191
  z84 := Tryd.sizeOf191
  v84 := Tryd.zeroValue191 }
end Go.Proofs
