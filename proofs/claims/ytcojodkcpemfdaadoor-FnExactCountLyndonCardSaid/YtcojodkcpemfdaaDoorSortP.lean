/-
  DERIVED: THE SHELF's CONTRACTS AT THIS DUMP, IN PLAIN WORDS (tools/lay-plain.mjs out of 'YtcojodkcpemfdaaDoorSortLay.lean', which tools/lay-shelf.mjs wrote): THE SAME DECLARATIONS UNDER THE SAME NAMES: 'import', 'namespace', 'open', 'def', 'theorem' AND NOTHING ELSE: no command of the shelf's: FOR A HAND-IN. Each laying: the table of numbers ('.._ren') and one theorem, a field a fact of the dump's own or the kernel's comparison; each contract: ONE APPLICATION.
-/
import Derived.Shelf.SortG.Plain
import Derived.Shelf.SlGeneric
import Derived.Ground.SlgnProg
import Derived.Test.YtcojodkcpemfdaaDoorProg
namespace Go.Proofs
open Go.Shelf
def Tryd.sortSet_ren : Go.Shelf.Ren := ⟨fun | 53 => 226 | 64 => 229 | 63 => 228 | 78 => 239 | 79 => 240 | 70 => 230 | 71 => 231 | 72 => 232 | 73 => 233 | 74 => 234 | 75 => 235 | 59 => 236 | 76 => 237 | 77 => 238 | 88 => 241 | 89 => 242 | 90 => 243 | 91 => 244 | 92 => 245 | 68 => 246 | 96 => 247 | n => n, fun | 22 => 72 | 23 => 84 | 3 => 3 | 51 => 171 | 0 => 0 | 67 => 232 | 69 => 70 | 4 => 4 | 61 => 224 | 60 => 223 | 44 => 229 | 5 => 5 | 9 => 9 | 75 => 233 | 79 => 237 | 83 => 239 | 84 => 240 | n => n, fun | n => n⟩
theorem Tryd.sortSet : Go.Proofs.SlLaysN.n53 Tryd.prog Tryd.sortSet_ren := {
  mixed := by kernel_rfl
  f53 := ⟨Tryd.f226.name, by decide, Tryd.func226.trans (congrArg some (by kernel_rfl))⟩
  f59 := ⟨Tryd.f236.name, by decide, Tryd.func236.trans (congrArg some (by kernel_rfl))⟩
  f63 := ⟨Tryd.f228.name, by decide, Tryd.func228.trans (congrArg some (by kernel_rfl))⟩
  f64 := Tryd.func229.trans (congrArg some (by kernel_rfl))
  f68 := ⟨Tryd.f246.name, by decide, Tryd.func246.trans (congrArg some (by kernel_rfl))⟩
  f70 := ⟨Tryd.f230.name, by decide, Tryd.func230.trans (congrArg some (by kernel_rfl))⟩
  f71 := ⟨Tryd.f231.name, by decide, Tryd.func231.trans (congrArg some (by kernel_rfl))⟩
  f72 := ⟨Tryd.f232.name, by decide, Tryd.func232.trans (congrArg some (by kernel_rfl))⟩
  f73 := ⟨Tryd.f233.name, by decide, Tryd.func233.trans (congrArg some (by kernel_rfl))⟩
  f74 := ⟨Tryd.f234.name, by decide, Tryd.func234.trans (congrArg some (by kernel_rfl))⟩
  f75 := ⟨Tryd.f235.name, by decide, Tryd.func235.trans (congrArg some (by kernel_rfl))⟩
  f76 := ⟨Tryd.f237.name, by decide, Tryd.func237.trans (congrArg some (by kernel_rfl))⟩
  f77 := ⟨Tryd.f238.name, by decide, Tryd.func238.trans (congrArg some (by kernel_rfl))⟩
  f78 := Tryd.func239.trans (congrArg some (by kernel_rfl))
  f79 := Tryd.func240.trans (congrArg some (by kernel_rfl))
  f88 := ⟨Tryd.f241.name, by decide, Tryd.func241.trans (congrArg some (by kernel_rfl))⟩
  f89 := Tryd.func242.trans (congrArg some (by kernel_rfl))
  f90 := Tryd.func243.trans (congrArg some (by kernel_rfl))
  f91 := ⟨Tryd.f244.name, by decide, Tryd.func244.trans (congrArg some (by kernel_rfl))⟩
  f92 := ⟨Tryd.f245.name, by decide, Tryd.func245.trans (congrArg some (by kernel_rfl))⟩
  f96 := ⟨Tryd.f247.name, by decide, Tryd.func247.trans (congrArg some (by kernel_rfl))⟩
  t0 := Tryd.underlying0
  a0 := Tryd.isAgg0
  z0 := Tryd.sizeOf0
  v0 := Tryd.zeroValue0
  t3 := Tryd.underlying3
  a3 := Tryd.isAgg3
  z3 := Tryd.sizeOf3
  v3 := Tryd.zeroValue3
  t4 := Tryd.underlying4
  a4 := Tryd.isAgg4
  z4 := Tryd.sizeOf4
  v4 := Tryd.zeroValue4
  t5 := Tryd.underlying5
  a5 := Tryd.isAgg5
  z5 := Tryd.sizeOf5
  v5 := Tryd.zeroValue5
  t9 := Tryd.underlying9
  a9 := Tryd.isAgg9
  z9 := Tryd.sizeOf9
  v9 := Tryd.zeroValue9
  t22 := Tryd.underlying72
  a22 := Tryd.isAgg72
  z22 := Tryd.sizeOf72
  v22 := Tryd.zeroValue72
  t23 := Tryd.underlying84
  a23 := Tryd.isAgg84
  z23 := Tryd.sizeOf84
  v23 := Tryd.zeroValue84
  t44 := Tryd.underlying229
  a44 := Tryd.isAgg229
  z44 := Tryd.sizeOf229
  v44 := Tryd.zeroValue229
  t51 := Tryd.underlying171
  a51 := Tryd.isAgg171
  z51 := Tryd.sizeOf171
  v51 := Tryd.zeroValue171
  t60 := Tryd.underlying223
  a60 := Tryd.isAgg223
  z60 := Tryd.sizeOf223
  v60 := Tryd.zeroValue223
  t61 := Tryd.underlying224
  a61 := Tryd.isAgg224
  z61 := Tryd.sizeOf224
  v61 := Tryd.zeroValue224
  t67 := Tryd.underlying232
  a67 := Tryd.isAgg232
  z67 := Tryd.sizeOf232
  v67 := Tryd.zeroValue232
  t69 := Tryd.underlying70
  a69 := Tryd.isAgg70
  z69 := Tryd.sizeOf70
  v69 := Tryd.zeroValue70
  t75 := Tryd.underlying233
  a75 := Tryd.isAgg233
  z75 := Tryd.sizeOf233
  v75 := Tryd.zeroValue233
  t79 := Tryd.underlying237
  a79 := Tryd.isAgg237
  z79 := Tryd.sizeOf237
  v79 := Tryd.zeroValue237
  t83 := Tryd.underlying239
  a83 := Tryd.isAgg239
  z83 := Tryd.sizeOf239
  v83 := Tryd.zeroValue239
  t84 := Tryd.underlying240
  a84 := Tryd.isAgg240
  z84 := Tryd.sizeOf240
  v84 := Tryd.zeroValue240 }
end Go.Proofs
