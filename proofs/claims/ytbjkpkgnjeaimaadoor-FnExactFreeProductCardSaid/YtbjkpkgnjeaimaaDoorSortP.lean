/-
  DERIVED: THE SHELF's CONTRACTS AT THIS DUMP, IN PLAIN WORDS (tools/lay-plain.mjs out of 'YtbjkpkgnjeaimaaDoorSortLay.lean', which tools/lay-shelf.mjs wrote): THE SAME DECLARATIONS UNDER THE SAME NAMES: 'import', 'namespace', 'open', 'def', 'theorem' AND NOTHING ELSE: no command of the shelf's: FOR A HAND-IN. Each laying: the table of numbers ('.._ren') and one theorem, a field a fact of the dump's own or the kernel's comparison; each contract: ONE APPLICATION.
-/
import Derived.Shelf.SortG.Plain
import Derived.Shelf.SlGeneric
import Derived.Ground.SlgnProg
import Derived.Test.YtbjkpkgnjeaimaaDoorProg
namespace Go.Proofs
open Go.Shelf
def Tryd.sortSet_ren : Go.Shelf.Ren := ⟨fun | 53 => 108 | 64 => 110 | 63 => 109 | 78 => 120 | 79 => 121 | 70 => 111 | 71 => 112 | 72 => 113 | 73 => 114 | 74 => 115 | 75 => 116 | 59 => 117 | 76 => 118 | 77 => 119 | 88 => 122 | 89 => 123 | 90 => 124 | 91 => 125 | 92 => 126 | 68 => 127 | 96 => 128 | n => n, fun | 22 => 50 | 23 => 57 | 3 => 3 | 51 => 101 | 0 => 0 | 67 => 115 | 69 => 87 | 4 => 4 | 61 => 107 | 60 => 106 | 44 => 112 | 5 => 5 | 9 => 9 | 75 => 116 | 79 => 120 | 83 => 122 | 84 => 123 | n => n, fun | n => n⟩
theorem Tryd.sortSet : Go.Proofs.SlLaysN.n53 Tryd.prog Tryd.sortSet_ren := {
  mixed := by kernel_rfl
  f53 := ⟨Tryd.f108.name, by decide, Tryd.func108.trans (congrArg some (by kernel_rfl))⟩
  f59 := ⟨Tryd.f117.name, by decide, Tryd.func117.trans (congrArg some (by kernel_rfl))⟩
  f63 := ⟨Tryd.f109.name, by decide, Tryd.func109.trans (congrArg some (by kernel_rfl))⟩
  f64 := Tryd.func110.trans (congrArg some (by kernel_rfl))
  f68 := ⟨Tryd.f127.name, by decide, Tryd.func127.trans (congrArg some (by kernel_rfl))⟩
  f70 := ⟨Tryd.f111.name, by decide, Tryd.func111.trans (congrArg some (by kernel_rfl))⟩
  f71 := ⟨Tryd.f112.name, by decide, Tryd.func112.trans (congrArg some (by kernel_rfl))⟩
  f72 := ⟨Tryd.f113.name, by decide, Tryd.func113.trans (congrArg some (by kernel_rfl))⟩
  f73 := ⟨Tryd.f114.name, by decide, Tryd.func114.trans (congrArg some (by kernel_rfl))⟩
  f74 := ⟨Tryd.f115.name, by decide, Tryd.func115.trans (congrArg some (by kernel_rfl))⟩
  f75 := ⟨Tryd.f116.name, by decide, Tryd.func116.trans (congrArg some (by kernel_rfl))⟩
  f76 := ⟨Tryd.f118.name, by decide, Tryd.func118.trans (congrArg some (by kernel_rfl))⟩
  f77 := ⟨Tryd.f119.name, by decide, Tryd.func119.trans (congrArg some (by kernel_rfl))⟩
  f78 := Tryd.func120.trans (congrArg some (by kernel_rfl))
  f79 := Tryd.func121.trans (congrArg some (by kernel_rfl))
  f88 := ⟨Tryd.f122.name, by decide, Tryd.func122.trans (congrArg some (by kernel_rfl))⟩
  f89 := Tryd.func123.trans (congrArg some (by kernel_rfl))
  f90 := Tryd.func124.trans (congrArg some (by kernel_rfl))
  f91 := ⟨Tryd.f125.name, by decide, Tryd.func125.trans (congrArg some (by kernel_rfl))⟩
  f92 := ⟨Tryd.f126.name, by decide, Tryd.func126.trans (congrArg some (by kernel_rfl))⟩
  f96 := ⟨Tryd.f128.name, by decide, Tryd.func128.trans (congrArg some (by kernel_rfl))⟩
  t0 := Tryd.underlying0
  a0 := Tryd.isAgg0
  z0 := Tryd.sizeOf0
  v0 := Tryd.zeroValue0
  t3 := Tryd.underlying3
  a3 := Tryd.isAgg3
  z3 := Tryd.sizeOf3
  v3 := Tryd.zeroValue3
  t4 := Tryd.underlying4
  a4 := Tryd.isAgg4
  z4 := Tryd.sizeOf4
  v4 := Tryd.zeroValue4
  t5 := Tryd.underlying5
  a5 := Tryd.isAgg5
  z5 := Tryd.sizeOf5
  v5 := Tryd.zeroValue5
  t9 := Tryd.underlying9
  a9 := Tryd.isAgg9
  z9 := Tryd.sizeOf9
  v9 := Tryd.zeroValue9
  t22 := Tryd.underlying50
  a22 := Tryd.isAgg50
  z22 := Tryd.sizeOf50
  v22 := Tryd.zeroValue50
  t23 := Tryd.underlying57
  a23 := Tryd.isAgg57
  z23 := Tryd.sizeOf57
  v23 := Tryd.zeroValue57
  t44 := Tryd.underlying112
  a44 := Tryd.isAgg112
  z44 := Tryd.sizeOf112
  v44 := Tryd.zeroValue112
  t51 := Tryd.underlying101
  a51 := Tryd.isAgg101
  z51 := Tryd.sizeOf101
  v51 := Tryd.zeroValue101
  t60 := Tryd.underlying106
  a60 := Tryd.isAgg106
  z60 := Tryd.sizeOf106
  v60 := Tryd.zeroValue106
  t61 := Tryd.underlying107
  a61 := Tryd.isAgg107
  z61 := Tryd.sizeOf107
  v61 := Tryd.zeroValue107
  t67 := Tryd.underlying115
  a67 := Tryd.isAgg115
  z67 := Tryd.sizeOf115
  v67 := Tryd.zeroValue115
  t69 := Tryd.underlying87
  a69 := Tryd.isAgg87
  z69 := Tryd.sizeOf87
  v69 := Tryd.zeroValue87
  t75 := Tryd.underlying116
  a75 := Tryd.isAgg116
  z75 := Tryd.sizeOf116
  v75 := Tryd.zeroValue116
  t79 := Tryd.underlying120
  a79 := Tryd.isAgg120
  z79 := Tryd.sizeOf120
  v79 := Tryd.zeroValue120
  t83 := Tryd.underlying122
  a83 := Tryd.isAgg122
  z83 := Tryd.sizeOf122
  v83 := Tryd.zeroValue122
  t84 := Tryd.underlying123
  a84 := Tryd.isAgg123
  z84 := Tryd.sizeOf123
  v84 := Tryd.zeroValue123 }
end Go.Proofs
