/-
  DERIVED: THE SHELF's CONTRACTS AT THIS DUMP, IN PLAIN WORDS (tools/lay-plain.mjs out of 'YtfcipdojgkamgaaDoorSortLay.lean', which tools/lay-shelf.mjs wrote): THE SAME DECLARATIONS UNDER THE SAME NAMES: 'import', 'namespace', 'open', 'def', 'theorem' AND NOTHING ELSE: no command of the shelf's: FOR A HAND-IN. Each laying: the table of numbers ('.._ren') and one theorem, a field a fact of the dump's own or the kernel's comparison; each contract: ONE APPLICATION.
-/
import Derived.Shelf.SortG.Plain
import Derived.Shelf.SlGeneric
import Derived.Ground.SlgnProg
import Derived.Test.YtfcipdojgkamgaaDoorProg
namespace Go.Proofs
open Go.Shelf
def Tryd.sortSet_ren : Go.Shelf.Ren := ⟨fun | 53 => 98 | 64 => 100 | 63 => 102 | 78 => 111 | 79 => 112 | 70 => 113 | 71 => 114 | 72 => 115 | 73 => 116 | 74 => 117 | 75 => 118 | 59 => 119 | 76 => 120 | 77 => 121 | 88 => 127 | 89 => 123 | 90 => 124 | 91 => 128 | 92 => 129 | 68 => 130 | 96 => 132 | n => n, fun | 22 => 45 | 23 => 43 | 3 => 3 | 51 => 66 | 0 => 0 | 67 => 103 | 69 => 36 | 4 => 4 | 61 => 96 | 60 => 95 | 44 => 100 | 5 => 5 | 9 => 9 | 75 => 110 | 79 => 114 | 83 => 118 | 84 => 119 | n => n, fun | n => n⟩
theorem Tryd.sortSet : Go.Proofs.SlLaysN.n53 Tryd.prog Tryd.sortSet_ren := {
  mixed := by kernel_rfl
  f53 := ⟨Tryd.f98.name, by decide, Tryd.func98.trans (congrArg some (by kernel_rfl))⟩
  f59 := ⟨Tryd.f119.name, by decide, Tryd.func119.trans (congrArg some (by kernel_rfl))⟩
  f63 := ⟨Tryd.f102.name, by decide, Tryd.func102.trans (congrArg some (by kernel_rfl))⟩
  f64 := Tryd.func100.trans (congrArg some (by kernel_rfl))
  f68 := ⟨Tryd.f130.name, by decide, Tryd.func130.trans (congrArg some (by kernel_rfl))⟩
  f70 := ⟨Tryd.f113.name, by decide, Tryd.func113.trans (congrArg some (by kernel_rfl))⟩
  f71 := ⟨Tryd.f114.name, by decide, Tryd.func114.trans (congrArg some (by kernel_rfl))⟩
  f72 := ⟨Tryd.f115.name, by decide, Tryd.func115.trans (congrArg some (by kernel_rfl))⟩
  f73 := ⟨Tryd.f116.name, by decide, Tryd.func116.trans (congrArg some (by kernel_rfl))⟩
  f74 := ⟨Tryd.f117.name, by decide, Tryd.func117.trans (congrArg some (by kernel_rfl))⟩
  f75 := ⟨Tryd.f118.name, by decide, Tryd.func118.trans (congrArg some (by kernel_rfl))⟩
  f76 := ⟨Tryd.f120.name, by decide, Tryd.func120.trans (congrArg some (by kernel_rfl))⟩
  f77 := ⟨Tryd.f121.name, by decide, Tryd.func121.trans (congrArg some (by kernel_rfl))⟩
  f78 := Tryd.func111.trans (congrArg some (by kernel_rfl))
  f79 := Tryd.func112.trans (congrArg some (by kernel_rfl))
  f88 := ⟨Tryd.f127.name, by decide, Tryd.func127.trans (congrArg some (by kernel_rfl))⟩
  f89 := Tryd.func123.trans (congrArg some (by kernel_rfl))
  f90 := Tryd.func124.trans (congrArg some (by kernel_rfl))
  f91 := ⟨Tryd.f128.name, by decide, Tryd.func128.trans (congrArg some (by kernel_rfl))⟩
  f92 := ⟨Tryd.f129.name, by decide, Tryd.func129.trans (congrArg some (by kernel_rfl))⟩
  f96 := ⟨Tryd.f132.name, by decide, Tryd.func132.trans (congrArg some (by kernel_rfl))⟩
  t0 := Tryd.underlying0
  a0 := Tryd.isAgg0
  z0 := Tryd.sizeOf0
  v0 := Tryd.zeroValue0
  t3 := Tryd.underlying3
  a3 := Tryd.isAgg3
  z3 := Tryd.sizeOf3
  v3 := Tryd.zeroValue3
  t4 := Tryd.underlying4
  a4 := Tryd.isAgg4
  z4 := Tryd.sizeOf4
  v4 := Tryd.zeroValue4
  t5 := Tryd.underlying5
  a5 := Tryd.isAgg5
  z5 := Tryd.sizeOf5
  v5 := Tryd.zeroValue5
  t9 := Tryd.underlying9
  a9 := Tryd.isAgg9
  z9 := Tryd.sizeOf9
  v9 := Tryd.zeroValue9
  t22 := Tryd.underlying45
  a22 := Tryd.isAgg45
  z22 := Tryd.sizeOf45
  v22 := Tryd.zeroValue45
  t23 := Tryd.underlying43
  a23 := Tryd.isAgg43
  z23 := Tryd.sizeOf43
  v23 := Tryd.zeroValue43
  t44 := Tryd.underlying100
  a44 := Tryd.isAgg100
  z44 := Tryd.sizeOf100
  v44 := Tryd.zeroValue100
  t51 := Tryd.underlying66
  a51 := Tryd.isAgg66
  z51 := Tryd.sizeOf66
  v51 := Tryd.zeroValue66
  t60 := Tryd.underlying95
  a60 := Tryd.isAgg95
  z60 := Tryd.sizeOf95
  v60 := Tryd.zeroValue95
  t61 := Tryd.underlying96
  a61 := Tryd.isAgg96
  z61 := Tryd.sizeOf96
  v61 := Tryd.zeroValue96
  t67 := Tryd.underlying103
  a67 := Tryd.isAgg103
  z67 := Tryd.sizeOf103
  v67 := Tryd.zeroValue103
  t69 := Tryd.underlying36
  a69 := Tryd.isAgg36
  z69 := Tryd.sizeOf36
  v69 := Tryd.zeroValue36
  t75 := Tryd.underlying110
  a75 := Tryd.isAgg110
  z75 := Tryd.sizeOf110
  v75 := Tryd.zeroValue110
  t79 := Tryd.underlying114
  a79 := Tryd.isAgg114
  z79 := Tryd.sizeOf114
  v79 := Tryd.zeroValue114
  t83 := Tryd.underlying118
  a83 := Tryd.isAgg118
  z83 := Tryd.sizeOf118
  v83 := Tryd.zeroValue118
  t84 := Tryd.underlying119
  a84 := Tryd.isAgg119
  z84 := Tryd.sizeOf119
  v84 := Tryd.zeroValue119 }
end Go.Proofs
