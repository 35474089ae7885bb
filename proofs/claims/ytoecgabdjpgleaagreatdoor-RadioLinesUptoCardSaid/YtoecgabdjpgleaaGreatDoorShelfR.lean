/-
  The library's own contracts, laid at this translation: slices.Sort and slices.Clone at times.
  Conditions: what each says.
-/
import Derived.Shelf.SlLaysM
import Derived.Shelf.SlLaysN
import Derived.Test.YtoecgabdjpgleaaGreatDoorProg
import Derived.KernelRfl
namespace Go.Proofs.YtoecgabdjpgleaaGreatDoor.Rd
open Go.Shelf
def sortT_ren : Go.Shelf.Ren := ⟨fun | 5 => 36 | 7 => 62 | 8 => 63 | 10 => 89 | 11 => 90 | 12 => 91 | 13 => 92 | 14 => 93 | 15 => 94 | 16 => 95 | 17 => 96 | 18 => 97 | 19 => 98 | 20 => 99 | 30 => 114 | 31 => 115 | 32 => 116 | 33 => 117 | 34 => 118 | 35 => 119 | 40 => 127 | 42 => 129 | 43 => 130 | 44 => 131 | 45 => 132 | 46 => 133 | 47 => 134 | 48 => 135 | 49 => 136 | 50 => 137 | 51 => 138 | 52 => 139 | 53 => 140 | 54 => 141 | 55 => 142 | 56 => 143 | 57 => 146 | n => n, fun | 0 => 0 | 3 => 3 | 4 => 4 | 5 => 5 | 9 => 9 | 22 => 35 | 23 => 35 | 25 => 23 | 32 => 119 | 35 => 142 | 36 => 143 | 41 => 66 | 44 => 150 | 46 => 123 | 53 => 159 | 57 => 163 | 63 => 172 | 64 => 76 | n => n, fun | n => n⟩
theorem sortT : SlLaysM.n5 Tryz.prog sortT_ren := {
  mixed := by kernel_rfl
  f5 := ⟨ "slices.Sort[[]sundial/api.Time,sundial/api.Time]", by decide, Tryz.func36.trans (congrArg some (by kernel_rfl))⟩
  f7 := ⟨ "slices.pdqsortOrdered[sundial/api.Time]", by decide, Tryz.func62.trans (congrArg some (by kernel_rfl))⟩
  f8 := Tryz.func63.trans (congrArg some (by kernel_rfl))
  f10 := ⟨ "slices.insertionSortOrdered[sundial/api.Time]", by decide, Tryz.func89.trans (congrArg some (by kernel_rfl))⟩
  f11 := ⟨ "slices.heapSortOrdered[sundial/api.Time]", by decide, Tryz.func90.trans (congrArg some (by kernel_rfl))⟩
  f12 := ⟨ "slices.breakPatternsOrdered[sundial/api.Time]", by decide, Tryz.func91.trans (congrArg some (by kernel_rfl))⟩
  f13 := ⟨ "slices.choosePivotOrdered[sundial/api.Time]", by decide, Tryz.func92.trans (congrArg some (by kernel_rfl))⟩
  f14 := ⟨ "slices.reverseRangeOrdered[sundial/api.Time]", by decide, Tryz.func93.trans (congrArg some (by kernel_rfl))⟩
  f15 := ⟨ "slices.partialInsertionSortOrdered[sundial/api.Time]", by decide, Tryz.func94.trans (congrArg some (by kernel_rfl))⟩
  f16 := ⟨ "cmp.Less[sundial/api.Time]", by decide, Tryz.func95.trans (congrArg some (by kernel_rfl))⟩
  f17 := ⟨ "slices.partitionEqualOrdered[sundial/api.Time]", by decide, Tryz.func96.trans (congrArg some (by kernel_rfl))⟩
  f18 := ⟨ "slices.partitionOrdered[sundial/api.Time]", by decide, Tryz.func97.trans (congrArg some (by kernel_rfl))⟩
  f19 := Tryz.func98.trans (congrArg some (by kernel_rfl))
  f20 := Tryz.func99.trans (congrArg some (by kernel_rfl))
  f30 := ⟨ "slices.siftDownOrdered[sundial/api.Time]", by decide, Tryz.func114.trans (congrArg some (by kernel_rfl))⟩
  f31 := Tryz.func115.trans (congrArg some (by kernel_rfl))
  f32 := Tryz.func116.trans (congrArg some (by kernel_rfl))
  f33 := ⟨ "slices.medianAdjacentOrdered[sundial/api.Time]", by decide, Tryz.func117.trans (congrArg some (by kernel_rfl))⟩
  f34 := ⟨ "slices.medianOrdered[sundial/api.Time]", by decide, Tryz.func118.trans (congrArg some (by kernel_rfl))⟩
  f35 := ⟨ "cmp.isNaN[sundial/api.Time]", by decide, Tryz.func119.trans (congrArg some (by kernel_rfl))⟩
  f40 := ⟨ "slices.order2Ordered[sundial/api.Time]", by decide, Tryz.func127.trans (congrArg some (by kernel_rfl))⟩
  t0 := Tryz.underlying0
  a0 := Tryz.isAgg0
  z0 := Tryz.sizeOf0
  v0 := Tryz.zeroValue0
  t3 := Tryz.underlying3
  a3 := Tryz.isAgg3
  z3 := Tryz.sizeOf3
  v3 := Tryz.zeroValue3
  t4 := Tryz.underlying4
  a4 := Tryz.isAgg4
  z4 := Tryz.sizeOf4
  v4 := Tryz.zeroValue4
  t5 := Tryz.underlying5
  a5 := Tryz.isAgg5
  z5 := Tryz.sizeOf5
  v5 := Tryz.zeroValue5
  t9 := Tryz.underlying9
  a9 := Tryz.isAgg9
  z9 := Tryz.sizeOf9
  v9 := Tryz.zeroValue9
  t22 := Tryz.underlying35
  a22 := Tryz.isAgg35
  z22 := Tryz.sizeOf35
  v22 := Tryz.zeroValue35
  t23 := Tryz.underlying35
  a23 := Tryz.isAgg35
  z23 := Tryz.sizeOf35
  v23 := Tryz.zeroValue35
  t25 := Tryz.underlying23
  a25 := Tryz.isAgg23
  z25 := Tryz.sizeOf23
  v25 := Tryz.zeroValue23
  t32 := Tryz.underlying119
  a32 := Tryz.isAgg119
  z32 := Tryz.sizeOf119
  v32 := Tryz.zeroValue119
  t35 := Tryz.underlying142
  a35 := Tryz.isAgg142
  z35 := Tryz.sizeOf142
  v35 := Tryz.zeroValue142
  t36 := Tryz.underlying143
  a36 := Tryz.isAgg143
  z36 := Tryz.sizeOf143
  v36 := Tryz.zeroValue143
  t41 := Tryz.underlying66
  a41 := Tryz.isAgg66
  z41 := Tryz.sizeOf66
  v41 := Tryz.zeroValue66
  t44 := Tryz.underlying150
  a44 := Tryz.isAgg150
  z44 := Tryz.sizeOf150
  v44 := Tryz.zeroValue150
  t46 := Tryz.underlying123
  a46 := Tryz.isAgg123
  z46 := Tryz.sizeOf123
  v46 := Tryz.zeroValue123
  t53 := Tryz.underlying159
  a53 := Tryz.isAgg159
  z53 := Tryz.sizeOf159
  v53 := Tryz.zeroValue159
  t57 := Tryz.underlying163
  a57 := Tryz.isAgg163
  z57 := Tryz.sizeOf163
  v57 := Tryz.zeroValue163
  t63 := Tryz.underlying172
  a63 := Tryz.isAgg172
  z63 := Tryz.sizeOf172
  v63 := Tryz.zeroValue172
  t64 := Tryz.underlying76
  a64 := Tryz.isAgg76
  z64 := Tryz.sizeOf76
  v64 := Tryz.zeroValue76 }
def cloneT_ren : Go.Shelf.Ren := ⟨fun | 41 => 35 | 53 => 36 | 59 => 95 | 63 => 62 | 64 => 63 | 68 => 119 | 70 => 89 | 71 => 90 | 72 => 91 | 73 => 92 | 74 => 93 | 75 => 94 | 76 => 96 | 77 => 97 | 78 => 98 | 79 => 99 | 88 => 114 | 89 => 115 | 90 => 116 | 91 => 117 | 92 => 118 | 96 => 127 | 98 => 129 | 99 => 130 | 100 => 131 | 101 => 132 | 102 => 133 | 103 => 134 | 104 => 135 | 105 => 136 | 106 => 137 | 107 => 138 | 108 => 139 | 109 => 140 | 110 => 141 | 111 => 142 | 112 => 143 | 113 => 146 | n => n, fun | 4 => 4 | 22 => 35 | 23 => 23 | n => n, fun | n => n⟩
theorem cloneT : SlLaysN.n41 Tryz.prog cloneT_ren := {
  mixed := by kernel_rfl
  f41 := ⟨ "slices.Clone[[]sundial/api.Time,sundial/api.Time]", by decide, Tryz.func35.trans (congrArg some (by kernel_rfl))⟩
  t4 := Tryz.underlying4
  a4 := Tryz.isAgg4
  z4 := Tryz.sizeOf4
  v4 := Tryz.zeroValue4
  t22 := Tryz.underlying35
  a22 := Tryz.isAgg35
  z22 := Tryz.sizeOf35
  v22 := Tryz.zeroValue35
  t23 := Tryz.underlying23
  a23 := Tryz.isAgg23
  z23 := Tryz.sizeOf23
  v23 := Tryz.zeroValue23
  i23 := by kernel_rfl }
end Go.Proofs.YtoecgabdjpgleaaGreatDoor.Rd
