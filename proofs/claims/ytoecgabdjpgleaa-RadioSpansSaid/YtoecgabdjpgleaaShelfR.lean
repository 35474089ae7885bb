/-
  The library's own contracts, laid at this translation: slices.Sort and slices.Clone at times.
  Conditions: what each says.
-/
import Derived.Shelf.SlLaysM
import Derived.Shelf.SlLaysN
import Derived.Test.YtoecgabdjpgleaaProg
import Derived.KernelRfl
namespace Go.Proofs.Ytoecgabdjpgleaa.Rd
open Go.Shelf
def sortT_ren : Go.Shelf.Ren := ⟨fun | 5 => 13 | 7 => 29 | 8 => 30 | 10 => 43 | 11 => 44 | 12 => 45 | 13 => 46 | 14 => 47 | 15 => 48 | 16 => 49 | 17 => 50 | 18 => 51 | 19 => 52 | 20 => 53 | 30 => 70 | 31 => 71 | 32 => 72 | 33 => 73 | 34 => 74 | 35 => 75 | 40 => 84 | 42 => 87 | 43 => 88 | 44 => 89 | 45 => 90 | 46 => 91 | 47 => 92 | 48 => 93 | 49 => 94 | 50 => 95 | 51 => 96 | 52 => 97 | 53 => 98 | 54 => 99 | 55 => 100 | 56 => 101 | 57 => 104 | n => n, fun | 0 => 0 | 3 => 3 | 4 => 4 | 5 => 5 | 9 => 9 | 22 => 22 | 23 => 22 | 25 => 23 | 32 => 77 | 35 => 102 | 36 => 103 | 41 => 62 | 44 => 110 | 46 => 100 | 53 => 129 | 57 => 133 | 63 => 139 | 64 => 140 | n => n, fun | n => n⟩
theorem sortT : SlLaysM.n5 Try.prog sortT_ren := {
  mixed := by kernel_rfl
  f5 := ⟨ "slices.Sort[[]sundial/api.Time,sundial/api.Time]", by decide, Try.func13.trans (congrArg some (by kernel_rfl))⟩
  f7 := ⟨ "slices.pdqsortOrdered[sundial/api.Time]", by decide, Try.func29.trans (congrArg some (by kernel_rfl))⟩
  f8 := Try.func30.trans (congrArg some (by kernel_rfl))
  f10 := ⟨ "slices.insertionSortOrdered[sundial/api.Time]", by decide, Try.func43.trans (congrArg some (by kernel_rfl))⟩
  f11 := ⟨ "slices.heapSortOrdered[sundial/api.Time]", by decide, Try.func44.trans (congrArg some (by kernel_rfl))⟩
  f12 := ⟨ "slices.breakPatternsOrdered[sundial/api.Time]", by decide, Try.func45.trans (congrArg some (by kernel_rfl))⟩
  f13 := ⟨ "slices.choosePivotOrdered[sundial/api.Time]", by decide, Try.func46.trans (congrArg some (by kernel_rfl))⟩
  f14 := ⟨ "slices.reverseRangeOrdered[sundial/api.Time]", by decide, Try.func47.trans (congrArg some (by kernel_rfl))⟩
  f15 := ⟨ "slices.partialInsertionSortOrdered[sundial/api.Time]", by decide, Try.func48.trans (congrArg some (by kernel_rfl))⟩
  f16 := ⟨ "cmp.Less[sundial/api.Time]", by decide, Try.func49.trans (congrArg some (by kernel_rfl))⟩
  f17 := ⟨ "slices.partitionEqualOrdered[sundial/api.Time]", by decide, Try.func50.trans (congrArg some (by kernel_rfl))⟩
  f18 := ⟨ "slices.partitionOrdered[sundial/api.Time]", by decide, Try.func51.trans (congrArg some (by kernel_rfl))⟩
  f19 := Try.func52.trans (congrArg some (by kernel_rfl))
  f20 := Try.func53.trans (congrArg some (by kernel_rfl))
  f30 := ⟨ "slices.siftDownOrdered[sundial/api.Time]", by decide, Try.func70.trans (congrArg some (by kernel_rfl))⟩
  f31 := Try.func71.trans (congrArg some (by kernel_rfl))
  f32 := Try.func72.trans (congrArg some (by kernel_rfl))
  f33 := ⟨ "slices.medianAdjacentOrdered[sundial/api.Time]", by decide, Try.func73.trans (congrArg some (by kernel_rfl))⟩
  f34 := ⟨ "slices.medianOrdered[sundial/api.Time]", by decide, Try.func74.trans (congrArg some (by kernel_rfl))⟩
  f35 := ⟨ "cmp.isNaN[sundial/api.Time]", by decide, Try.func75.trans (congrArg some (by kernel_rfl))⟩
  f40 := ⟨ "slices.order2Ordered[sundial/api.Time]", by decide, Try.func84.trans (congrArg some (by kernel_rfl))⟩
  t0 := Try.underlying0
  a0 := Try.isAgg0
  z0 := Try.sizeOf0
  v0 := Try.zeroValue0
  t3 := Try.underlying3
  a3 := Try.isAgg3
  z3 := Try.sizeOf3
  v3 := Try.zeroValue3
  t4 := Try.underlying4
  a4 := Try.isAgg4
  z4 := Try.sizeOf4
  v4 := Try.zeroValue4
  t5 := Try.underlying5
  a5 := Try.isAgg5
  z5 := Try.sizeOf5
  v5 := Try.zeroValue5
  t9 := Try.underlying9
  a9 := Try.isAgg9
  z9 := Try.sizeOf9
  v9 := Try.zeroValue9
  t22 := Try.underlying22
  a22 := Try.isAgg22
  z22 := Try.sizeOf22
  v22 := Try.zeroValue22
  t23 := Try.underlying22
  a23 := Try.isAgg22
  z23 := Try.sizeOf22
  v23 := Try.zeroValue22
  t25 := Try.underlying23
  a25 := Try.isAgg23
  z25 := Try.sizeOf23
  v25 := Try.zeroValue23
  t32 := Try.underlying77
  a32 := Try.isAgg77
  z32 := Try.sizeOf77
  v32 := Try.zeroValue77
  t35 := Try.underlying102
  a35 := Try.isAgg102
  z35 := Try.sizeOf102
  v35 := Try.zeroValue102
  t36 := Try.underlying103
  a36 := Try.isAgg103
  z36 := Try.sizeOf103
  v36 := Try.zeroValue103
  t41 := Try.underlying62
  a41 := Try.isAgg62
  z41 := Try.sizeOf62
  v41 := Try.zeroValue62
  t44 := Try.underlying110
  a44 := Try.isAgg110
  z44 := Try.sizeOf110
  v44 := Try.zeroValue110
  t46 := Try.underlying100
  a46 := Try.isAgg100
  z46 := Try.sizeOf100
  v46 := Try.zeroValue100
  t53 := Try.underlying129
  a53 := Try.isAgg129
  z53 := Try.sizeOf129
  v53 := Try.zeroValue129
  t57 := Try.underlying133
  a57 := Try.isAgg133
  z57 := Try.sizeOf133
  v57 := Try.zeroValue133
  t63 := Try.underlying139
  a63 := Try.isAgg139
  z63 := Try.sizeOf139
  v63 := Try.zeroValue139
  t64 := Try.underlying140
  a64 := Try.isAgg140
  z64 := Try.sizeOf140
  v64 := Try.zeroValue140 }
def cloneT_ren : Go.Shelf.Ren := ⟨fun | 41 => 12 | 53 => 13 | 59 => 49 | 63 => 29 | 64 => 30 | 68 => 75 | 70 => 43 | 71 => 44 | 72 => 45 | 73 => 46 | 74 => 47 | 75 => 48 | 76 => 50 | 77 => 51 | 78 => 52 | 79 => 53 | 88 => 70 | 89 => 71 | 90 => 72 | 91 => 73 | 92 => 74 | 96 => 84 | 98 => 87 | 99 => 88 | 100 => 89 | 101 => 90 | 102 => 91 | 103 => 92 | 104 => 93 | 105 => 94 | 106 => 95 | 107 => 96 | 108 => 97 | 109 => 98 | 110 => 99 | 111 => 100 | 112 => 101 | 113 => 104 | n => n, fun | 4 => 4 | 22 => 22 | 23 => 23 | n => n, fun | n => n⟩
theorem cloneT : SlLaysN.n41 Try.prog cloneT_ren := {
  mixed := by kernel_rfl
  f41 := ⟨ "slices.Clone[[]sundial/api.Time,sundial/api.Time]", by decide, Try.func12.trans (congrArg some (by kernel_rfl))⟩
  t4 := Try.underlying4
  a4 := Try.isAgg4
  z4 := Try.sizeOf4
  v4 := Try.zeroValue4
  t22 := Try.underlying22
  a22 := Try.isAgg22
  z22 := Try.sizeOf22
  v22 := Try.zeroValue22
  t23 := Try.underlying23
  a23 := Try.isAgg23
  z23 := Try.sizeOf23
  v23 := Try.zeroValue23
  i23 := by kernel_rfl }
end Go.Proofs.Ytoecgabdjpgleaa.Rd
