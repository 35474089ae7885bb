/-
  The library's own contracts, laid at this translation: slices.Sort at times.
  Conditions: what each says.
-/
import Derived.Shelf.SlLaysM
import Derived.Test.YtmlnmldcjbhhjaaProg
import Derived.KernelRfl
namespace Go.Proofs.Ytmlnmldcjbhhjaa.Fl
open Go.Shelf
def sortT_ren : Go.Shelf.Ren := ⟨fun | 5 => 26 | 7 => 30 | 8 => 31 | 10 => 34 | 11 => 35 | 12 => 36 | 13 => 37 | 14 => 38 | 15 => 39 | 16 => 40 | 17 => 41 | 18 => 42 | 19 => 43 | 20 => 44 | 30 => 46 | 31 => 47 | 32 => 48 | 33 => 49 | 34 => 50 | 35 => 27 | 40 => 51 | 42 => 52 | 43 => 53 | 44 => 54 | 45 => 55 | 46 => 56 | 47 => 57 | 48 => 58 | 49 => 59 | 50 => 60 | 51 => 61 | 52 => 62 | 53 => 63 | 54 => 64 | 55 => 65 | 56 => 66 | 57 => 69 | n => n, fun | 0 => 0 | 3 => 3 | 4 => 4 | 5 => 5 | 9 => 9 | 22 => 54 | 23 => 54 | 25 => 23 | 32 => 61 | 35 => 66 | 36 => 67 | 41 => 72 | 44 => 75 | 46 => 58 | 53 => 79 | 57 => 83 | 63 => 85 | 64 => 86 | n => n, fun | n => n⟩
theorem sortT : SlLaysM.n5 Try.prog sortT_ren := {
  mixed := by kernel_rfl
  f5 := ⟨ "slices.Sort[[]sundial/api.Time,sundial/api.Time]", by decide, Try.func26.trans (congrArg some (by kernel_rfl))⟩
  f7 := ⟨ "slices.pdqsortOrdered[sundial/api.Time]", by decide, Try.func30.trans (congrArg some (by kernel_rfl))⟩
  f8 := Try.func31.trans (congrArg some (by kernel_rfl))
  f10 := ⟨ "slices.insertionSortOrdered[sundial/api.Time]", by decide, Try.func34.trans (congrArg some (by kernel_rfl))⟩
  f11 := ⟨ "slices.heapSortOrdered[sundial/api.Time]", by decide, Try.func35.trans (congrArg some (by kernel_rfl))⟩
  f12 := ⟨ "slices.breakPatternsOrdered[sundial/api.Time]", by decide, Try.func36.trans (congrArg some (by kernel_rfl))⟩
  f13 := ⟨ "slices.choosePivotOrdered[sundial/api.Time]", by decide, Try.func37.trans (congrArg some (by kernel_rfl))⟩
  f14 := ⟨ "slices.reverseRangeOrdered[sundial/api.Time]", by decide, Try.func38.trans (congrArg some (by kernel_rfl))⟩
  f15 := ⟨ "slices.partialInsertionSortOrdered[sundial/api.Time]", by decide, Try.func39.trans (congrArg some (by kernel_rfl))⟩
  f16 := ⟨ "cmp.Less[sundial/api.Time]", by decide, Try.func40.trans (congrArg some (by kernel_rfl))⟩
  f17 := ⟨ "slices.partitionEqualOrdered[sundial/api.Time]", by decide, Try.func41.trans (congrArg some (by kernel_rfl))⟩
  f18 := ⟨ "slices.partitionOrdered[sundial/api.Time]", by decide, Try.func42.trans (congrArg some (by kernel_rfl))⟩
  f19 := Try.func43.trans (congrArg some (by kernel_rfl))
  f20 := Try.func44.trans (congrArg some (by kernel_rfl))
  f30 := ⟨ "slices.siftDownOrdered[sundial/api.Time]", by decide, Try.func46.trans (congrArg some (by kernel_rfl))⟩
  f31 := Try.func47.trans (congrArg some (by kernel_rfl))
  f32 := Try.func48.trans (congrArg some (by kernel_rfl))
  f33 := ⟨ "slices.medianAdjacentOrdered[sundial/api.Time]", by decide, Try.func49.trans (congrArg some (by kernel_rfl))⟩
  f34 := ⟨ "slices.medianOrdered[sundial/api.Time]", by decide, Try.func50.trans (congrArg some (by kernel_rfl))⟩
  f35 := ⟨ "cmp.isNaN[sundial/api.Time]", by decide, Try.func27.trans (congrArg some (by kernel_rfl))⟩
  f40 := ⟨ "slices.order2Ordered[sundial/api.Time]", by decide, Try.func51.trans (congrArg some (by kernel_rfl))⟩
  t0 := Try.underlying0
  a0 := Try.isAgg0
  z0 := Try.sizeOf0
  v0 := Try.zeroValue0
  t3 := Try.underlying3
  a3 := Try.isAgg3
  z3 := Try.sizeOf3
  v3 := Try.zeroValue3
  t4 := Try.underlying4
  a4 := Try.isAgg4
  z4 := Try.sizeOf4
  v4 := Try.zeroValue4
  t5 := Try.underlying5
  a5 := Try.isAgg5
  z5 := Try.sizeOf5
  v5 := Try.zeroValue5
  t9 := Try.underlying9
  a9 := Try.isAgg9
  z9 := Try.sizeOf9
  v9 := Try.zeroValue9
  t22 := Try.underlying54
  a22 := Try.isAgg54
  z22 := Try.sizeOf54
  v22 := Try.zeroValue54
  t23 := Try.underlying54
  a23 := Try.isAgg54
  z23 := Try.sizeOf54
  v23 := Try.zeroValue54
  t25 := Try.underlying23
  a25 := Try.isAgg23
  z25 := Try.sizeOf23
  v25 := Try.zeroValue23
  t32 := Try.underlying61
  a32 := Try.isAgg61
  z32 := Try.sizeOf61
  v32 := Try.zeroValue61
  t35 := Try.underlying66
  a35 := Try.isAgg66
  z35 := Try.sizeOf66
  v35 := Try.zeroValue66
  t36 := Try.underlying67
  a36 := Try.isAgg67
  z36 := Try.sizeOf67
  v36 := Try.zeroValue67
  t41 := Try.underlying72
  a41 := Try.isAgg72
  z41 := Try.sizeOf72
  v41 := Try.zeroValue72
  t44 := Try.underlying75
  a44 := Try.isAgg75
  z44 := Try.sizeOf75
  v44 := Try.zeroValue75
  t46 := Try.underlying58
  a46 := Try.isAgg58
  z46 := Try.sizeOf58
  v46 := Try.zeroValue58
  t53 := Try.underlying79
  a53 := Try.isAgg79
  z53 := Try.sizeOf79
  v53 := Try.zeroValue79
  t57 := Try.underlying83
  a57 := Try.isAgg83
  z57 := Try.sizeOf83
  v57 := Try.zeroValue83
  t63 := Try.underlying85
  a63 := Try.isAgg85
  z63 := Try.sizeOf85
  v63 := Try.zeroValue85
  t64 := Try.underlying86
  a64 := Try.isAgg86
  z64 := Try.sizeOf86
  v64 := Try.zeroValue86 }
end Go.Proofs.Ytmlnmldcjbhhjaa.Fl
