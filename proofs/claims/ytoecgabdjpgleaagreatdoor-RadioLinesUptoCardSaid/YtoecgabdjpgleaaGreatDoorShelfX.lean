/-
  The library's own contract, laid at this translation: strings.IndexByte.
  Conditions: what it says.
-/
import Derived.Shelf.Small.Strs
import Derived.Test.YtoecgabdjpgleaaGreatDoorProg
import Derived.KernelRfl
namespace Go.Proofs.YtoecgabdjpgleaaGreatDoor.Rd
open Go.Shelf
def idxB_ren : Go.Shelf.Ren := ⟨fun | 99 => 77 | 100 => 46 | 103 => 40 | 125 => 63 | 128 => 98 | 129 => 99 | 134 => 120 | 137 => 69 | 138 => 71 | 143 => 72 | 145 => 41 | 147 => 14 | 168 => 81 | 169 => 110 | 195 => 105 | 197 => 87 | 206 => 102 | 207 => 73 | 210 => 67 | 217 => 104 | 218 => 106 | 219 => 103 | 220 => 68 | 221 => 45 | 224 => 122 | 225 => 121 | 240 => 108 | 242 => 109 | 260 => 113 | 264 => 100 | 266 => 124 | 267 => 123 | 268 => 70 | 276 => 125 | 278 => 126 | 314 => 128 | 329 => 115 | 330 => 116 | 347 => 129 | 348 => 130 | 349 => 131 | 350 => 132 | 351 => 133 | 352 => 134 | 353 => 135 | 354 => 136 | 355 => 137 | 356 => 138 | 357 => 139 | 358 => 140 | 359 => 141 | 360 => 142 | 361 => 143 | 362 => 111 | 363 => 145 | 366 => 146 | 367 => 151 | n => n, fun | 3 => 3 | 5 => 5 | 9 => 9 | n => n, fun | n => n⟩
theorem idxB : Lays.n137 Tryz.prog idxB_ren := {
  mixed := by kernel_rfl
  f137 := Tryz.func69.trans (congrArg some (by kernel_rfl))
  f217 := Tryz.func104.trans (congrArg some (by kernel_rfl))
  f266 := Tryz.func124.trans (congrArg some (by kernel_rfl))
  t3 := Tryz.underlying3
  a3 := Tryz.isAgg3
  z3 := Tryz.sizeOf3
  v3 := Tryz.zeroValue3
  t5 := Tryz.underlying5
  a5 := Tryz.isAgg5
  z5 := Tryz.sizeOf5
  v5 := Tryz.zeroValue5
  t9 := Tryz.underlying9
  a9 := Tryz.isAgg9
  z9 := Tryz.sizeOf9
  v9 := Tryz.zeroValue9 }
theorem IndexByte_c (s : ByteArray) (c : Int) (w : World) :
    Calls Tryz.prog 69 #[.string s, .int .u8 c] w fun e w' => e = .returned (.int .i64 (Lib.indexByte s.data.toList c.toNat.toUInt8)) ∧ w' = w := Any.strings_IndexByte idxB s c w
end Go.Proofs.YtoecgabdjpgleaaGreatDoor.Rd
