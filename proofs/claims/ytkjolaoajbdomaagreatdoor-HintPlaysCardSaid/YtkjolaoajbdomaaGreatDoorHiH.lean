/-
  What the laws of layer 12 share: into and clamped; what the row says of the variables that it lists.
  Conditions: none.
-/
import Derived.Test.YtkjolaoajbdomaaGreatDoorHiG
import Derived.Test.YtkjolaoajbdomaaGreatDoorHsY
import Derived.Test.YtkjolaoajbdomaaGreatDoorRows
import Derived.LaidMore
import Derived.Stop.LaidErr
import Derived.Lib.LaidTab
namespace Go.Proofs.YtkjolaoajbdomaaGreatDoor.Hi
open Go.ChangeShapes Go.WideShapes Go.ChangeAt Go.RowKit Go.Joins By Ct Dk
set_option linter.unusedVariables false
set_option linter.unusedSimpArgs false

theorem into_c (n k : Int) (w : World) (h1 : -9223372036854775808 ≤ n) (h2 : n ≤ 9223372036854775807) (h3 : 0 < k) (h4 : k ≤ 4611686018427387904) : Calls Tryz.prog 7 #[.int .i64 n, .int .i64 k] w fun e w' => (∃ r : Nat, (r : Int) < k ∧ e = .returned (.int .i64 (r : Int))) ∧ w' = w := by
  have a1 := Int.tmod_lt_of_pos n h3
  have a2 : -k < n.tmod k := by
    have := Int.lt_tmod_of_pos n h3
    omega
  obtain ⟨t, ht⟩ : ∃ t, n.tmod k = t := ⟨_, rfl⟩
  have b0 : 0 ≤ t + k := by omega
  have b1 := Int.tmod_nonneg k b0
  have b2 := Int.tmod_lt_of_pos (t + k) h3
  obtain ⟨r, hr⟩ : ∃ r : Nat, (r : Int) = (t + k).tmod k := ⟨((t + k).tmod k).toNat, by omega⟩
  have R : Hid ((r : Int) < k) := Lib.hid (by omega)
  rw [ht] at a1 a2
  have W1 : IntKind.i64.wrap t = t := wrap_in (by omega) (by omega)
  have W2 : IntKind.i64.wrap (t + k) = t + k := wrap_in (by omega) (by omega)
  have W3 : IntKind.i64.wrap ((t + k).tmod k) = (r : Int) := by rw [← hr]; exact wrap_in (by omega) (by omega)
  have HR : Hid ((r : Int) = (t + k) % k) := Lib.hid (by rw [hr, Int.tmod_eq_emod_of_nonneg b0])
  have kz : ¬ k = 0 := by omega
  clear hr b0 b1 b2
  go_enter Tryz.func7, Tryz.ntmps7
  go_wp2_with fail
  go_ret
  exact ⟨⟨r, R.out, by rw [HR.out]; rfl⟩, rfl⟩
theorem clampI_eq (n : Int) : min (max n (-500000)) 500000 = clampI n := by
  unfold clampI
  omega
theorem conv_wr (w : World) (x : List UInt8) (hx : x.length ≤ 100000) : Wr (Lib.bytesWorld w 5 ⟨x.toArray⟩) w.heap.size 0 x.length (fun i => (nb x).getD i 0) := by
  have hs := ls_size x
  have hg := grownCap_ge w (⟨x.toArray⟩ : ByteArray).size 0 5
  have hz : (Lib.bytesCells w 5 ⟨x.toArray⟩).size = grownCap w (⟨x.toArray⟩ : ByteArray).size 0 5 := by
    unfold Lib.bytesCells
    rw [Array.size_append, Array.size_map, Array.size_replicate]
    show (⟨x.toArray⟩ : ByteArray).size + _ = _
    omega
  refine ⟨by rw [Lib.bytesWorld_size]; omega, fun i _ => getD_byte (nb_byte x) i, fun i hi => ⟨?_, ?_⟩⟩
  · rw [Nat.zero_add, Lib.bytesWorld_cell w _ _ i (by rw [hs]; exact hi), show (⟨x.toArray⟩ : ByteArray).data.toList = x from rfl]
    simp [nb, List.getD_eq_getElem?_getD, hi]
  · simp only [World.frozen?, Lib.bytesWorld_at_new]
    rw [hz]
    simp
    omega
theorem cellsE : Tryz.prog.cellsOf 170 = 1 := by kernel_rfl
theorem cellsT : Tryz.prog.cellsOf 9 = 1 := by kernel_rfl
theorem star : "*" ++ "errors.errorString" = "*errors.errorString" := by decide
theorem rowE (u : TypeId) (h : Tryz.prog.typeName? 3 u = some "*errors.errorString") : u = 168 :=
  typeName_ptr_named (nm := "errors.errorString") (by rw [star]; kernel_rfl) (by kernel_rfl) (by decide) u (by rw [star]; exact h)
theorem gt_of_laid {W : World} (h : laidMetH Tryz.prog Rows.hintPlaysRow.laid W) : Gt W := by
  rw [MakeChecks.laidMetH_plain _ _ _ (by kernel_rfl)] at h
  have h3 : laidMet Tryz.prog (("internal/strconv.uint64pow10", Lib.tabData .u64 Lib.pow10Tab) :: [("sundial/hash.md5Table", Rows.laid_sundial_hash_md5Table), ("sundial/hash.md5Turns", Rows.laid_sundial_hash_md5Turns), ("strconv.ErrRange", Rows.laid_strconv_ErrRange), ("strconv.ErrSyntax", Rows.laid_strconv_ErrSyntax)]) W := laidMet.tail (laidMet.tail h)
  have h1 : laidMet Tryz.prog (("sundial/hash.md5Table", Lib.tabData .u32 (Hs.mdKs.map fun (n : Nat) => (n : Int))) :: [("sundial/hash.md5Turns", Rows.laid_sundial_hash_md5Turns), ("strconv.ErrRange", Rows.laid_strconv_ErrRange), ("strconv.ErrSyntax", Rows.laid_strconv_ErrSyntax)]) W := laidMet.tail h3
  have h2 : laidMet Tryz.prog (("sundial/hash.md5Turns", Rows.laid_sundial_hash_md5Turns) :: [("strconv.ErrRange", Rows.laid_strconv_ErrRange), ("strconv.ErrSyntax", Rows.laid_strconv_ErrSyntax)]) W := laidMet.tail h1
  have h4 := laidMet.tail h2
  have h5 := laidMet.tail h4
  have t1 := Lib.tabIs_of_head (n := 64) (g := 1) (t := 154) (e := 94) (by kernel_rfl) (by kernel_rfl) Tryz.underlying154 Tryz.underlying94 (by kernel_rfl) (by kernel_rfl) h1
  refine ⟨⟨fun i hi => ?_, fun i hi => ?_, trivial⟩, Lib.tabIs_of_head (n := 20) (g := 0) (t := 151) (e := 116) (by kernel_rfl) (by kernel_rfl) Tryz.underlying151 Tryz.underlying116 (by kernel_rfl) (by kernel_rfl) h3, ?_, ?_⟩
  · have c := t1.cell (g := 1) (by kernel_rfl) i (by simpa [Hs.mdKs] using hi)
    rw [c]
    simp [Hs.mdK, List.getD_eq_getElem?_getD]
    cases Hs.mdKs[i]? <;> simp
  · obtain ⟨ps, ⟨g', t', cs, fuel, p, q, hg', ht', hvar, hd, _, _⟩, _⟩ := h2
    obtain rfl := Option.some.inj ((show Tryz.prog.globalNamed "sundial/hash.md5Turns" = some 2 by kernel_rfl).symm.trans hg')
    obtain rfl := Option.some.inj ((show (Tryz.prog.globals[2]?).map (·.type) = some 156 by kernel_rfl).symm.trans ht')
    rw [World.var?_cell hg' hvar i]
    simpa using Hs.turns_cells hd i hi
  · obtain ⟨a0, s0, hv0, -, -, -⟩ := laid_sentinel h5 (show Tryz.prog.globalNamed "strconv.ErrSyntax" = some 4 by kernel_rfl) (show (Tryz.prog.globals[4]?).map (·.type) = some 103 by kernel_rfl) Tryz.underlying103 rowE Tryz.underlying168 Tryz.underlying170 rfl rfl Tryz.underlying9 cellsE cellsT
    exact ⟨_, by have h0 := World.var?_cell (show Tryz.prog.globalNamed "strconv.ErrSyntax" = some 4 by kernel_rfl) hv0 0; simpa using h0, Or.inr ⟨_, _, rfl⟩⟩
  · obtain ⟨a0, s0, hv0, -, -, -⟩ := laid_sentinel h4 (show Tryz.prog.globalNamed "strconv.ErrRange" = some 5 by kernel_rfl) (show (Tryz.prog.globals[5]?).map (·.type) = some 103 by kernel_rfl) Tryz.underlying103 rowE Tryz.underlying168 Tryz.underlying170 rfl rfl Tryz.underlying9 cellsE cellsT
    exact ⟨_, by have h0 := World.var?_cell (show Tryz.prog.globalNamed "strconv.ErrRange" = some 5 by kernel_rfl) hv0 0; simpa using h0, Or.inr ⟨_, _, rfl⟩⟩
end Go.Proofs.YtkjolaoajbdomaaGreatDoor.Hi
