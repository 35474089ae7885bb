/-
  WordsCut: What stands behind a # that begins a word makes no difference, as long as no byte of it is wrong. The law returns true, and the inputs read as they did.
  Conditions: what the law reads is of bulk at most 1048576; unicode/utf8's two tables that the row lists read as the program's text lays them (the card ties them).
-/
import Derived.Test.YthlmjfjkjjoimaaDoorRows
import Derived.Test.YthlmjfjkjjoimaaDoorCards
import Derived.Test.YthlmjfjkjjoimaaDoorTie
import Derived.Test.YthlmjfjkjjoimaaDoorWpT
import Derived.Test.YthlmjfjkjjoimaaDoorWdT
import Derived.SevenTiedAt
import Derived.ChangeMaps5
import Derived.Carry
import Derived.Lib.SmallJoins
import Derived.JoinedCond
import Derived.Deep.DeepHandedRow
import Derived.Deep.RegionHeld3
namespace Go.Proofs.YthlmjfjkjjoimaaDoor.wordsCut
open Go.ChangeShapes Go.WideShapes Go.ChangeAt Go.RowKit Go.Joins Wd By
set_option linter.unusedVariables false
set_option linter.unusedSimpArgs false

theorem sm_same (L : List W3) : sm L L = true := sm_yes rfl (fun i _ => by simp [eqW])
theorem count_c (s : ByteArray) (w : World) (hs : s.size < 9223372036854775807) :
    Calls Tryd.prog 12 #[.string s] w fun e w' => e = .returned (.int .i64 ((chars s).length : Nat)) ∧ Below w.heap.size w w' := by
  refine (Tryd.utf8_RuneCountInString s w hs).mono ?_
  rintro e w' ⟨rfl, pos, rfl⟩
  exact ⟨by rw [count_chars], balloc (brefl w) _⟩
theorem chars_le (s : ByteArray) : (chars s).length ≤ s.size := by
  rw [← count_chars]
  exact Lib.runeCount_le s
set_option maxRecDepth 100000 in
set_option maxHeartbeats 4000000 in
theorem walk (X M : ByteArray) (hX : X.size ≤ 1048576) (hM : M.size ≤ 1048576) (w : World) (T : Lib.Utf8Tabs 0 1 w) :
    Calls Tryd.prog 5 #[.string X, .string M] w fun e w' => e = .returned (.bool true) ∧ Below w.heap.size w w' := by
  have HT := Lib.hid T
  clear T
  have zz : (X ++ spH).size ≤ 1048578 := by rw [ByteArray.size_append]; show _ + 2 ≤ _; omega
  have z2 : (⟨#[32, 35]⟩ : ByteArray).size = 2 := rfl
  have SC := fun w => Lib.hid (Split_c X w (by omega))
  have YC := fun w => Lib.hid (Split_c (X ++ spH ++ M) w (by rw [ByteArray.size_append]; omega))
  have CL := fun w => Lib.hid (closes_c M w (by omega))
  have VS := fun w T => Lib.hid (Tryd.utf8_ValidString M w (by omega) T)
  rw [valid_chars] at VS
  have CN := fun w => Lib.hid (count_c X w (by omega))
  have CC := cut_cases X M
  have n62 := chars_le X
  generalize spR X = R1 at *
  generalize spR (X ++ spH ++ M) = R2 at *
  unfold spH at YC zz
  generalize okc (chars M) = vm at *
  generalize has 34 M = h34 at *
  generalize (chars X).length = n at *
  rcases CC with ⟨c, d, rfl, rfl⟩ | ⟨c, l, rfl, rfl, rfl⟩ | ⟨ws, j, rfl, rfl, rfl, hj⟩ | ⟨ws, rfl, rfl, rfl⟩
  · simp only [fWhy, fChar, fWords] at SC YC
    go_enter Tryd.func5, Tryd.ntmps5
    go_wp2_with fail
    refine (awake7_c _).mono ?_
    rintro e w1 ⟨rfl, hb⟩
    have B1 := Lib.hid hb
    clear hb
    go_wp2_with fail
    refine (SC w1).out.mono ?_
    rintro e w2 ⟨v, rfl, own, hb⟩
    have B2 := Lib.hid (B1.out.trans (hb.mono B1.out.size))
    obtain ⟨a, cap, rfl⟩ := ownR_form own
    have B3 := Lib.hid (B2.out.alloc B2.out.size (.cells #[.int .i64 4, .int .i64 0, .int .i64 c] 26))
    have O3 := Lib.hid (own.rw.below (balloc (brefl w2) (.cells #[.int .i64 4, .int .i64 0, .int .i64 c] 26)))
    have F0 : (w2.alloc (.cells #[.int .i64 4, .int .i64 0, .int .i64 c] 26)).heap[w2.heap.size]? = some (.cells #[.int .i64 4, .int .i64 0, .int .i64 c] 26) := heap_alloc_new w2 _
    have L0 : w2.heap.size < (w2.alloc (.cells #[.int .i64 4, .int .i64 0, .int .i64 c] 26)).heap.size := by simp
    clear own hb
    go_wp2_with fail
    generalize w2.alloc (.cells #[.int .i64 4, .int .i64 0, .int .i64 c] 26) = w3 at *
    refine (YC w3).out.mono ?_
    rintro e w4 ⟨u, rfl, own, hb⟩
    have B4 := Lib.hid (B3.out.trans (hb.mono B3.out.size))
    obtain ⟨a', cap', rfl⟩ := ownR_form own
    have B5 := Lib.hid (B4.out.alloc B4.out.size (.cells #[.int .i64 4, .int .i64 0, .int .i64 d] 26))
    have X5 := Lib.hid (balloc hb (.cells #[.int .i64 4, .int .i64 0, .int .i64 d] 26))
    have U5 := Lib.hid (own.rw.below (balloc (brefl w4) (.cells #[.int .i64 4, .int .i64 0, .int .i64 d] 26)))
    have F2 : (w4.alloc (.cells #[.int .i64 4, .int .i64 0, .int .i64 d] 26)).heap[w4.heap.size]? = some (.cells #[.int .i64 4, .int .i64 0, .int .i64 d] 26) := heap_alloc_new w4 _
    have L2 : w4.heap.size < (w4.alloc (.cells #[.int .i64 4, .int .i64 0, .int .i64 d] 26)).heap.size := by simp
    have E4 : w2.heap.size < w4.heap.size := Nat.lt_of_lt_of_le L0 hb.size
    clear own hb
    have F1 := (X5.out.block _ L0).trans F0
    have g0 : (w4.alloc (.cells #[.int .i64 4, .int .i64 0, .int .i64 d] 26)).cell? ⟨w2.heap.size, 0, none⟩ = some (.int .i64 4) := by
      simp only [World.cell?, F1]
      rfl
    have q0 : (w4.alloc (.cells #[.int .i64 4, .int .i64 0, .int .i64 d] 26)).cell? ⟨w4.heap.size, 0, none⟩ = some (.int .i64 4) := by
      simp only [World.cell?, F2]
      rfl
    have q1 : (w4.alloc (.cells #[.int .i64 4, .int .i64 0, .int .i64 d] 26)).cell? ⟨w4.heap.size, 1, none⟩ = some (.int .i64 0) := by
      simp only [World.cell?, F2]
      rfl
    have q2 : (w4.alloc (.cells #[.int .i64 4, .int .i64 0, .int .i64 d] 26)).cell? ⟨w4.heap.size, 2, none⟩ = some (.int .i64 d) := by
      simp only [World.cell?, F2]
      rfl
    have O5 := Lib.hid (O3.out.below X5.out)
    go_upto_region 5 with fail
    generalize w4.alloc (.cells #[.int .i64 4, .int .i64 0, .int .i64 d] 26) = w5 at *
    clear F0 F1 F2 SC YC X5 O3
    go_wp2_with fail
    go_ret
    exact ⟨rfl, B5.out⟩
  · simp only [fWhy, fChar, fWords] at SC YC
    go_enter Tryd.func5, Tryd.ntmps5
    go_wp2_with fail
    refine (awake7_c _).mono ?_
    rintro e w1 ⟨rfl, hb⟩
    have B1 := Lib.hid hb
    clear hb
    go_wp2_with fail
    refine (SC w1).out.mono ?_
    rintro e w2 ⟨v, rfl, own, hb⟩
    have B2 := Lib.hid (B1.out.trans (hb.mono B1.out.size))
    obtain ⟨a, cap, rfl⟩ := ownR_form own
    have B3 := Lib.hid (B2.out.alloc B2.out.size (.cells #[.int .i64 4, .int .i64 0, .int .i64 c] 26))
    have O3 := Lib.hid (own.rw.below (balloc (brefl w2) (.cells #[.int .i64 4, .int .i64 0, .int .i64 c] 26)))
    have F0 : (w2.alloc (.cells #[.int .i64 4, .int .i64 0, .int .i64 c] 26)).heap[w2.heap.size]? = some (.cells #[.int .i64 4, .int .i64 0, .int .i64 c] 26) := heap_alloc_new w2 _
    have L0 : w2.heap.size < (w2.alloc (.cells #[.int .i64 4, .int .i64 0, .int .i64 c] 26)).heap.size := by simp
    clear own hb
    go_wp2_with fail
    generalize w2.alloc (.cells #[.int .i64 4, .int .i64 0, .int .i64 c] 26) = w3 at *
    refine (YC w3).out.mono ?_
    rintro e w4 ⟨u, rfl, own, hb⟩
    have B4 := Lib.hid (B3.out.trans (hb.mono B3.out.size))
    obtain ⟨a', cap', rfl⟩ := ownR_form own
    have B5 := Lib.hid (B4.out.alloc B4.out.size (.cells #[.int .i64 0, .int .i64 0, .int .i64 0] 26))
    have X5 := Lib.hid (balloc hb (.cells #[.int .i64 0, .int .i64 0, .int .i64 0] 26))
    have U5 := Lib.hid (own.rw.below (balloc (brefl w4) (.cells #[.int .i64 0, .int .i64 0, .int .i64 0] 26)))
    have F2 : (w4.alloc (.cells #[.int .i64 0, .int .i64 0, .int .i64 0] 26)).heap[w4.heap.size]? = some (.cells #[.int .i64 0, .int .i64 0, .int .i64 0] 26) := heap_alloc_new w4 _
    have L2 : w4.heap.size < (w4.alloc (.cells #[.int .i64 0, .int .i64 0, .int .i64 0] 26)).heap.size := by simp
    have E4 : w2.heap.size < w4.heap.size := Nat.lt_of_lt_of_le L0 hb.size
    clear own hb
    have F1 := (X5.out.block _ L0).trans F0
    have g0 : (w4.alloc (.cells #[.int .i64 0, .int .i64 0, .int .i64 0] 26)).cell? ⟨w2.heap.size, 0, none⟩ = some (.int .i64 4) := by
      simp only [World.cell?, F1]
      rfl
    have q0 : (w4.alloc (.cells #[.int .i64 0, .int .i64 0, .int .i64 0] 26)).cell? ⟨w4.heap.size, 0, none⟩ = some (.int .i64 0) := by
      simp only [World.cell?, F2]
      rfl
    have q1 : (w4.alloc (.cells #[.int .i64 0, .int .i64 0, .int .i64 0] 26)).cell? ⟨w4.heap.size, 1, none⟩ = some (.int .i64 0) := by
      simp only [World.cell?, F2]
      rfl
    have q2 : (w4.alloc (.cells #[.int .i64 0, .int .i64 0, .int .i64 0] 26)).cell? ⟨w4.heap.size, 2, none⟩ = some (.int .i64 0) := by
      simp only [World.cell?, F2]
      rfl
    have O5 := Lib.hid (O3.out.below X5.out)
    go_upto_region 5 with fail
    generalize w4.alloc (.cells #[.int .i64 0, .int .i64 0, .int .i64 0] 26) = w5 at *
    clear F0 F1 F2 SC YC X5 O3
    go_wp2_with fail
    refine (CL w5).out.mono ?_
    rintro e w6 ⟨rfl, rfl⟩
    go_wp2_with fail
    go_ret
    exact ⟨rfl, B5.out⟩
  · simp only [fWhy, fChar, fWords] at SC YC
    go_enter Tryd.func5, Tryd.ntmps5
    go_wp2_with fail
    refine (awake7_c _).mono ?_
    rintro e w1 ⟨rfl, hb⟩
    have B1 := Lib.hid hb
    clear hb
    go_wp2_with fail
    refine (SC w1).out.mono ?_
    rintro e w2 ⟨v, rfl, own, hb⟩
    have B2 := Lib.hid (B1.out.trans (hb.mono B1.out.size))
    obtain ⟨a, cap, rfl⟩ := ownR_form own
    have B3 := Lib.hid (B2.out.alloc B2.out.size (.cells #[.int .i64 0, .int .i64 0, .int .i64 0] 26))
    have O3 := Lib.hid (own.rw.below (balloc (brefl w2) (.cells #[.int .i64 0, .int .i64 0, .int .i64 0] 26)))
    have F0 : (w2.alloc (.cells #[.int .i64 0, .int .i64 0, .int .i64 0] 26)).heap[w2.heap.size]? = some (.cells #[.int .i64 0, .int .i64 0, .int .i64 0] 26) := heap_alloc_new w2 _
    have L0 : w2.heap.size < (w2.alloc (.cells #[.int .i64 0, .int .i64 0, .int .i64 0] 26)).heap.size := by simp
    clear own hb
    go_wp2_with fail
    generalize w2.alloc (.cells #[.int .i64 0, .int .i64 0, .int .i64 0] 26) = w3 at *
    refine (YC w3).out.mono ?_
    rintro e w4 ⟨u, rfl, own, hb⟩
    have B4 := Lib.hid (B3.out.trans (hb.mono B3.out.size))
    obtain ⟨a', cap', rfl⟩ := ownR_form own
    have B5 := Lib.hid (B4.out.alloc B4.out.size (.cells #[.int .i64 4, .int .i64 0, .int .i64 j] 26))
    have X5 := Lib.hid (balloc hb (.cells #[.int .i64 4, .int .i64 0, .int .i64 j] 26))
    have U5 := Lib.hid (own.rw.below (balloc (brefl w4) (.cells #[.int .i64 4, .int .i64 0, .int .i64 j] 26)))
    have F2 : (w4.alloc (.cells #[.int .i64 4, .int .i64 0, .int .i64 j] 26)).heap[w4.heap.size]? = some (.cells #[.int .i64 4, .int .i64 0, .int .i64 j] 26) := heap_alloc_new w4 _
    have L2 : w4.heap.size < (w4.alloc (.cells #[.int .i64 4, .int .i64 0, .int .i64 j] 26)).heap.size := by simp
    have E4 : w2.heap.size < w4.heap.size := Nat.lt_of_lt_of_le L0 hb.size
    clear own hb
    have F1 := (X5.out.block _ L0).trans F0
    have g0 : (w4.alloc (.cells #[.int .i64 4, .int .i64 0, .int .i64 j] 26)).cell? ⟨w2.heap.size, 0, none⟩ = some (.int .i64 0) := by
      simp only [World.cell?, F1]
      rfl
    have q0 : (w4.alloc (.cells #[.int .i64 4, .int .i64 0, .int .i64 j] 26)).cell? ⟨w4.heap.size, 0, none⟩ = some (.int .i64 4) := by
      simp only [World.cell?, F2]
      rfl
    have q1 : (w4.alloc (.cells #[.int .i64 4, .int .i64 0, .int .i64 j] 26)).cell? ⟨w4.heap.size, 1, none⟩ = some (.int .i64 0) := by
      simp only [World.cell?, F2]
      rfl
    have q2 : (w4.alloc (.cells #[.int .i64 4, .int .i64 0, .int .i64 j] 26)).cell? ⟨w4.heap.size, 2, none⟩ = some (.int .i64 j) := by
      simp only [World.cell?, F2]
      rfl
    have O5 := Lib.hid (O3.out.below X5.out)
    go_upto_region 5 with fail
    generalize w4.alloc (.cells #[.int .i64 4, .int .i64 0, .int .i64 j] 26) = w5 at *
    clear F0 F1 F2 SC YC X5 O3
    go_wp2_with fail
    refine (VS w5 (Utf8Tabs_below HT.out B5.out)).out.mono ?_
    rintro e w6 ⟨rfl, hb⟩
    have B6 := Lib.hid (B5.out.trans (hb.mono B5.out.size))
    have k0 := (hb.cell (p := ⟨w4.heap.size, 0, none⟩) L2).trans q0
    have k2 := (hb.cell (p := ⟨w4.heap.size, 2, none⟩) L2).trans q2
    have L6 : w4.heap.size < w6.heap.size := Nat.lt_of_lt_of_le L2 hb.size
    obtain ⟨N2, hN2⟩ : ∃ N2 : Int, (n : Int) + 2 = N2 := ⟨_, rfl⟩
    have W1 : IntKind.i64.wrap ((n : Int) + 2) = N2 := by rw [wrap_in (by omega) (by omega), hN2]
    have e1 : decide (N2 ≤ (j : Int)) = true := by rw [decide_eq_true_iff]; omega
    clear hN2
    have KP : Hid (∀ w', Below w6.heap.size w6 w' → (w'.cell? ⟨w4.heap.size, 0, none⟩ = some (.int .i64 4) ∧ w'.cell? ⟨w4.heap.size, 2, none⟩ = some (.int .i64 j) ∧ Below w6.heap.size w6 w')) := Lib.hid (fun w' k => ⟨(k.cell (p := ⟨w4.heap.size, 0, none⟩) L6).trans k0, (k.cell (p := ⟨w4.heap.size, 2, none⟩) L6).trans k2, k⟩)
    have KD := Lib.hid (KP.out _ ((brefl w6).drew))
    have KC := Lib.hid (fun w1 w2 (d : Below w6.heap.size w6 w1) (d2 : Below w1.heap.size w1 w2) => KP.out w2 (bstep d d2))
    clear hb g0 q0 q1 q2 VS CL
    go_wp2_with fail
    refine wp_region_noPanic ?_
    refine wp_region_held_drew (S := fun w' => (w'.cell? ⟨w4.heap.size, 0, none⟩ = some (.int .i64 4) ∧ w'.cell? ⟨w4.heap.size, 2, none⟩ = some (.int .i64 j) ∧ Below w6.heap.size w6 w')) (by kernel_rfl) KD.out (fun hHeld => ?_)
    refine wpAnyH_take (i := 0) (v := ?_) rfl (by kernel_rfl) (by kernel_rfl) (by kernel_rfl) (fun _ _ _ h => h) (Or.inl ⟨by rfl, ?_⟩) hHeld ?_
    rotate_left
    · ((intro w hSw; (try dsimp only at hSw); (try (obtain ⟨hS1, hS2, hS3⟩ := hSw)); go_simp); try with_reducible rfl)
    (try simp only [List.getElem_toArray, List.getElem_cons_succ, List.getElem_cons_zero, Act.put, List.setIfInBounds_toArray, List.set_cons_zero, List.set_cons_succ])
    refine wpAnyH_take (i := 1) (v := ?_) rfl (by kernel_rfl) (by kernel_rfl) (by kernel_rfl) (fun _ _ _ h => h) (Or.inl ⟨by rfl, ?_⟩) hHeld ?_
    rotate_left
    · ((intro w hSw; (try dsimp only at hSw); (try (obtain ⟨hS1, hS2, hS3⟩ := hSw)); go_simp); try with_reducible rfl)
    (try simp only [List.getElem_toArray, List.getElem_cons_succ, List.getElem_cons_zero, Act.put, List.setIfInBounds_toArray, List.set_cons_zero, List.set_cons_succ])
    refine wpAnyH_take (i := 2) (v := ?_) rfl (by kernel_rfl) (by kernel_rfl) (by kernel_rfl) (fun _ _ _ h => h) (Or.inl ⟨by rfl, ?_⟩) hHeld ?_
    rotate_left
    · ((intro w hSw; (try dsimp only at hSw); (try (obtain ⟨hS1, hS2, hS3⟩ := hSw)); go_simp); try with_reducible rfl)
    (try simp only [List.getElem_toArray, List.getElem_cons_succ, List.getElem_cons_zero, Act.put, List.setIfInBounds_toArray, List.set_cons_zero, List.set_cons_succ])
    refine wpAnyH_take (i := 3) (v := ?_) rfl (by kernel_rfl) (by kernel_rfl) (by kernel_rfl) (fun _ _ _ h => h) (Or.inl ⟨by rfl, ?_⟩) hHeld ?_
    rotate_left
    · ((intro w hSw; (try dsimp only at hSw); (try (obtain ⟨hS1, hS2, hS3⟩ := hSw)); go_simp); try with_reducible rfl)
    (try simp only [List.getElem_toArray, List.getElem_cons_succ, List.getElem_cons_zero, Act.put, List.setIfInBounds_toArray, List.set_cons_zero, List.set_cons_succ])
    refine wpAnyH_take (i := 4) (v := ?_) rfl (by kernel_rfl) (by kernel_rfl) (by kernel_rfl) (fun _ _ _ h => h) (Or.inl ⟨by rfl, ?_⟩) hHeld ?_
    rotate_left
    · ((intro w hSw; (try dsimp only at hSw); (try (obtain ⟨hS1, hS2, hS3⟩ := hSw)); go_simp); try with_reducible rfl)
    (try simp only [List.getElem_toArray, List.getElem_cons_succ, List.getElem_cons_zero, Act.put, List.setIfInBounds_toArray, List.set_cons_zero, List.set_cons_succ])
    refine wpAnyH_take (i := 5) (v := ?_) rfl (by kernel_rfl) (by kernel_rfl) (by kernel_rfl) (fun _ _ _ h => h) (Or.inl ⟨by rfl, ?_⟩) hHeld ?_
    rotate_left
    · ((intro w hSw; (try dsimp only at hSw); (try (obtain ⟨hS1, hS2, hS3⟩ := hSw)); go_simp); try with_reducible rfl)
    (try simp only [List.getElem_toArray, List.getElem_cons_succ, List.getElem_cons_zero, Act.put, List.setIfInBounds_toArray, List.set_cons_zero, List.set_cons_succ])
    refine wpAnyH_take (i := 6) (v := ?_) rfl (by kernel_rfl) (by kernel_rfl) (by kernel_rfl) (fun _ _ _ h => h) (Or.inl ⟨by rfl, ?_⟩) hHeld ?_
    rotate_left
    · ((intro w hSw; (try dsimp only at hSw); (try (obtain ⟨hS1, hS2, hS3⟩ := hSw)); go_simp); try with_reducible rfl)
    (try simp only [List.getElem_toArray, List.getElem_cons_succ, List.getElem_cons_zero, Act.put, List.setIfInBounds_toArray, List.set_cons_zero, List.set_cons_succ])
    refine wpAnyH_ready (rs := [7]) (by kernel_rfl) (by simp) (AllReadyH.cons rfl (fun KQ hKQ => ?_) AllReadyH.nil)
    go_simp
    refine (CN _).out.mono ?_
    rintro e w8 ⟨rfl, hb8⟩
    replace hHeld := KC.out _ _ hHeld.2.2 hb8
    clear hb8
    go_wp2_with fail
    refine hKQ.out _ _ hHeld (fun hH2 => ?_)
    clear hKQ KQ hHeld
    have hHeld := hH2
    clear hH2
    (try simp only [List.getElem_toArray, List.getElem_cons_succ, List.getElem_cons_zero, Act.put, List.setIfInBounds_toArray, List.set_cons_zero, List.set_cons_succ])
    refine wpAnyH_take (i := 8) (v := ?_) rfl (by kernel_rfl) (by kernel_rfl) (by kernel_rfl) (fun _ _ _ h => h) (Or.inl ⟨by rfl, ?_⟩) hHeld ?_
    rotate_left
    · ((intro w hSw; (try dsimp only at hSw); (try (obtain ⟨hS1, hS2, hS3⟩ := hSw)); go_simp); try with_reducible rfl)
    (try simp only [List.getElem_toArray, List.getElem_cons_succ, List.getElem_cons_zero, Act.put, List.setIfInBounds_toArray, List.set_cons_zero, List.set_cons_succ])
    refine wpAnyH_take (i := 9) (v := ?_) rfl (by kernel_rfl) (by kernel_rfl) (by kernel_rfl) (fun _ _ _ h => h) (Or.inl ⟨by rfl, ?_⟩) hHeld ?_
    rotate_left
    · ((intro w hSw; (try dsimp only at hSw); (try (obtain ⟨hS1, hS2, hS3⟩ := hSw)); go_simp); try with_reducible rfl)
    (try simp only [List.getElem_toArray, List.getElem_cons_succ, List.getElem_cons_zero, Act.put, List.setIfInBounds_toArray, List.set_cons_zero, List.set_cons_succ])
    refine wpAnyH_take (i := 10) (v := ?_) rfl (by kernel_rfl) (by kernel_rfl) (by kernel_rfl) (fun _ _ _ h => h) (Or.inl ⟨by rfl, ?_⟩) hHeld ?_
    rotate_left
    · ((intro w hSw; (try dsimp only at hSw); (try (obtain ⟨hS1, hS2, hS3⟩ := hSw)); go_simp); try with_reducible rfl)
    (try simp only [List.getElem_toArray, List.getElem_cons_succ, List.getElem_cons_zero, Act.put, List.setIfInBounds_toArray, List.set_cons_zero, List.set_cons_succ])
    refine wpAnyH_take (i := 11) (v := ?_) rfl (by kernel_rfl) (by kernel_rfl) (by kernel_rfl) (fun _ _ _ h => h) (Or.inl ⟨by rfl, ?_⟩) hHeld ?_
    rotate_left
    · ((intro w hSw; (try dsimp only at hSw); (try (obtain ⟨hS1, hS2, hS3⟩ := hSw)); go_simp); try with_reducible rfl)
    (try simp only [List.getElem_toArray, List.getElem_cons_succ, List.getElem_cons_zero, Act.put, List.setIfInBounds_toArray, List.set_cons_zero, List.set_cons_succ])
    refine wpAnyH_take (i := 12) (v := undef) rfl (by kernel_rfl) (by kernel_rfl) (by kernel_rfl) (fun _ _ _ h => h) (Or.inr ⟨by rfl, rfl⟩) hHeld ?_
    (try simp only [List.getElem_toArray, List.getElem_cons_succ, List.getElem_cons_zero, Act.put, List.setIfInBounds_toArray, List.set_cons_zero, List.set_cons_succ])
    refine wpAnyH_ready (rs := [13]) (by kernel_rfl) (by simp) (AllReadyH.cons rfl (fun KQ hKQ => ?_) AllReadyH.nil)
    rw [if_neg (by rw [show Region.wanted _ _ = false from rfl]; decide)]
    refine hKQ.out _ _ hHeld (fun hH2 => ?_)
    clear hKQ KQ hHeld
    have hHeld := hH2
    clear hH2
    (try simp only [List.getElem_toArray, List.getElem_cons_succ, List.getElem_cons_zero, Act.put, List.setIfInBounds_toArray, List.set_cons_zero, List.set_cons_succ])
    refine wpAnyH_take (i := 14) (v := undef) rfl (by kernel_rfl) (by kernel_rfl) (by kernel_rfl) (fun _ _ _ h => h) (Or.inr ⟨by rfl, rfl⟩) hHeld ?_
    (try simp only [List.getElem_toArray, List.getElem_cons_succ, List.getElem_cons_zero, Act.put, List.setIfInBounds_toArray, List.set_cons_zero, List.set_cons_succ])
    refine wpAnyH_take (i := 15) (v := undef) rfl (by kernel_rfl) (by kernel_rfl) (by kernel_rfl) (fun _ _ _ h => h) (Or.inr ⟨by rfl, rfl⟩) hHeld ?_
    (try simp only [List.getElem_toArray, List.getElem_cons_succ, List.getElem_cons_zero, Act.put, List.setIfInBounds_toArray, List.set_cons_zero, List.set_cons_succ])
    refine wpAnyH_take (i := 16) (v := undef) rfl (by kernel_rfl) (by kernel_rfl) (by kernel_rfl) (fun _ _ _ h => h) (Or.inr ⟨by rfl, rfl⟩) hHeld ?_
    (try simp only [List.getElem_toArray, List.getElem_cons_succ, List.getElem_cons_zero, Act.put, List.setIfInBounds_toArray, List.set_cons_zero, List.set_cons_succ])
    refine wpAnyH_take (i := 17) (v := undef) rfl (by kernel_rfl) (by kernel_rfl) (by kernel_rfl) (fun _ _ _ h => h) (Or.inr ⟨by rfl, rfl⟩) hHeld ?_
    (try simp only [List.getElem_toArray, List.getElem_cons_succ, List.getElem_cons_zero, Act.put, List.setIfInBounds_toArray, List.set_cons_zero, List.set_cons_succ])
    refine wpAnyH_take (i := 18) (v := undef) rfl (by kernel_rfl) (by kernel_rfl) (by kernel_rfl) (fun _ _ _ h => h) (Or.inr ⟨by rfl, rfl⟩) hHeld ?_
    (try simp only [List.getElem_toArray, List.getElem_cons_succ, List.getElem_cons_zero, Act.put, List.setIfInBounds_toArray, List.set_cons_zero, List.set_cons_succ])
    refine wpAnyH_take (i := 19) (v := ?_) rfl (by kernel_rfl) (by kernel_rfl) (by kernel_rfl) (fun _ _ _ h => h) (Or.inl ⟨by rfl, ?_⟩) hHeld ?_
    rotate_left
    · ((intro w hSw; (try dsimp only at hSw); (try (obtain ⟨hS1, hS2, hS3⟩ := hSw)); go_simp); try with_reducible rfl)
    (try simp only [List.getElem_toArray, List.getElem_cons_succ, List.getElem_cons_zero, Act.put, List.setIfInBounds_toArray, List.set_cons_zero, List.set_cons_succ])
    refine wpAnyH_take (i := 20) (v := ?_) rfl (by kernel_rfl) (by kernel_rfl) (by kernel_rfl) (fun _ _ _ h => h) (Or.inl ⟨by rfl, ?_⟩) hHeld ?_
    rotate_left
    · ((intro w hSw; (try dsimp only at hSw); (try (obtain ⟨hS1, hS2, hS3⟩ := hSw)); go_simp); try with_reducible rfl)
    (try simp only [List.getElem_toArray, List.getElem_cons_succ, List.getElem_cons_zero, Act.put, List.setIfInBounds_toArray, List.set_cons_zero, List.set_cons_succ])
    refine wpAnyH_done (by kernel_rfl) ?_ _
    refine NoPanic.normal ?_
    have FB := Lib.hid (B6.out.trans (hHeld.2.2.mono B6.out.size))
    clear hHeld
    go_wp2_with fail
    go_ret
    exact ⟨rfl, FB.out⟩
  · simp only [fWhy, fChar, fWords] at SC YC
    go_enter Tryd.func5, Tryd.ntmps5
    go_wp2_with fail
    refine (awake7_c _).mono ?_
    rintro e w1 ⟨rfl, hb⟩
    have B1 := Lib.hid hb
    clear hb
    go_wp2_with fail
    refine (SC w1).out.mono ?_
    rintro e w2 ⟨v, rfl, own, hb⟩
    have B2 := Lib.hid (B1.out.trans (hb.mono B1.out.size))
    obtain ⟨a, cap, rfl⟩ := ownR_form own
    have B3 := Lib.hid (B2.out.alloc B2.out.size (.cells #[.int .i64 0, .int .i64 0, .int .i64 0] 26))
    have O3 := Lib.hid (own.rw.below (balloc (brefl w2) (.cells #[.int .i64 0, .int .i64 0, .int .i64 0] 26)))
    have F0 : (w2.alloc (.cells #[.int .i64 0, .int .i64 0, .int .i64 0] 26)).heap[w2.heap.size]? = some (.cells #[.int .i64 0, .int .i64 0, .int .i64 0] 26) := heap_alloc_new w2 _
    have L0 : w2.heap.size < (w2.alloc (.cells #[.int .i64 0, .int .i64 0, .int .i64 0] 26)).heap.size := by simp
    clear own hb
    go_wp2_with fail
    generalize w2.alloc (.cells #[.int .i64 0, .int .i64 0, .int .i64 0] 26) = w3 at *
    refine (YC w3).out.mono ?_
    rintro e w4 ⟨u, rfl, own, hb⟩
    have B4 := Lib.hid (B3.out.trans (hb.mono B3.out.size))
    obtain ⟨a', cap', rfl⟩ := ownR_form own
    have B5 := Lib.hid (B4.out.alloc B4.out.size (.cells #[.int .i64 0, .int .i64 0, .int .i64 0] 26))
    have X5 := Lib.hid (balloc hb (.cells #[.int .i64 0, .int .i64 0, .int .i64 0] 26))
    have U5 := Lib.hid (own.rw.below (balloc (brefl w4) (.cells #[.int .i64 0, .int .i64 0, .int .i64 0] 26)))
    have F2 : (w4.alloc (.cells #[.int .i64 0, .int .i64 0, .int .i64 0] 26)).heap[w4.heap.size]? = some (.cells #[.int .i64 0, .int .i64 0, .int .i64 0] 26) := heap_alloc_new w4 _
    have L2 : w4.heap.size < (w4.alloc (.cells #[.int .i64 0, .int .i64 0, .int .i64 0] 26)).heap.size := by simp
    have E4 : w2.heap.size < w4.heap.size := Nat.lt_of_lt_of_le L0 hb.size
    clear own hb
    have F1 := (X5.out.block _ L0).trans F0
    have g0 : (w4.alloc (.cells #[.int .i64 0, .int .i64 0, .int .i64 0] 26)).cell? ⟨w2.heap.size, 0, none⟩ = some (.int .i64 0) := by
      simp only [World.cell?, F1]
      rfl
    have q0 : (w4.alloc (.cells #[.int .i64 0, .int .i64 0, .int .i64 0] 26)).cell? ⟨w4.heap.size, 0, none⟩ = some (.int .i64 0) := by
      simp only [World.cell?, F2]
      rfl
    have q1 : (w4.alloc (.cells #[.int .i64 0, .int .i64 0, .int .i64 0] 26)).cell? ⟨w4.heap.size, 1, none⟩ = some (.int .i64 0) := by
      simp only [World.cell?, F2]
      rfl
    have q2 : (w4.alloc (.cells #[.int .i64 0, .int .i64 0, .int .i64 0] 26)).cell? ⟨w4.heap.size, 2, none⟩ = some (.int .i64 0) := by
      simp only [World.cell?, F2]
      rfl
    have O5 := Lib.hid (O3.out.below X5.out)
    go_upto_region 5 with fail
    generalize w4.alloc (.cells #[.int .i64 0, .int .i64 0, .int .i64 0] 26) = w5 at *
    clear F0 F1 F2 SC YC X5 O3
    go_wp2_with fail
    refine (VS w5 (Utf8Tabs_below HT.out B5.out)).out.mono ?_
    rintro e w6 ⟨rfl, hb⟩
    have B6 := Lib.hid (B5.out.trans (hb.mono B5.out.size))
    have k0 := (hb.cell (p := ⟨w4.heap.size, 0, none⟩) L2).trans q0
    have k1 := (hb.cell (p := ⟨w4.heap.size, 1, none⟩) L2).trans q1
    have k2 := (hb.cell (p := ⟨w4.heap.size, 2, none⟩) L2).trans q2
    have SM := Lib.hid (rSame_c (O5.out.below hb) (U5.out.below hb))
    rw [sm_same] at SM
    clear hb g0 q0 q1 q2 VS CL
    go_wp2_with fail
    refine SM.out.mono ?_
    rintro e w7 ⟨rfl, hb⟩
    have B7 := Lib.hid (B6.out.trans (hb.mono B6.out.size))
    clear hb
    go_wp2_with fail
    go_ret
    exact ⟨rfl, B7.out⟩

theorem bulk_one {H : Type} (d : DataW H) : 1 ≤ Rows.uptoBulk d := by
  cases d with
  | lit l => cases l <;> simp [Rows.uptoBulk]
  | _ => simp [Rows.uptoBulk]
theorem bulk_len {H : Type} : ∀ l : List (DataW H), l.length ≤ Rows.uptoBulkAll l
  | [] => Nat.zero_le _
  | d :: r => by
    have a := bulk_one d
    have b := bulk_len r
    simp only [List.length_cons, Rows.uptoBulkAll]
    omega
theorem bulk_mem {H : Type} : ∀ (l : List (DataW H)) (d : DataW H), d ∈ l → Rows.uptoBulk d ≤ Rows.uptoBulkAll l
  | [], d, h => by cases h
  | x :: r, d, h => by
    rcases List.mem_cons.1 h with e | e
    · subst e
      simp only [Rows.uptoBulkAll]
      omega
    · have := bulk_mem r d e
      simp only [Rows.uptoBulkAll]
      omega
theorem bulk_str {H : Type} {ds : List (DataW H)} {s : ByteArray} (hk : Rows.uptoBulkAll ds ≤ 1048576) (h : (DataW.lit (.string s.data.toList)) ∈ ds) : s.size ≤ 1048576 := by
  have := bulk_mem ds _ h
  simp only [Rows.uptoBulk] at this
  have e : s.data.toList.length = s.size := by rw [Array.length_toList]; rfl
  omega

theorem reads (os : Os) {H : Type} (enc : TypeId × Value → H) : ∃ places, DataW.whole enc Tryd.prog ((World.laidAll Tryd.prog os Rows.wordsCutUptoRow.laid).forCall (fun _ _ => 0) ⟨#[], #[.string ⟨#[]⟩, .string ⟨#[]⟩], []⟩).memory Tryd.f5.params.toList Rows.wordsCutSpec.vars false #[.string ⟨#[]⟩, .string ⟨#[]⟩].toList 8 = some ([.lit (.string []), .lit (.string [])], [], places) :=
  ⟨[], by kernel_rfl⟩
theorem metU (os : Os) (args : Array Value) : laidMetH Tryd.prog Rows.wordsCutUptoRow.laid ((World.laidAll Tryd.prog os Rows.wordsCutUptoRow.laid).forCall (fun _ _ => 0) ⟨#[], args, []⟩).memory := by
  rw [MakeChecks.laidMetH_plain _ _ _ (by kernel_rfl)]
  exact laidMet_laidAll args (by kernel_rfl) (by kernel_rfl)

set_option maxRecDepth 100000 in
theorem lifted (os : Os) (started : os.Started) (H : Type) (enc : TypeId × Value → H) (I : Stop.Interp) :
    ReturnsInHanded {} Tryd.checked os 5 .any ((Rows.OpenSpec.upto Rows.wordsCutSpec).preRow enc Tryd.prog Tryd.f5 Rows.wordsCutUptoRow.domain false Rows.wordsCutUptoRow.laid) (((Rows.OpenSpec.upto Rows.wordsCutSpec).at I).post enc Tryd.prog Tryd.f5 false true false false) := by
  obtain ⟨places, hx⟩ := reads os enc
  refine returnsInHanded_of_row (C := Tryd.checked) (s := Rows.OpenSpec.upto Rows.wordsCutSpec) own started (by kernel_rfl) Tryd.func5
    (witness_row_at (enc := enc) (C := Tryd.checked) false (World.laidAll Tryd.prog os Rows.wordsCutUptoRow.laid) #[.string ⟨#[]⟩, .string ⟨#[]⟩] rfl (by kernel_rfl) (by kernel_rfl) (by kernel_rfl)
      (OpenSpec.preRow_of_cond 8 hx (by kernel_rfl) (fun k hk => by cases hk; kernel_rfl) (by kernel_rfl) (metU os _))) ?_
  intro W base args ds gs before hval0 hW _ hcond hsz0 hL _ _
  have hsz : (DataW.weightsEach Tryd.prog (Tryd.f5.params.toList ++ Rows.wordsCutSpec.plain.varTypes Tryd.prog) (ds ++ gs)).all (· ≤ reachBytes) = true := hsz0
  have hk0 : Rows.uptoBulkAll (ds ++ gs) ≤ 1048576 := of_decide_eq_true (hcond _ rfl)
  have hval : ∀ (j : Nat) t v, Tryd.f5.params[j]? = some t → args[j]? = some v → Value.okWide Tryd.prog W .any base t v := hval0
  have hW' := hW
  obtain ⟨p, q, hA0, hV, rfl, hfz, hnd⟩ := hW
  have hA : DataW.TrodAll enc Tryd.prog W 0 (fun _ => true) true Tryd.f5.params.toList args.toList ds p := hA0
  rw [Tryd.params5] at hA hval hsz
  obtain ⟨v0, vs0, d0, ds0, p0, q0, hargs, rfl, rfl, h0, r0⟩ := trodAll_cons hA
  obtain ⟨v1, vs1, d1, ds1, p1, q1, rfl, rfl, rfl, h1, r1⟩ := trodAll_cons r0
  obtain ⟨rfl, rfl, rfl⟩ := trodAll_nil r1
  obtain rfl : args = #[v0, v1] := by cases args; simp_all
  obtain ⟨rfl, rfl⟩ := trodVars_none hV
  have h0k := h0
  have hlt0 : ∀ x ∈ p0, x.block < W.heap.size := fun x hx => by have := hW'.lt x (by simp [hx]); simpa using this
  have h1k := h1
  have hlt1 : ∀ x ∈ p1, x.block < W.heap.size := fun x hx => by have := hW'.lt x (by simp [hx]); simpa using this
  obtain ⟨s0, rfl, rfl, rfl, ws0⟩ := Go.ChangeMaps.open_string Tryd.underlying9 (hval 0 9 v0 rfl rfl) h0
  have hs0 : s0.size ≤ 1048576 := bulk_str hk0 (by simp)
  obtain ⟨s1, rfl, rfl, rfl, ws1⟩ := Go.ChangeMaps.open_string Tryd.underlying9 (hval 1 9 v1 rfl rfl) h1
  have hs1 : s1.size ≤ 1048576 := bulk_str hk0 (by simp)
  clear hA0 hval0
  simp only [List.append_nil] at hW'
  refine (walk s0 s1 hs0 hs1 W (tabs_of_laid hL)).mono fun e W' ⟨he, hg⟩ => ?_
  subst he
  exact ⟨_, rfl, _, _, _, [], _, [], hW', trodAll_cons_mk (shut_bool Tryd.underlying4 _) trodAll_mk0,
    (trodAll_cons_mk (Below.trod laidOut (by kernel_rfl) (of_decide_eq_true (by kernel_rfl)) h0k hg hlt0) (trodAll_cons_mk (Below.trod laidOut (by kernel_rfl) (of_decide_eq_true (by kernel_rfl)) h1k hg hlt1) trodAll_mk0)), rfl, hg.frame _, fun h => nomatch h⟩

theorem over : Rows.WordsCutUptoSaid :=
  OpenClaim.holds_of_cond 5 Tryd.f5 rfl rfl rfl rfl rfl rfl rfl ⟨rfl, rfl, rfl, rfl, rfl⟩ rfl rfl rfl rfl rfl (by kernel_rfl) Tryd.func5 (by kernel_rfl)
    (of_decide_eq_true (by kernel_rfl)) (by unfold Func.isWrapper; first | (rw [if_pos (by decide +kernel)]; kernel_rfl) | (rw [if_neg (by decide +kernel)]; exact ⟨rfl, rfl⟩))
    (fun os started H enc _ I => by rw [OpenClaim.pre_eq_preRow]; exact lifted os started H enc I)

theorem proved : Rows.WordsCutUptoCardSaid :=
  Claim7.holds_tied_plain_at .later [] _ _ _ _ over (fun _ h => by cases h) (by kernel_rfl) (fun _ h => by cases h) wordsCutUpto_row_tie rfl ⟨rfl, rfl⟩ (by kernel_rfl) rfl
    (fun f fn hf hfn => by
      obtain rfl : f = 5 := Option.some.inj ((show Tryd.prog.funcNamed Rows.wordsCutUptoRow.func = some 5 by kernel_rfl).symm.trans hf) |>.symm
      obtain rfl : fn = Tryd.f5 := (Option.some.inj (Tryd.func5.symm.trans hfn)).symm
      exact ⟨by kernel_rfl, fun j t ht => by
        rw [Tryd.params5] at ht
        have hm : t ∈ [9, 9] := by simpa using Array.mem_of_getElem? ht
        have hall : ([9, 9].all fun u => !Tryd.prog.wantsStandIn u) = true := by kernel_rfl
        exact (show Tryd.prog.wantsStandIn t = false by simpa using List.all_eq_true.1 hall t hm)⟩)
    (by kernel_rfl)
end Go.Proofs.YthlmjfjkjjoimaaDoor.wordsCut
