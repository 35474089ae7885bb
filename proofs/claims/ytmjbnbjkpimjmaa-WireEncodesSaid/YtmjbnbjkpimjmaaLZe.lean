/-
  WireEncodes: Every packet has just its bytes, or is none that bytes tell. The law returns true for every input, and the input reads as it did.
  Conditions: none.
-/
import Derived.Test.YtmjbnbjkpimjmaaRows
import Derived.Test.YtmjbnbjkpimjmaaWiZ
import Derived.Test.YtmjbnbjkpimjmaaWiI
import Derived.Test.YtmjbnbjkpimjmaaWiF
import Derived.SizedLaws
import Derived.Deep.RegionHeld3
import Derived.Lib.SmallJoins
namespace Go.Proofs.Ytmjbnbjkpimjmaa.wireEncodes
open Go.ChangeShapes Go.WideShapes Go.ChangeAt Go.RowKit Go.Joins By Wi
set_option linter.unusedVariables false
set_option linter.unusedSimpArgs false

theorem own : ownKnob Try.prog.godebug = none := by kernel_rfl
theorem laidOut : laidOutB Try.prog = true := by kernel_rfl
set_option maxRecDepth 100000 in
set_option maxHeartbeats 16000000 in
theorem walk_yes (p : Pk) (fv dv : Value) (V : Nat → Value) (w : World) (P : Pm w p fv dv V) (c : rt p = true) :
    Calls Try.prog 3 #[PV p fv dv] w fun e w' => e = .returned (.bool true) ∧ Below w.heap.size w w' := by
  have PM := Lib.hid P
  obtain ⟨fa, fc, rfl⟩ := P.1.form
  obtain ⟨da, dc, rfl⟩ := P.2.1.form
  clear P
  have HE : Hid (∀ z, Below w.heap.size w z → Calls Try.prog 9 #[.agg (pvs p (.slice fa p.fs.length fc) (.slice da p.dig.length dc)).toArray] z fun e w' => (∃ v, e = .returned (.tuple #[v, .int .i64 0]) ∧ By.Own w' z.heap.size v (enc p)) ∧ Below z.heap.size z w') := Lib.hid (fun z (k : Below w.heap.size w z) => Encode_yes (PM.out.below k) c)
  have HR : Hid (∀ z, Below w.heap.size w z → Calls Try.prog 10 #[.agg (pvs p (.slice fa p.fs.length fc) (.slice da p.dig.length dc)).toArray] z fun e w' => (∃ v, e = .returned (.tuple #[v, .int .i64 0]) ∧ By.Own w' z.heap.size v (enc p)) ∧ Below z.heap.size z w') := Lib.hid (fun z (k : Below w.heap.size w z) => rEncode_yes (PM.out.below k) c)
  have HCK : Hid (∀ z, Below w.heap.size w z → Calls Try.prog 11 #[.agg (pvs p (.slice fa p.fs.length fc) (.slice da p.dig.length dc)).toArray] z fun e w' => e = .returned (.int .i64 (chk p)) ∧ Below z.heap.size z w') := Lib.hid fun z k => Check_c (PM.out.below k)
  have HCR : Hid (∀ z, Below w.heap.size w z → Calls Try.prog 12 #[.agg (pvs p (.slice fa p.fs.length fc) (.slice da p.dig.length dc)).toArray] z fun e w' => e = .returned (.int .i64 (chk p)) ∧ Below z.heap.size z w') := Lib.hid fun z k => rCheck_c (PM.out.below k)
  have BY := Lib.hid (enc_byte (rt_cut c).1 PM.out.2.2)
  clear c PM
  generalize chk p = CH at *
  have AW := fun z => Lib.hid (awake9_c z)
  have B1 := Lib.hid (balloc (brefl w) (.cells #[.int .i64 p.leap, .int .i64 p.ver, .int .i64 p.mode, .int .i64 p.strat, .int .i64 p.poll, .int .i64 p.prec, .int .u32 (p.rd : Nat), .int .u32 (p.rs : Nat), .int .u32 (p.rid : Nat), .int .u64 (p.tref : Nat), .int .u64 (p.torg : Nat), .int .u64 (p.trec : Nat), .int .u64 (p.txm : Nat), .slice fa p.fs.length fc, .int .i64 p.auth, .int .u32 (p.key : Nat), .slice da p.dig.length dc] 30))
  have NP : Hid (Blk (w.alloc (.cells #[.int .i64 p.leap, .int .i64 p.ver, .int .i64 p.mode, .int .i64 p.strat, .int .i64 p.poll, .int .i64 p.prec, .int .u32 (p.rd : Nat), .int .u32 (p.rs : Nat), .int .u32 (p.rid : Nat), .int .u64 (p.tref : Nat), .int .u64 (p.torg : Nat), .int .u64 (p.trec : Nat), .int .u64 (p.txm : Nat), .slice fa p.fs.length fc, .int .i64 p.auth, .int .u32 (p.key : Nat), .slice da p.dig.length dc] 30)) w.heap.size (pvs p (.slice fa p.fs.length fc) (.slice da p.dig.length dc))) := Lib.hid (Blk.new' w #[.int .i64 p.leap, .int .i64 p.ver, .int .i64 p.mode, .int .i64 p.strat, .int .i64 p.poll, .int .i64 p.prec, .int .u32 (p.rd : Nat), .int .u32 (p.rs : Nat), .int .u32 (p.rid : Nat), .int .u64 (p.tref : Nat), .int .u64 (p.torg : Nat), .int .u64 (p.trec : Nat), .int .u64 (p.txm : Nat), .slice fa p.fs.length fc, .int .i64 p.auth, .int .u32 (p.key : Nat), .slice da p.dig.length dc] 30)
  have hl : (pvs p (.slice fa p.fs.length fc) (.slice da p.dig.length dc)).length = 17 := rfl
  generalize (pvs p (.slice fa p.fs.length fc) (.slice da p.dig.length dc)) = ps at *
  go_enter Try.func3, Try.ntmps3
  go_wp2_with fail
  generalize w.alloc (.cells #[.int .i64 p.leap, .int .i64 p.ver, .int .i64 p.mode, .int .i64 p.strat, .int .i64 p.poll, .int .i64 p.prec, .int .u32 (p.rd : Nat), .int .u32 (p.rs : Nat), .int .u32 (p.rid : Nat), .int .u64 (p.tref : Nat), .int .u64 (p.torg : Nat), .int .u64 (p.trec : Nat), .int .u64 (p.txm : Nat), .slice fa p.fs.length fc, .int .i64 p.auth, .int .u32 (p.key : Nat), .slice da p.dig.length dc] 30) = w1 at *
  refine (AW w1).out.mono ?_
  rintro e w2 ⟨rfl, hb⟩
  have B2 := Lib.hid (bstep B1.out hb)
  have NP2 := Lib.hid (NP.out.below hb)
  clear B1 NP hb AW
  go_upto_region 3 with fail
  go_wp2_with (refine wpList_load_mid rfl 30 _ rfl _ 0 rfl ps _ NP2.out.range Try.underlying30 rfl (by rw [hl]; exact info_pk) ?_)
  refine (HE.out _ B2.out).mono ?_
  rintro e w3 ⟨⟨v1, rfl, o1⟩, hb⟩
  obtain ⟨a1, c1, rfl⟩ : ∃ a c, v1 = .slice a (enc p).length c := own_form o1
  have B3 := Lib.hid (bstep B2.out hb)
  have NP3 := Lib.hid (NP2.out.below hb)
  have O1 := Lib.hid ((own_out o1 BY.out).sb)
  clear HE B2 NP2 o1 hb
  go_upto_region 4 with fail
  go_wp2_with (refine wpList_load_mid rfl 30 _ rfl _ 0 rfl ps _ NP3.out.range Try.underlying30 rfl (by rw [hl]; exact info_pk) ?_)
  refine (HR.out _ B3.out).mono ?_
  rintro e w4 ⟨⟨v2, rfl, o2⟩, hb⟩
  obtain ⟨a2, c2, rfl⟩ : ∃ a c, v2 = .slice a (enc p).length c := own_form o2
  have B4 := Lib.hid (bstep B3.out hb)
  have NP := Lib.hid (NP3.out.below hb)
  have O2 := Lib.hid ((own_out o2 BY.out).sb)
  have O3 := Lib.hid (O1.out.below hb)
  clear HR B3 NP3 o2 hb O1 BY
  obtain ⟨SB, hS⟩ : ∃ S, bs8 (bl (fun i => (enc p).getD i 0) (enc p).length) = S := ⟨_, rfl⟩
  generalize (enc p).length = m at *
  have C1 : Hid (∀ z, Below w4.heap.size w4 z → (convert 28 9 (.slice a1 m c1)).run Try.prog z = .ok (.string SB) z) := Lib.hid fun z k => by rw [← hS]; exact O3.out.conv k
  have C2 : Hid (∀ z, Below w4.heap.size w4 z → (convert 28 9 (.slice a2 m c2)).run Try.prog z = .ok (.string SB) z) := Lib.hid fun z k => by rw [← hS]; exact O2.out.conv k
  have KP : Hid (∀ w', Below w4.heap.size w4 w' → (convert 28 9 (.slice a1 m c1)).run Try.prog w' = .ok (.string SB) w' ∧ (convert 28 9 (.slice a2 m c2)).run Try.prog w' = .ok (.string SB) w' ∧ w'.rangeAt w.heap.size 0 ps ∧ Below w4.heap.size w4 w') := Lib.hid fun w' k => ⟨C1.out w' k, C2.out w' k, (NP.out.below k).range, k⟩
  have KD := Lib.hid (KP.out _ ((brefl w4).drew))
  have KC := Lib.hid (fun w1 w2 (d : Below w4.heap.size w4 w1) (d2 : Below w1.heap.size w1 w2) => KP.out w2 (bstep d d2))
  have HK : Hid (∀ z, Below w4.heap.size w4 z → Calls Try.prog 11 #[.agg ps.toArray] z fun e w' => e = .returned (.int .i64 CH) ∧ Below z.heap.size z w') := Lib.hid fun z k => HCK.out z (bstep B4.out k)
  have HQ : Hid (∀ z, Below w4.heap.size w4 z → Calls Try.prog 12 #[.agg ps.toArray] z fun e w' => e = .returned (.int .i64 CH) ∧ Below z.heap.size z w') := Lib.hid fun z k => HCR.out z (bstep B4.out k)
  clear C1 C2 hS HCK HCR KP
  go_upto_region 5 with fail
  refine wp_region_noPanic ?_
  refine wp_region_held_drew (S := fun w' => (convert 28 9 (.slice a1 m c1)).run Try.prog w' = .ok (.string SB) w' ∧ (convert 28 9 (.slice a2 m c2)).run Try.prog w' = .ok (.string SB) w' ∧ w'.rangeAt w.heap.size 0 ps ∧ Below w4.heap.size w4 w') (by kernel_rfl) KD.out (fun hHeld => ?_)
  refine wpAnyH_take (i := 0) (v := ?_) rfl (by kernel_rfl) (by kernel_rfl) (by kernel_rfl) (fun _ _ _ h => h) (Or.inl ⟨by rfl, ?_⟩) hHeld ?_
  rotate_left
  · ((intro w hSw; (try dsimp only at hSw); go_simp); try with_reducible rfl)
  (try simp only [List.getElem_toArray, List.getElem_cons_succ, List.getElem_cons_zero, Act.put, List.setIfInBounds_toArray, List.set_cons_zero, List.set_cons_succ])
  refine wpAnyH_take (i := 1) (v := ?_) rfl (by kernel_rfl) (by kernel_rfl) (by kernel_rfl) (fun _ _ _ h => h) (Or.inl ⟨by rfl, ?_⟩) hHeld ?_
  rotate_left
  · ((intro w hSw; (try dsimp only at hSw); go_simp); try with_reducible rfl)
  (try simp only [List.getElem_toArray, List.getElem_cons_succ, List.getElem_cons_zero, Act.put, List.setIfInBounds_toArray, List.set_cons_zero, List.set_cons_succ])
  refine wpAnyH_take (i := 2) (v := ?_) rfl (by kernel_rfl) (by kernel_rfl) (by kernel_rfl) (fun _ _ _ h => h) (Or.inl ⟨by rfl, ?_⟩) hHeld ?_
  rotate_left
  · ((intro w hSw; (try dsimp only at hSw); go_simp); try with_reducible rfl)
  (try simp only [List.getElem_toArray, List.getElem_cons_succ, List.getElem_cons_zero, Act.put, List.setIfInBounds_toArray, List.set_cons_zero, List.set_cons_succ])
  refine wpAnyH_take (i := 3) (v := ?_) rfl (by kernel_rfl) (by kernel_rfl) (by kernel_rfl) (fun _ _ _ h => h) (Or.inl ⟨by rfl, ?_⟩) hHeld ?_
  rotate_left
  · ((intro w hSw; (try dsimp only at hSw); go_simp); try with_reducible rfl)
  (try simp only [List.getElem_toArray, List.getElem_cons_succ, List.getElem_cons_zero, Act.put, List.setIfInBounds_toArray, List.set_cons_zero, List.set_cons_succ])
  refine wpAnyH_take (i := 4) (v := ?_) rfl (by kernel_rfl) (by kernel_rfl) (by kernel_rfl) (fun _ _ _ h => h) (Or.inl ⟨by rfl, ?_⟩) hHeld ?_
  rotate_left
  · ((intro w hSw; (try dsimp only at hSw); go_simp); try with_reducible rfl)
  (try simp only [List.getElem_toArray, List.getElem_cons_succ, List.getElem_cons_zero, Act.put, List.setIfInBounds_toArray, List.set_cons_zero, List.set_cons_succ])
  refine wpAnyH_take (i := 5) (v := ?_) rfl (by kernel_rfl) (by kernel_rfl) (by kernel_rfl) (fun _ _ _ h => h) (Or.inl ⟨by rfl, ?_⟩) hHeld ?_
  rotate_left
  · ((intro w hSw; (try dsimp only at hSw); go_simp); try with_reducible rfl)
  (try simp only [List.getElem_toArray, List.getElem_cons_succ, List.getElem_cons_zero, Act.put, List.setIfInBounds_toArray, List.set_cons_zero, List.set_cons_succ])
  refine wpAnyH_take (i := 6) (v := ?_) rfl (by kernel_rfl) (by kernel_rfl) (by kernel_rfl) (fun _ _ _ h => h) (Or.inl ⟨by rfl, ?_⟩) hHeld ?_
  rotate_left
  · ((intro w hSw; (try dsimp only at hSw); go_simp); try with_reducible rfl)
  (try simp only [List.getElem_toArray, List.getElem_cons_succ, List.getElem_cons_zero, Act.put, List.setIfInBounds_toArray, List.set_cons_zero, List.set_cons_succ])
  refine wpAnyH_take (i := 7) (v := ?_) rfl (by kernel_rfl) (by kernel_rfl) (by kernel_rfl) (fun _ _ _ h => h) (Or.inl ⟨by rfl, ?_⟩) hHeld ?_
  rotate_left
  · ((intro w hSw; (try dsimp only at hSw); go_simp); try with_reducible rfl)
  (try simp only [List.getElem_toArray, List.getElem_cons_succ, List.getElem_cons_zero, Act.put, List.setIfInBounds_toArray, List.set_cons_zero, List.set_cons_succ])
  refine wpAnyH_take (i := 8) (v := ?_) rfl (by kernel_rfl) (by kernel_rfl) (by kernel_rfl) (fun _ _ _ h => h) (Or.inl ⟨by rfl, ?_⟩) hHeld ?_
  rotate_left
  · ((intro w hSw; (try dsimp only at hSw); go_simp); try with_reducible rfl)
  (try simp only [List.getElem_toArray, List.getElem_cons_succ, List.getElem_cons_zero, Act.put, List.setIfInBounds_toArray, List.set_cons_zero, List.set_cons_succ])
  refine wpAnyH_take (i := 9) (v := ?_) rfl (by kernel_rfl) (by kernel_rfl) (by kernel_rfl) (fun _ _ _ h => h) (Or.inl ⟨by rfl, ?_⟩) hHeld ?_
  rotate_left
  · ((intro w hSw; (try dsimp only at hSw); go_simp); try with_reducible rfl)
  (try simp only [List.getElem_toArray, List.getElem_cons_succ, List.getElem_cons_zero, Act.put, List.setIfInBounds_toArray, List.set_cons_zero, List.set_cons_succ])
  refine wpAnyH_take (i := 10) (v := ?_) rfl (by kernel_rfl) (by kernel_rfl) (by kernel_rfl) (fun _ _ _ h => h) (Or.inl ⟨by rfl, ?_⟩) hHeld ?_
  rotate_left
  · ((intro w hSw; (try dsimp only at hSw); go_simp); try with_reducible rfl)
  (try simp only [List.getElem_toArray, List.getElem_cons_succ, List.getElem_cons_zero, Act.put, List.setIfInBounds_toArray, List.set_cons_zero, List.set_cons_succ])
  refine wpAnyH_take (i := 11) rfl (by kernel_rfl) (by kernel_rfl) (by kernel_rfl) (fun _ _ _ h => h) (yieldsIf_load_mid (by rfl) _ _ rfl _ _ rfl ps _ (fun w h => h.2.2.1) Try.underlying30 rfl (by rw [hl]; exact info_pk)) hHeld ?_
  (try simp only [List.getElem_toArray, List.getElem_cons_succ, List.getElem_cons_zero, Act.put, List.setIfInBounds_toArray, List.set_cons_zero, List.set_cons_succ])
  refine wpAnyH_take (i := 13) rfl (by kernel_rfl) (by kernel_rfl) (by kernel_rfl) (fun _ _ _ h => h) (yieldsIf_load_mid (by rfl) _ _ rfl _ _ rfl ps _ (fun w h => h.2.2.1) Try.underlying30 rfl (by rw [hl]; exact info_pk)) hHeld ?_
  (try simp only [List.getElem_toArray, List.getElem_cons_succ, List.getElem_cons_zero, Act.put, List.setIfInBounds_toArray, List.set_cons_zero, List.set_cons_succ])
  refine wpAnyH_ready (rs := [12]) (by kernel_rfl) (by simp) (AllReadyH.cons rfl (fun KQ hKQ => ?_) AllReadyH.nil)
  go_simp
  refine (HK.out _ hHeld.2.2.2).mono ?_
  rintro e w' ⟨rfl, hb⟩
  replace hHeld := KC.out _ _ hHeld.2.2.2 hb
  clear hb
  go_wp2_with fail
  refine hKQ.out _ _ hHeld (fun hH2 => ?_)
  clear hKQ KQ hHeld
  have hHeld := hH2
  clear hH2
  (try simp only [List.getElem_toArray, List.getElem_cons_succ, List.getElem_cons_zero, Act.put, List.setIfInBounds_toArray, List.set_cons_zero, List.set_cons_succ])
  refine wpAnyH_ready (rs := [14]) (by kernel_rfl) (by simp) (AllReadyH.cons rfl (fun KQ hKQ => ?_) AllReadyH.nil)
  go_simp
  refine (HQ.out _ hHeld.2.2.2).mono ?_
  rintro e w' ⟨rfl, hb⟩
  replace hHeld := KC.out _ _ hHeld.2.2.2 hb
  clear hb
  go_wp2_with fail
  refine hKQ.out _ _ hHeld (fun hH2 => ?_)
  clear hKQ KQ hHeld
  have hHeld := hH2
  clear hH2
  (try simp only [List.getElem_toArray, List.getElem_cons_succ, List.getElem_cons_zero, Act.put, List.setIfInBounds_toArray, List.set_cons_zero, List.set_cons_succ])
  refine wpAnyH_take (i := 15) (v := ?_) rfl (by kernel_rfl) (by kernel_rfl) (by kernel_rfl) (fun _ _ _ h => h) (Or.inl ⟨by rfl, ?_⟩) hHeld ?_
  rotate_left
  · ((intro w hSw; (try dsimp only at hSw); go_simp); try with_reducible rfl)
  (try simp only [List.getElem_toArray, List.getElem_cons_succ, List.getElem_cons_zero, Act.put, List.setIfInBounds_toArray, List.set_cons_zero, List.set_cons_succ])
  refine wpAnyH_take (i := 16) (v := ?_) rfl (by kernel_rfl) (by kernel_rfl) (by kernel_rfl) (fun _ _ _ h => h) (Or.inl ⟨by rfl, ?_⟩) hHeld ?_
  rotate_left
  · ((intro w hSw; (try dsimp only at hSw); go_simp); try with_reducible rfl)
  (try simp only [List.getElem_toArray, List.getElem_cons_succ, List.getElem_cons_zero, Act.put, List.setIfInBounds_toArray, List.set_cons_zero, List.set_cons_succ])
  refine wpAnyH_take (i := 17) (v := ?_) rfl (by kernel_rfl) (by kernel_rfl) (by kernel_rfl) (fun _ _ _ h => h) (Or.inl ⟨by rfl, ?_⟩) hHeld ?_
  rotate_left
  · ((intro w hSw; (try dsimp only at hSw); go_simp); try with_reducible rfl)
  (try simp only [List.getElem_toArray, List.getElem_cons_succ, List.getElem_cons_zero, Act.put, List.setIfInBounds_toArray, List.set_cons_zero, List.set_cons_succ])
  refine wpAnyH_done (by kernel_rfl) ?_ _
  refine NoPanic.normal ?_
  go_wp2_with fail
  go_ret
  exact ⟨rfl, bstep B4.out hHeld.2.2.2⟩
set_option maxRecDepth 100000 in
set_option maxHeartbeats 16000000 in
theorem walk_no (p : Pk) (fv dv : Value) (V : Nat → Value) (w : World) (P : Pm w p fv dv V) (c : rt p = false) :
    Calls Try.prog 3 #[PV p fv dv] w fun e w' => e = .returned (.bool true) ∧ Below w.heap.size w w' := by
  have PM := Lib.hid P
  obtain ⟨fa, fc, rfl⟩ := P.1.form
  obtain ⟨da, dc, rfl⟩ := P.2.1.form
  clear P
  have HE : Hid (∀ z, Below w.heap.size w z → Calls Try.prog 9 #[.agg (pvs p (.slice fa p.fs.length fc) (.slice da p.dig.length dc)).toArray] z fun e w' => e = .returned (.tuple #[.slice none 0 0, .int .i64 3]) ∧ Below z.heap.size z w') := Lib.hid (fun z (k : Below w.heap.size w z) => Encode_no (PM.out.below k) c)
  have HR : Hid (∀ z, Below w.heap.size w z → Calls Try.prog 10 #[.agg (pvs p (.slice fa p.fs.length fc) (.slice da p.dig.length dc)).toArray] z fun e w' => e = .returned (.tuple #[.slice none 0 0, .int .i64 3]) ∧ Below z.heap.size z w') := Lib.hid (fun z (k : Below w.heap.size w z) => rEncode_no (PM.out.below k) c)
  have HCK : Hid (∀ z, Below w.heap.size w z → Calls Try.prog 11 #[.agg (pvs p (.slice fa p.fs.length fc) (.slice da p.dig.length dc)).toArray] z fun e w' => e = .returned (.int .i64 (chk p)) ∧ Below z.heap.size z w') := Lib.hid fun z k => Check_c (PM.out.below k)
  have HCR : Hid (∀ z, Below w.heap.size w z → Calls Try.prog 12 #[.agg (pvs p (.slice fa p.fs.length fc) (.slice da p.dig.length dc)).toArray] z fun e w' => e = .returned (.int .i64 (chk p)) ∧ Below z.heap.size z w') := Lib.hid fun z k => rCheck_c (PM.out.below k)
  clear c PM
  generalize chk p = CH at *
  have AW := fun z => Lib.hid (awake9_c z)
  have B1 := Lib.hid (balloc (brefl w) (.cells #[.int .i64 p.leap, .int .i64 p.ver, .int .i64 p.mode, .int .i64 p.strat, .int .i64 p.poll, .int .i64 p.prec, .int .u32 (p.rd : Nat), .int .u32 (p.rs : Nat), .int .u32 (p.rid : Nat), .int .u64 (p.tref : Nat), .int .u64 (p.torg : Nat), .int .u64 (p.trec : Nat), .int .u64 (p.txm : Nat), .slice fa p.fs.length fc, .int .i64 p.auth, .int .u32 (p.key : Nat), .slice da p.dig.length dc] 30))
  have NP : Hid (Blk (w.alloc (.cells #[.int .i64 p.leap, .int .i64 p.ver, .int .i64 p.mode, .int .i64 p.strat, .int .i64 p.poll, .int .i64 p.prec, .int .u32 (p.rd : Nat), .int .u32 (p.rs : Nat), .int .u32 (p.rid : Nat), .int .u64 (p.tref : Nat), .int .u64 (p.torg : Nat), .int .u64 (p.trec : Nat), .int .u64 (p.txm : Nat), .slice fa p.fs.length fc, .int .i64 p.auth, .int .u32 (p.key : Nat), .slice da p.dig.length dc] 30)) w.heap.size (pvs p (.slice fa p.fs.length fc) (.slice da p.dig.length dc))) := Lib.hid (Blk.new' w #[.int .i64 p.leap, .int .i64 p.ver, .int .i64 p.mode, .int .i64 p.strat, .int .i64 p.poll, .int .i64 p.prec, .int .u32 (p.rd : Nat), .int .u32 (p.rs : Nat), .int .u32 (p.rid : Nat), .int .u64 (p.tref : Nat), .int .u64 (p.torg : Nat), .int .u64 (p.trec : Nat), .int .u64 (p.txm : Nat), .slice fa p.fs.length fc, .int .i64 p.auth, .int .u32 (p.key : Nat), .slice da p.dig.length dc] 30)
  have hl : (pvs p (.slice fa p.fs.length fc) (.slice da p.dig.length dc)).length = 17 := rfl
  generalize (pvs p (.slice fa p.fs.length fc) (.slice da p.dig.length dc)) = ps at *
  go_enter Try.func3, Try.ntmps3
  go_wp2_with fail
  generalize w.alloc (.cells #[.int .i64 p.leap, .int .i64 p.ver, .int .i64 p.mode, .int .i64 p.strat, .int .i64 p.poll, .int .i64 p.prec, .int .u32 (p.rd : Nat), .int .u32 (p.rs : Nat), .int .u32 (p.rid : Nat), .int .u64 (p.tref : Nat), .int .u64 (p.torg : Nat), .int .u64 (p.trec : Nat), .int .u64 (p.txm : Nat), .slice fa p.fs.length fc, .int .i64 p.auth, .int .u32 (p.key : Nat), .slice da p.dig.length dc] 30) = w1 at *
  refine (AW w1).out.mono ?_
  rintro e w2 ⟨rfl, hb⟩
  have B2 := Lib.hid (bstep B1.out hb)
  have NP2 := Lib.hid (NP.out.below hb)
  clear B1 NP hb AW
  go_upto_region 3 with fail
  go_wp2_with (refine wpList_load_mid rfl 30 _ rfl _ 0 rfl ps _ NP2.out.range Try.underlying30 rfl (by rw [hl]; exact info_pk) ?_)
  refine (HE.out _ B2.out).mono ?_
  rintro e w3 ⟨rfl, hb⟩
  have B3 := Lib.hid (bstep B2.out hb)
  have NP3 := Lib.hid (NP2.out.below hb)
  clear HE B2 NP2 hb
  go_upto_region 4 with fail
  go_wp2_with (refine wpList_load_mid rfl 30 _ rfl _ 0 rfl ps _ NP3.out.range Try.underlying30 rfl (by rw [hl]; exact info_pk) ?_)
  refine (HR.out _ B3.out).mono ?_
  rintro e w4 ⟨rfl, hb⟩
  have B4 := Lib.hid (bstep B3.out hb)
  have NP := Lib.hid (NP3.out.below hb)
  clear HR B3 NP3 hb
  obtain ⟨SB, hS⟩ : ∃ S, bs8 [] = S := ⟨_, rfl⟩
  have C1 : Hid (∀ z, Below w4.heap.size w4 z → (convert 28 9 (.slice none 0 0)).run Try.prog z = .ok (.string SB) z) := Lib.hid fun z k => by rw [← hS]; exact conv_zero z none 0
  have C2 : Hid (∀ z, Below w4.heap.size w4 z → (convert 28 9 (.slice none 0 0)).run Try.prog z = .ok (.string SB) z) := Lib.hid fun z k => by rw [← hS]; exact conv_zero z none 0
  have KP : Hid (∀ w', Below w4.heap.size w4 w' → (convert 28 9 (.slice none 0 0)).run Try.prog w' = .ok (.string SB) w' ∧ (convert 28 9 (.slice none 0 0)).run Try.prog w' = .ok (.string SB) w' ∧ w'.rangeAt w.heap.size 0 ps ∧ Below w4.heap.size w4 w') := Lib.hid fun w' k => ⟨C1.out w' k, C2.out w' k, (NP.out.below k).range, k⟩
  have KD := Lib.hid (KP.out _ ((brefl w4).drew))
  have KC := Lib.hid (fun w1 w2 (d : Below w4.heap.size w4 w1) (d2 : Below w1.heap.size w1 w2) => KP.out w2 (bstep d d2))
  have HK : Hid (∀ z, Below w4.heap.size w4 z → Calls Try.prog 11 #[.agg ps.toArray] z fun e w' => e = .returned (.int .i64 CH) ∧ Below z.heap.size z w') := Lib.hid fun z k => HCK.out z (bstep B4.out k)
  have HQ : Hid (∀ z, Below w4.heap.size w4 z → Calls Try.prog 12 #[.agg ps.toArray] z fun e w' => e = .returned (.int .i64 CH) ∧ Below z.heap.size z w') := Lib.hid fun z k => HCR.out z (bstep B4.out k)
  clear C1 C2 hS HCK HCR KP
  go_upto_region 5 with fail
  refine wp_region_noPanic ?_
  refine wp_region_held_drew (S := fun w' => (convert 28 9 (.slice none 0 0)).run Try.prog w' = .ok (.string SB) w' ∧ (convert 28 9 (.slice none 0 0)).run Try.prog w' = .ok (.string SB) w' ∧ w'.rangeAt w.heap.size 0 ps ∧ Below w4.heap.size w4 w') (by kernel_rfl) KD.out (fun hHeld => ?_)
  refine wpAnyH_take (i := 0) (v := ?_) rfl (by kernel_rfl) (by kernel_rfl) (by kernel_rfl) (fun _ _ _ h => h) (Or.inl ⟨by rfl, ?_⟩) hHeld ?_
  rotate_left
  · ((intro w hSw; (try dsimp only at hSw); go_simp); try with_reducible rfl)
  (try simp only [List.getElem_toArray, List.getElem_cons_succ, List.getElem_cons_zero, Act.put, List.setIfInBounds_toArray, List.set_cons_zero, List.set_cons_succ])
  refine wpAnyH_take (i := 1) (v := ?_) rfl (by kernel_rfl) (by kernel_rfl) (by kernel_rfl) (fun _ _ _ h => h) (Or.inl ⟨by rfl, ?_⟩) hHeld ?_
  rotate_left
  · ((intro w hSw; (try dsimp only at hSw); go_simp); try with_reducible rfl)
  (try simp only [List.getElem_toArray, List.getElem_cons_succ, List.getElem_cons_zero, Act.put, List.setIfInBounds_toArray, List.set_cons_zero, List.set_cons_succ])
  refine wpAnyH_take (i := 2) (v := ?_) rfl (by kernel_rfl) (by kernel_rfl) (by kernel_rfl) (fun _ _ _ h => h) (Or.inl ⟨by rfl, ?_⟩) hHeld ?_
  rotate_left
  · ((intro w hSw; (try dsimp only at hSw); go_simp); try with_reducible rfl)
  (try simp only [List.getElem_toArray, List.getElem_cons_succ, List.getElem_cons_zero, Act.put, List.setIfInBounds_toArray, List.set_cons_zero, List.set_cons_succ])
  refine wpAnyH_take (i := 3) (v := ?_) rfl (by kernel_rfl) (by kernel_rfl) (by kernel_rfl) (fun _ _ _ h => h) (Or.inl ⟨by rfl, ?_⟩) hHeld ?_
  rotate_left
  · ((intro w hSw; (try dsimp only at hSw); go_simp); try with_reducible rfl)
  (try simp only [List.getElem_toArray, List.getElem_cons_succ, List.getElem_cons_zero, Act.put, List.setIfInBounds_toArray, List.set_cons_zero, List.set_cons_succ])
  refine wpAnyH_take (i := 4) (v := ?_) rfl (by kernel_rfl) (by kernel_rfl) (by kernel_rfl) (fun _ _ _ h => h) (Or.inl ⟨by rfl, ?_⟩) hHeld ?_
  rotate_left
  · ((intro w hSw; (try dsimp only at hSw); go_simp); try with_reducible rfl)
  (try simp only [List.getElem_toArray, List.getElem_cons_succ, List.getElem_cons_zero, Act.put, List.setIfInBounds_toArray, List.set_cons_zero, List.set_cons_succ])
  refine wpAnyH_take (i := 5) (v := ?_) rfl (by kernel_rfl) (by kernel_rfl) (by kernel_rfl) (fun _ _ _ h => h) (Or.inl ⟨by rfl, ?_⟩) hHeld ?_
  rotate_left
  · ((intro w hSw; (try dsimp only at hSw); go_simp); try with_reducible rfl)
  (try simp only [List.getElem_toArray, List.getElem_cons_succ, List.getElem_cons_zero, Act.put, List.setIfInBounds_toArray, List.set_cons_zero, List.set_cons_succ])
  refine wpAnyH_take (i := 6) (v := ?_) rfl (by kernel_rfl) (by kernel_rfl) (by kernel_rfl) (fun _ _ _ h => h) (Or.inl ⟨by rfl, ?_⟩) hHeld ?_
  rotate_left
  · ((intro w hSw; (try dsimp only at hSw); go_simp); try with_reducible rfl)
  (try simp only [List.getElem_toArray, List.getElem_cons_succ, List.getElem_cons_zero, Act.put, List.setIfInBounds_toArray, List.set_cons_zero, List.set_cons_succ])
  refine wpAnyH_take (i := 7) (v := ?_) rfl (by kernel_rfl) (by kernel_rfl) (by kernel_rfl) (fun _ _ _ h => h) (Or.inl ⟨by rfl, ?_⟩) hHeld ?_
  rotate_left
  · ((intro w hSw; (try dsimp only at hSw); go_simp); try with_reducible rfl)
  (try simp only [List.getElem_toArray, List.getElem_cons_succ, List.getElem_cons_zero, Act.put, List.setIfInBounds_toArray, List.set_cons_zero, List.set_cons_succ])
  refine wpAnyH_take (i := 8) (v := ?_) rfl (by kernel_rfl) (by kernel_rfl) (by kernel_rfl) (fun _ _ _ h => h) (Or.inl ⟨by rfl, ?_⟩) hHeld ?_
  rotate_left
  · ((intro w hSw; (try dsimp only at hSw); go_simp); try with_reducible rfl)
  (try simp only [List.getElem_toArray, List.getElem_cons_succ, List.getElem_cons_zero, Act.put, List.setIfInBounds_toArray, List.set_cons_zero, List.set_cons_succ])
  refine wpAnyH_take (i := 9) (v := ?_) rfl (by kernel_rfl) (by kernel_rfl) (by kernel_rfl) (fun _ _ _ h => h) (Or.inl ⟨by rfl, ?_⟩) hHeld ?_
  rotate_left
  · ((intro w hSw; (try dsimp only at hSw); go_simp); try with_reducible rfl)
  (try simp only [List.getElem_toArray, List.getElem_cons_succ, List.getElem_cons_zero, Act.put, List.setIfInBounds_toArray, List.set_cons_zero, List.set_cons_succ])
  refine wpAnyH_take (i := 10) (v := ?_) rfl (by kernel_rfl) (by kernel_rfl) (by kernel_rfl) (fun _ _ _ h => h) (Or.inl ⟨by rfl, ?_⟩) hHeld ?_
  rotate_left
  · ((intro w hSw; (try dsimp only at hSw); go_simp); try with_reducible rfl)
  (try simp only [List.getElem_toArray, List.getElem_cons_succ, List.getElem_cons_zero, Act.put, List.setIfInBounds_toArray, List.set_cons_zero, List.set_cons_succ])
  refine wpAnyH_take (i := 11) rfl (by kernel_rfl) (by kernel_rfl) (by kernel_rfl) (fun _ _ _ h => h) (yieldsIf_load_mid (by rfl) _ _ rfl _ _ rfl ps _ (fun w h => h.2.2.1) Try.underlying30 rfl (by rw [hl]; exact info_pk)) hHeld ?_
  (try simp only [List.getElem_toArray, List.getElem_cons_succ, List.getElem_cons_zero, Act.put, List.setIfInBounds_toArray, List.set_cons_zero, List.set_cons_succ])
  refine wpAnyH_take (i := 13) rfl (by kernel_rfl) (by kernel_rfl) (by kernel_rfl) (fun _ _ _ h => h) (yieldsIf_load_mid (by rfl) _ _ rfl _ _ rfl ps _ (fun w h => h.2.2.1) Try.underlying30 rfl (by rw [hl]; exact info_pk)) hHeld ?_
  (try simp only [List.getElem_toArray, List.getElem_cons_succ, List.getElem_cons_zero, Act.put, List.setIfInBounds_toArray, List.set_cons_zero, List.set_cons_succ])
  refine wpAnyH_ready (rs := [12]) (by kernel_rfl) (by simp) (AllReadyH.cons rfl (fun KQ hKQ => ?_) AllReadyH.nil)
  go_simp
  refine (HK.out _ hHeld.2.2.2).mono ?_
  rintro e w' ⟨rfl, hb⟩
  replace hHeld := KC.out _ _ hHeld.2.2.2 hb
  clear hb
  go_wp2_with fail
  refine hKQ.out _ _ hHeld (fun hH2 => ?_)
  clear hKQ KQ hHeld
  have hHeld := hH2
  clear hH2
  (try simp only [List.getElem_toArray, List.getElem_cons_succ, List.getElem_cons_zero, Act.put, List.setIfInBounds_toArray, List.set_cons_zero, List.set_cons_succ])
  refine wpAnyH_ready (rs := [14]) (by kernel_rfl) (by simp) (AllReadyH.cons rfl (fun KQ hKQ => ?_) AllReadyH.nil)
  go_simp
  refine (HQ.out _ hHeld.2.2.2).mono ?_
  rintro e w' ⟨rfl, hb⟩
  replace hHeld := KC.out _ _ hHeld.2.2.2 hb
  clear hb
  go_wp2_with fail
  refine hKQ.out _ _ hHeld (fun hH2 => ?_)
  clear hKQ KQ hHeld
  have hHeld := hH2
  clear hH2
  (try simp only [List.getElem_toArray, List.getElem_cons_succ, List.getElem_cons_zero, Act.put, List.setIfInBounds_toArray, List.set_cons_zero, List.set_cons_succ])
  refine wpAnyH_take (i := 15) (v := ?_) rfl (by kernel_rfl) (by kernel_rfl) (by kernel_rfl) (fun _ _ _ h => h) (Or.inl ⟨by rfl, ?_⟩) hHeld ?_
  rotate_left
  · ((intro w hSw; (try dsimp only at hSw); go_simp); try with_reducible rfl)
  (try simp only [List.getElem_toArray, List.getElem_cons_succ, List.getElem_cons_zero, Act.put, List.setIfInBounds_toArray, List.set_cons_zero, List.set_cons_succ])
  refine wpAnyH_take (i := 16) (v := ?_) rfl (by kernel_rfl) (by kernel_rfl) (by kernel_rfl) (fun _ _ _ h => h) (Or.inl ⟨by rfl, ?_⟩) hHeld ?_
  rotate_left
  · ((intro w hSw; (try dsimp only at hSw); go_simp); try with_reducible rfl)
  (try simp only [List.getElem_toArray, List.getElem_cons_succ, List.getElem_cons_zero, Act.put, List.setIfInBounds_toArray, List.set_cons_zero, List.set_cons_succ])
  refine wpAnyH_take (i := 17) (v := ?_) rfl (by kernel_rfl) (by kernel_rfl) (by kernel_rfl) (fun _ _ _ h => h) (Or.inl ⟨by rfl, ?_⟩) hHeld ?_
  rotate_left
  · ((intro w hSw; (try dsimp only at hSw); go_simp); try with_reducible rfl)
  (try simp only [List.getElem_toArray, List.getElem_cons_succ, List.getElem_cons_zero, Act.put, List.setIfInBounds_toArray, List.set_cons_zero, List.set_cons_succ])
  refine wpAnyH_done (by kernel_rfl) ?_ _
  refine NoPanic.normal ?_
  go_wp2_with fail
  go_ret
  exact ⟨rfl, bstep B4.out hHeld.2.2.2⟩
theorem walk (p : Pk) (fv dv : Value) (V : Nat → Value) (w : World) (P : Pm w p fv dv V) :
    Calls Try.prog 3 #[PV p fv dv] w fun e w' => e = .returned (.bool true) ∧ Below w.heap.size w w' := by
  cases c : rt p with
  | true => exact walk_yes p fv dv V w P c
  | false => exact walk_no p fv dv V w P c
set_option maxRecDepth 100000 in
theorem lifted (os : Os) (started : os.Started) (H : Type) (enc : TypeId × Value → H) :
    ReturnsInHanded {} Try.checked os 3 .any (Rows.wireEncodesSpec.pre6 enc Try.prog Try.f3 Rows.wireEncodesRow.domain false) (Rows.wireEncodesSpec.post enc Try.prog Try.f3 false true false false) := by
  refine returnsInHanded_of_change_sized (C := Try.checked) own started (by kernel_rfl) Try.func3
    (ChangeSpec.witness6 (enc := enc) (C := Try.checked) false ⟨#[], #[.agg #[.int .i64 0, .int .i64 0, .int .i64 0, .int .i64 0, .int .i64 0, .int .i64 0, .int .u32 0, .int .u32 0, .int .u32 0, .int .u64 0, .int .u64 0, .int .u64 0, .int .u64 0, .slice none 0 0, .int .i64 0, .int .u32 0, .slice none 0 0]], []⟩ 8 (by kernel_rfl) (by kernel_rfl) (by kernel_rfl) (by kernel_rfl)) ?_
  intro W base args ds gs before hval0 hW hcnd hsz0 _
  have hsz : (DataW.weightsEach Try.prog (Try.f3.params.toList ++ Rows.wireEncodesSpec.plain.varTypes Try.prog) (ds ++ gs)).all (· ≤ reachBytes) = true := hsz0
  have hval : ∀ (j : Nat) t v, Try.f3.params[j]? = some t → args[j]? = some v → Value.okWide Try.prog W .any base t v := hval0
  have hW' := hW
  obtain ⟨p, q, hA0, hV, rfl, hfz, hnd⟩ := hW
  have hA : DataW.TrodAll enc Try.prog W 0 (fun _ => true) true Try.f3.params.toList args.toList ds p := hA0
  rw [Try.params3] at hA hval hsz
  obtain ⟨v0, vs0, d0, ds0, p0, q0, hargs, rfl, rfl, h0, r0⟩ := trodAll_cons hA
  obtain ⟨rfl, rfl, rfl⟩ := trodAll_nil r0
  obtain rfl : args = #[v0] := by cases args; simp_all
  obtain ⟨rfl, rfl⟩ := trodVars_none hV
  have h0k := h0
  have hlt0 : ∀ x ∈ p0, x.block < W.heap.size := fun x hx => by have := hW'.lt x (by simp [hx]); simpa using this
  have hb0 : ∀ y ∈ DataW.weights Try.prog 30 d0, y ≤ reachBytes := fun y hy => by
    have := List.all_eq_true.1 hsz y (DataW.weights_mem_each (j := 0) rfl rfl y hy)
    simpa using this
  obtain ⟨pk0, fv0, dv0, V0, rfl, g0⟩ := open_pk (hval 0 30 v0 rfl rfl) h0 hb0
  clear hA0 hval0
  simp only [List.append_nil] at hW'
  refine (walk pk0 fv0 dv0 V0 W g0).mono fun e W' ⟨he, hg⟩ => ?_
  subst he
  exact ⟨_, rfl, _, _, _, [], _, [], hW', trodAll_cons_mk (shut_bool Try.underlying4 _) trodAll_mk0,
    (trodAll_cons_mk (Below.trod laidOut (by kernel_rfl) (of_decide_eq_true (by kernel_rfl)) h0k hg hlt0) trodAll_mk0), rfl, hg.frame _, fun h => nomatch h⟩

theorem over : Rows.wireEncodesRow.holds Try.pinned (OpenSpec.ofChange Rows.wireEncodesSpec) :=
  OpenClaim.holds_of_wide 3 Try.f3 rfl rfl rfl rfl rfl rfl rfl ⟨rfl, rfl, rfl, rfl, rfl⟩ rfl rfl rfl rfl rfl (by kernel_rfl) Try.func3 (by kernel_rfl)
    (of_decide_eq_true (by kernel_rfl)) (by unfold Func.isWrapper; first | (rw [if_pos (by decide +kernel)]; kernel_rfl) | (rw [if_neg (by decide +kernel)]; exact ⟨rfl, rfl⟩))
    (fun os started H enc _ => lifted os started H enc)

theorem proved : Rows.WireEncodesSaid :=
  over
end Go.Proofs.Ytmjbnbjkpimjmaa.wireEncodes
