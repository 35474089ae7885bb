/-
  The document's New of a guard.
  Conditions: none.
-/
import Derived.Test.YtdngoopogajhiaaGuA
namespace Go.Proofs.Ytdngoopogajhiaa.Gu
open Go.RowKit Go.ChangeShapes Go.WideShapes Go.ChangeAt Go.Joins Fl
set_option linter.unusedVariables false
set_option linter.unusedSimpArgs false

theorem info_rule : (Try.prog.info? 62).map (fun i => (i.zero, i.size, i.bytes)) = some (some (.agg (rvs ⟨0, 0, 0⟩).toArray), 3, 16) := by kernel_rfl
theorem okS_len {R : List Ru} (h : 64 < R.length) : ¬ okS R := fun z => by
  have := z.2
  omega
theorem okS_no {R : List Ru} {k : Nat} {x : Ru} (h : R[k]? = some x) (q : ¬ okR x) : ¬ okS R := fun z => q (z.1 x (List.mem_of_getElem? h))
theorem okS_yes {R : List Ru} (hl : R.length ≤ 64) (h : ∀ j x, j < R.length → R[j]? = some x → okR x) : okS R := ⟨fun x hx => by
  obtain ⟨j, hj⟩ := List.mem_iff_getElem?.1 hx
  exact h j x (List.getElem?_eq_some_iff.1 hj).1 hj, hl⟩
/-- what the document's New answers. -/
def NwP (w : World) (R : List Ru) (e : Ending) (w' : World) : Prop :=
  (okS R ∧ ∃ b Z, e = .returned (.tuple #[.pointer (some ⟨b, 0, none⟩), .int .i64 0]) ∧ w.heap.size ≤ b ∧ DG w' b Z (newG R) ∧ ∀ i, Z i → w.heap.size ≤ i) ∨ (¬ okS R ∧ e = .returned (.tuple #[.pointer none, .int .i64 3]))
set_option maxRecDepth 100000 in
set_option maxHeartbeats 16000000 in
theorem rNew_c {w : World} {v : Value} {R : List Ru} (h : Gn.Ss rvs 3 w v R) : Calls Try.prog 10 #[v] w fun e w' => NwP w R e w' ∧ Below w.heap.size w w' := by
  have HS := Lib.hid h
  obtain ⟨ra, rc, rfl, c1, c2, _⟩ := h
  obtain ⟨m, hm⟩ : ∃ m, R.length = m := ⟨_, rfl⟩
  have HM := Lib.hid hm
  rw [hm] at HS c1 ⊢
  have m0 : (0 : Int) ≤ (m : Int) := by omega
  have m2 : (m : Int) ≤ (rc : Int) := by omega
  have m3 : (rc : Int) ≤ 9223372036854775807 := by omega
  clear hm
  by_cases c0 : 64 < m
  · have e0 : decide (64 < (m : Int)) = true := decide_eq_true (by omega)
    have e0' : decide (64 < m) = true := decide_eq_true c0
    have NO : Hid (¬ okS R) := Lib.hid (okS_len (by rw [HM.out]; exact c0))
    go_enter Try.func10, Try.ntmps10
    go_wp2_with fail
    go_ret2
    exact ⟨.inr ⟨NO.out, rfl⟩, brefl w⟩
  · have e0 : decide (64 < (m : Int)) = false := decide_eq_false (by omega)
    have e0' : decide (64 < m) = false := decide_eq_false c0
    go_enter Try.func10, Try.ntmps10
    go_wp2_with fail
    go_loopw [4] (fun iv wr => ∃ k : Nat, k ≤ m ∧ iv = .int .i64 (k : Nat) ∧ (∀ j x, j < k → R[j]? = some x → okR x) ∧ Below w.heap.size w wr) (fun iv _ => m - (intOf iv).toNat)
    case atStart => exact ⟨0, by omega, rfl, fun j x hj => absurd hj (by omega), brefl w⟩
    case round =>
      obtain ⟨k, hk, rfl, hat, hb⟩ := hrel
      rename World => wr
      have BR := Lib.hid hb
      have AT := Lib.hid hat
      clear hb hat
      by_cases c : k < m
      · have e1 : decide ((k : Int) < (m : Int)) = true := decide_eq_true (by omega)
        have e2 : decide (k < m) = true := decide_eq_true c
        have k1 : (k : Int) < (m : Int) := by omega
        have k0 : (0 : Int) ≤ (k : Int) := by omega
        have wk : IntKind.i64.wrap ((k : Int) + 1) = (k : Int) + 1 := wrap_in (by omega) (by omega)
        obtain ⟨x, hx⟩ : ∃ x, R[k]? = some x := ⟨_, List.getElem?_eq_getElem (by rw [HM.out]; exact c)⟩
        have HX := Lib.hid hx
        obtain ⟨bb, off, rfl, _, hR⟩ := (HS.out.below BR.out).at hx
        have y0 := hR 0 _ rfl
        have y1 := hR 1 _ rfl
        have y2 := hR 2 _ rfl
        rw [Nat.add_zero] at y0
        have YES : Hid (okR x → ∀ j y, j < k + 1 → R[j]? = some y → okR y) := Lib.hid (fun q j y hj hy => by
          rcases Nat.lt_succ_iff_lt_or_eq.1 hj with z | rfl
          · exact AT.out j y z hy
          · rw [hx] at hy
            cases hy
            exact q)
        have NOO : Hid (¬ okR x → ¬ okS R) := Lib.hid (fun q => okS_no hx q)
        clear hx hR
        obtain ⟨xa, xm, xf⟩ := x
        simp only at y0 y1 y2
        unfold okR at YES NOO
        simp only at YES NOO
        have NA := Lib.hid (Blk.new' wr #[.int .u32 xa, .int .u32 xm, .int .i64 xf] 62)
        have BA := Lib.hid (balloc BR.out (.cells #[.int .u32 xa, .int .u32 xm, .int .i64 xf] 62))
        go_upto_region 7 with fail
        generalize wr.alloc (.cells #[.int .u32 xa, .int .u32 xm, .int .i64 xf] 62) = wa at *
        have x0 := (NA.out.2 0 _ rfl).1
        have x1 := (NA.out.2 1 _ rfl).1
        have x2 := (NA.out.2 2 _ rfl).1
        clear y0 y1 y2
        by_cases f : an xa xm = xa
        · have f1 : (bits BinOp.and IntKind.u32 xa xm == xa) = true := by simpa [an] using f
          have f2 : (bits BinOp.and IntKind.u32 xa xm != xa) = false := by simpa [an] using f
          by_cases g : xf < 0
          · have g1 := decide_eq_true g
            have NO := Lib.hid (NOO.out (fun z => by omega))
            clear NOO YES
            go_wp2_with fail
            go_ret2
            exact ⟨.inr ⟨NO.out, rfl⟩, BA.out⟩
          · have g1 := decide_eq_false g
            by_cases g3 : 127 < xf
            · have g2 := decide_eq_true g3
              have NO := Lib.hid (NOO.out (fun z => by omega))
              clear NOO YES
              go_wp2_with fail
              go_ret2
              exact ⟨.inr ⟨NO.out, rfl⟩, BA.out⟩
            · have g2 := decide_eq_false g3
              have NX := Lib.hid (YES.out ⟨f, by omega, by omega⟩)
              clear NOO YES f
              go_wp2_with fail
              exact ⟨⟨k + 1, by omega, by go_num, NX.out, BA.out⟩, by simp [intOf]; omega⟩
        · have f1 : (bits BinOp.and IntKind.u32 xa xm == xa) = false := by simpa [an] using f
          have f2 : (bits BinOp.and IntKind.u32 xa xm != xa) = true := by simpa [an] using f
          have NO := Lib.hid (NOO.out (fun z => f z.1))
          clear NOO YES
          go_wp2_with fail
          go_ret2
          exact ⟨.inr ⟨NO.out, rfl⟩, BA.out⟩
      · have e1 : decide ((k : Int) < (m : Int)) = false := decide_eq_false (by omega)
        have e2 : decide (k < m) = false := decide_eq_false c
        obtain rfl : k = m := by omega
        have OK := Lib.hid (okS_yes (by rw [HM.out]; omega) (fun j x hj hx => AT.out j x (by rw [← HM.out]; exact hj) hx))
        obtain ⟨v', w2, r2, o2, b2⟩ := Gn.appN okr Try.underlying22 info_rule rfl (HS.out.below BR.out) (by rw [HM.out]; omega) (by rw [HM.out]; unfold maxLen; omega) 22
        obtain ⟨pa, pc, ev⟩ := o2.form
        rw [HM.out] at ev
        subst ev
        have R2 := Lib.hid r2
        have O2 := Lib.hid o2
        have B2 := Lib.hid (bstep BR.out b2)
        have BB := Lib.hid (balloc B2.out (.cells #[.slice pa k pc, .slice none 0 0, .int .i64 0] 53))
        have NB := Lib.hid (Blk.new' w2 #[.slice pa k pc, .slice none 0 0, .int .i64 0] 53)
        have OB := Lib.hid (o2.below (balloc (brefl w2) (.cells #[.slice pa k pc, .slice none 0 0, .int .i64 0] 53)))
        have SZ := Lib.hid BR.out.size
        clear r2 o2 b2
        go_wp2_with (at_builtin; refine wpList_append_eqL rfl _ _ 22 rfl _ _ (.slice pa k pc) w2 rfl rfl R2.out ?_)
        go_ret2
        refine ⟨.inl ⟨OK.out, w2.heap.size, fun i => i = w2.heap.size ∨ (Value.slice pa k pc).ownBlock = some i, rfl, B2.out.size, ⟨.slice pa k pc, .slice none 0 0, NB.out, .inl rfl, OB.out.ss okr, Gn.Ss.nil _, fun g hg => ⟨.inr hg, fun e => by have := (O2.out.block g hg).2; omega⟩, fun g hg => (by cases hg), fun i hi => ?_⟩, fun i hi => ?_⟩, BB.out⟩
        · rcases hi with rfl | hi
          · exact NB.out.1
          · exact (OB.out.block i hi).2
        · rcases hi with rfl | hi
          · exact B2.out.size
          · exact Nat.le_trans SZ.out (O2.out.block i hi).1
end Go.Proofs.Ytdngoopogajhiaa.Gu
