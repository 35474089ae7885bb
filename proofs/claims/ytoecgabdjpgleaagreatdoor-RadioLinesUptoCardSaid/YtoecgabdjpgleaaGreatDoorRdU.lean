/-
  The document's fields of a body: sundialref13.fields.
  Conditions: the body has no more than 2^20 bytes.
-/
import Derived.Test.YtoecgabdjpgleaaGreatDoorRdQ
import Derived.Test.YtoecgabdjpgleaaGreatDoorTsA
namespace Go.Proofs.YtoecgabdjpgleaaGreatDoor.Rd
open Go.RowKit Cv
set_option linter.unusedVariables false
set_option linter.unusedSimpArgs false

def cs (l : List ByteArray) : List Value := l.map Value.string
theorem cs_app (l k : List ByteArray) : cs (l ++ k) = cs l ++ cs k := by simp [cs]
/-- v is a row of the call's own that holds these strings. -/
def OwnB (w : World) (base : Nat) (v : Value) (l : List ByteArray) : Prop := w.ownsRow base 9 1 v l.length (cs l)
theorem OwnB.nil (w : World) (base : Nat) : OwnB w base (.slice none 0 0) [] := World.ownsRow_nil w base _ 1
theorem OwnB.block {w : World} {base : Nat} {v : Value} {l : List ByteArray} (h : OwnB w base v l) : ∀ k, v.ownBlock = some k → base ≤ k := by
  intro k hk
  rcases h.2 with ⟨rfl, _⟩ | ⟨g, cap, cur, rfl, hb, _⟩
  · simp [Value.ownBlock] at hk
  · simp [Value.ownBlock] at hk
    omega
theorem OwnB.st {w : World} {base : Nat} {v : Value} {L : List ByteArray} (h : OwnB w base v L) (hn : 0 < L.length) : St w v L := by
  obtain ⟨h1, h2⟩ := h
  rcases h2 with ⟨rfl, h0⟩ | ⟨g, cap, cur, rfl, hb, hh, hc, hm, hs, ht⟩
  · omega
  · refine ⟨g, cap, rfl, hc, by unfold maxLen at hm; omega, (Array.getElem?_eq_some_iff.1 hh).1, fun j x hj => ?_⟩
    have hl : j < L.length := (List.getElem?_eq_some_iff.1 hj).1
    have : (cs L)[j]? = some (.string x) := by simp [cs, hj]
    rw [← ht, List.getElem?_take_of_lt (by omega)] at this
    simp only [Array.getElem?_toList] at this
    simp [World.cell?, hh, this]
/-- one string more. -/
theorem appB {w : World} {base : Nat} {v : Value} {l : List ByteArray} (h : OwnB w base v l) (x : ByteArray) (hb : base ≤ w.heap.size) (hn : (l.length + 1) * 16 ≤ 140737488355328) (ty : TypeId) :
    ∃ v' w', (Builtin.append_ #[41, 41] ty #[v, .slice (some ⟨w.heap.size, 0, none⟩) 1 1]).run Tryz.prog (w.alloc (.cells #[.string x] 9)) = .ok v' w' ∧ OwnB w' base v' (l ++ [x]) ∧ Below base w w' := by
  obtain ⟨i, hi, hz, hs, hby⟩ := Lp.info_parts3L info_str
  obtain ⟨v', w', hr, ho, hg, _, hob⟩ := run_append_own_at (P := Tryz.prog) (w.alloc (.cells #[.string x] 9)) base 41 ty 9 i (.string ⟨#[]⟩) 1 16 Tryz.underlying41 hi hz hs hby rfl (by decide) v l.length (cs l) (World.ownsRow.alloc h _) ⟨w.heap.size, 0, none⟩ 1 1 (cs [x]) rfl
    (by intro j u hj; cases j with | zero => (simp [cs] at hj; subst hj; simp [Addr.add, go_sem]) | succ j => simp [cs] at hj) (fun u hu => by simp [cs] at hu; subst hu; rfl) (by unfold maxLen; omega) (by omega) (by simp; omega)
  have hB : Below base w (w.alloc (.cells #[.string x] 9)) := (Below.refl base w).alloc hb _
  have hB2 := hB.grown hg (by simp; omega) h.block
  refine ⟨v', w', hr, ?_, hB2⟩
  unfold OwnB
  rw [cs_app, List.length_append]
  exact ho
def rowB (s : ByteArray) (c : Nat) : List ByteArray := (List.range c).map (fd s)
theorem rowB_len (s : ByteArray) (c : Nat) : (rowB s c).length = c := by simp [rowB]
theorem rowB_succ (s : ByteArray) (c : Nat) : rowB s (c + 1) = rowB s c ++ [fd s c] := by simp [rowB, List.range_succ]
/-- all the fields. -/
structure SpF (s : ByteArray) (R : List ByteArray) : Prop where
  pos : 1 ≤ R.length
  len : R.length ≤ s.size + 1
  ten : 10 ≤ R.length ↔ fs s 9 ≤ s.size
  at_ : ∀ j, j < R.length → R[j]? = some (fd s j)
theorem spF {s : ByteArray} {c : Nat} (h : fs s c = s.size + 1) : SpF s (rowB s c) where
  pos := by
    rw [rowB_len]
    cases c with
    | zero => have : fs s 0 = 0 := rfl; omega
    | succ c => omega
  len := by rw [rowB_len]; have := fs_ge s c; omega
  ten := by
    rw [rowB_len]
    constructor
    · intro q
      have := fs_le (s := s) (i := 9) (j := c) (by omega)
      omega
    · intro q
      rcases Nat.lt_or_ge c 10 with k | k
      · have := fs_le (s := s) (i := c) (j := 9) (by omega)
        omega
      · exact k
  at_ j hj := by
    rw [rowB_len] at hj
    unfold rowB
    rw [List.getElem?_map, List.getElem?_range hj]
    rfl
/-- a comma, or the end, is where the next field ends. -/
theorem nx_is {s : ByteArray} {p i : Nat} (h : p ≤ i) (hi : i ≤ s.size) (hc : i = s.size ∨ Wd.gn s i = 44) (hn : ∀ j, p ≤ j → j < i → Wd.gn s j ≠ 44) : nx s p = i := by
  rcases nx_spec s p (by omega) with ⟨_, e, k⟩ | ⟨_, e1, e2, e3, k⟩
  · rcases hc with hc | hc
    · omega
    · rcases Nat.lt_or_ge i s.size with q | q
      · exact absurd hc (k i h q)
      · omega
  · rcases Nat.lt_trichotomy (nx s p) i with q | q | q
    · exact absurd e3 (hn _ e1 q)
    · exact q
    · rcases hc with hc | hc
      · omega
      · exact absurd hc (k i h q)
set_option maxRecDepth 100000 in
set_option maxHeartbeats 4000000 in
theorem rfields_c (s : ByteArray) (w : World) (hs : s.size ≤ 1048576) :
    Calls Tryz.prog 22 #[.string s] w fun e w' => (∃ v R, e = .returned v ∧ St w' v R ∧ SpF s R) ∧ Below w.heap.size w w' := by
  go_enter Tryz.func22, Tryz.ntmps22
  go_wp2_with fail
  go_loopw [3, 4, 5] (fun ov fv iv wr => ∃ c i : Nat, i ≤ s.size + 1 ∧ iv = .int .i64 i ∧ fv = .int .i64 (fs s c : Nat) ∧ fs s c ≤ i ∧ (∀ j, fs s c ≤ j → j < i → j < s.size ∧ Wd.gn s j ≠ 44) ∧ OwnB wr w.heap.size ov (rowB s c) ∧ Below w.heap.size w wr) (fun _ _ iv _ => s.size + 1 - (intOf iv).toNat)
  case atStart => exact ⟨0, 0, Nat.zero_le _, rfl, rfl, Nat.zero_le _, fun j _ hj => absurd hj (Nat.not_lt_zero _), OwnB.nil _ _, brefl w⟩
  case round =>
    obtain ⟨c, i, hi, rfl, rfl, hf, hno, ho, hb⟩ := hrel
    rename World => wr
    have OW := Lib.hid ho
    have BR := Lib.hid hb
    have NO := Lib.hid hno
    clear ho hb hno
    by_cases q : i ≤ s.size
    · have e0 : decide ((i : Int) ≤ (s.size : Int)) = true := decide_eq_true (by omega)
      by_cases q2 : i = s.size ∨ Wd.gn s i = 44
      · have EX : Hid (s.extract (fs s c) i = fd s c) := Lib.hid (by rw [fd, nx_is hf q q2 (fun j a b => (NO.out j a b).2)])
        have FX : Hid (fs s (c + 1) = i + 1) := Lib.hid (by rw [fs, nx_is hf q q2 (fun j a b => (NO.out j a b).2)])
        have gc := fs_ge s c
        obtain ⟨v2, w2, r2, o2, b2⟩ := appB OW.out (fd s c) BR.out.size (by rw [rowB_len]; omega) 41
        have O2 : Hid (OwnB w2 w.heap.size v2 (rowB s (c + 1))) := Lib.hid (by rw [rowB_succ]; exact o2)
        have B2 := Lib.hid (BR.out.trans b2)
        have R2 := Lib.hid r2
        clear r2 o2 b2 NO OW
        have ex := EX.out
        have f0 : (0 : Int) ≤ (fs s c : Int) := by omega
        have f1 : (fs s c : Int) ≤ (i : Int) := by omega
        have f2 : (i : Int) ≤ (s.size : Int) := by omega
        generalize hF : fd s c = F at *
        generalize hP : fs s c = p at *
        by_cases q3 : i = s.size
        · have e1 : ((i : Int) == (s.size : Int)) = true := by simp; omega
          clear q3 q2
          go_wp2_with (at_builtin; refine Lp.wpList_append_eqL rfl (.tmp 22) (.tmp 27) 41 rfl _ _ v2 w2 rfl rfl R2.out ?_)
          go_roundw
          case rel =>
            refine ⟨c + 1, i + 1, by omega, by go_num, by rw [FX.out]; go_num, by rw [FX.out]; exact Nat.le_refl _, fun j a b => by rw [FX.out] at a; omega, O2.out, B2.out⟩
          case measure => simp [intOf]; omega
        · have e1 : ((i : Int) == (s.size : Int)) = false := by simp; omega
          have ga := Wd.gn_at s i (by omega)
          have e2 : ((Wd.gn s i : Int) == 44) = true := by simp; omega
          go_wp2_with (at_builtin; refine Lp.wpList_append_eqL rfl (.tmp 22) (.tmp 27) 41 rfl _ _ v2 w2 rfl rfl R2.out ?_)
          go_roundw
          case rel =>
            refine ⟨c + 1, i + 1, by omega, by go_num, by rw [FX.out]; go_num, by rw [FX.out]; exact Nat.le_refl _, fun j a b => by rw [FX.out] at a; omega, O2.out, B2.out⟩
          case measure => simp [intOf]; omega
      · have e1 : ((i : Int) == (s.size : Int)) = false := by simp; omega
        have ga := Wd.gn_at s i (by omega)
        have e2 : ((Wd.gn s i : Int) == 44) = false := by simp; omega
        go_wp2_with fail
        go_roundw
        case rel =>
          refine ⟨c, i + 1, by omega, by go_num, rfl, by omega, fun j a b => ?_, OW.out, BR.out⟩
          by_cases e : j = i
          · subst e; exact ⟨by omega, fun k => q2 (.inr k)⟩
          · exact NO.out j a (by omega)
        case measure => simp [intOf]; omega
    · have e0 : decide ((i : Int) ≤ (s.size : Int)) = false := decide_eq_false (by omega)
      have FX : fs s c = s.size + 1 := by
        rcases Nat.lt_or_ge s.size (fs s c) with k | k
        · omega
        · have := (NO.out s.size k (by omega)).1
          omega
      have SP := Lib.hid (spF FX)
      have ST := Lib.hid (OW.out.st (by have := SP.out.pos; exact this))
      go_wp2_with fail
      go_ret
      exact ⟨⟨_, _, rfl, ST.out, SP.out⟩, BR.out⟩
end Go.Proofs.YtoecgabdjpgleaaGreatDoor.Rd
