/-
  The fields of a body, parted by commas: strings.SplitN at one byte, for eleven.
  Conditions: the body has no more than 2^61 bytes.
-/
import Derived.Test.YtoecgabdjpgleaaGreatDoorRdK
import Derived.Deep.OwnRows
import Derived.Laws.MakeOwn
namespace Go.Proofs.YtoecgabdjpgleaaGreatDoor.Rd
open Go.RowKit Cv
set_option linter.unusedVariables false
set_option linter.unusedSimpArgs false

/-- the place of the next comma from p on, or the end. -/
def nx (s : ByteArray) (p : Nat) : Nat := p + Wd.di (s.extract p s.size) 44
/-- where field k begins. -/
def fs (s : ByteArray) : Nat → Nat
  | 0 => 0
  | k + 1 => nx s (fs s k) + 1
/-- field k. -/
def fd (s : ByteArray) (k : Nat) : ByteArray := s.extract (fs s k) (nx s (fs s k))
theorem nx_spec (s : ByteArray) (p : Nat) (hp : p ≤ s.size) :
    (Lib.indexByte (s.extract p s.size).data.toList 44 = -1 ∧ nx s p = s.size ∧ ∀ j, p ≤ j → j < s.size → Wd.gn s j ≠ 44) ∨ (Lib.indexByte (s.extract p s.size).data.toList 44 = ((nx s p - p : Nat) : Int) ∧ p ≤ nx s p ∧ nx s p < s.size ∧ Wd.gn s (nx s p) = 44 ∧ ∀ j, p ≤ j → j < nx s p → Wd.gn s j ≠ 44) := by
  have ts := size_ext s p s.size (Nat.le_refl _)
  rcases Wd.di_spec (s.extract p s.size) 44 with ⟨h1, h2, h3⟩ | ⟨h1, h2, h3, h4⟩
  · refine .inl ⟨h1, by unfold nx; omega, fun j j1 j2 => ?_⟩
    have := h3 (j - p) (by omega)
    rw [gn_ext (by omega), show p + (j - p) = j by omega] at this
    exact this
  · refine .inr ⟨by rw [h1]; unfold nx; omega, by unfold nx; omega, by unfold nx; omega, ?_, fun j j1 j2 => ?_⟩
    · rw [gn_ext (by omega)] at h3
      exact h3
    · unfold nx at j2
      have := h4 (j - p) (by omega)
      rw [gn_ext (by omega), show p + (j - p) = j by omega] at this
      exact this
theorem nx_ge (s : ByteArray) (p : Nat) : p ≤ nx s p := Nat.le_add_right _ _
theorem fs_up (s : ByteArray) (i : Nat) : ∀ k, fs s i + k ≤ fs s (i + k)
  | 0 => Nat.le_refl _
  | k + 1 => by
    have ih := fs_up s i k
    have := nx_ge s (fs s (i + k))
    rw [show i + (k + 1) = i + k + 1 by omega, fs]
    omega
theorem fs_ge (s : ByteArray) (i : Nat) : i ≤ fs s i := by have := fs_up s 0 i; rw [Nat.zero_add] at this; omega
theorem fs_le {s : ByteArray} {i j : Nat} (h : i ≤ j) : fs s i + (j - i) ≤ fs s j := by
  have := fs_up s i (j - i)
  rwa [show i + (j - i) = j by omega] at this
/-- v is a slice, and its cells hold these strings. -/
def St (w : World) (v : Value) (R : List ByteArray) : Prop :=
  ∃ b cap, v = .slice (some ⟨b, 0, none⟩) R.length cap ∧ R.length ≤ cap ∧ cap ≤ 9223372036854775807 ∧ b < w.heap.size ∧ ∀ j x, R[j]? = some x → w.cell? ⟨b, j, none⟩ = some (.string x)
theorem St.below {w w' : World} {v : Value} {R : List ByteArray} (h : St w v R) (q : Below w.heap.size w w') : St w' v R := by
  obtain ⟨b, cap, e, h1, h2, hb, h3⟩ := h
  exact ⟨b, cap, e, h1, h2, Nat.lt_of_lt_of_le hb q.size, fun j x hj => (q.cell (p := ⟨b, j, none⟩) hb).trans (h3 j x hj)⟩
/-- the first fields of a body, and whether there are ten. -/
structure Spl (s : ByteArray) (R : List ByteArray) : Prop where
  pos : 1 ≤ R.length
  len : R.length ≤ 11
  at_ : ∀ j, j < R.length → j < 10 → R[j]? = some (fd s j)
  ten : 10 ≤ R.length ↔ fs s 9 ≤ s.size
def rowR (s : ByteArray) (i : Nat) : List ByteArray := (List.range (i + 1)).map fun j => if j = i then s.extract (fs s i) s.size else fd s j
theorem rowR_len (s : ByteArray) (i : Nat) : (rowR s i).length = i + 1 := by simp [rowR]
theorem rowR_at (s : ByteArray) (i : Nat) {j : Nat} {x : ByteArray} (h : (rowR s i)[j]? = some x) : j ≤ i ∧ x = if j = i then s.extract (fs s i) s.size else fd s j := by
  have hj := (List.getElem?_eq_some_iff.1 h).1
  rw [rowR_len] at hj
  unfold rowR at h
  rw [List.getElem?_map, List.getElem?_range hj] at h
  exact ⟨by omega, (Option.some.inj h).symm⟩
theorem rowR_get (s : ByteArray) (i : Nat) {j : Nat} (h : j ≤ i) : (rowR s i)[j]? = some (if j = i then s.extract (fs s i) s.size else fd s j) := by
  unfold rowR
  rw [List.getElem?_map, List.getElem?_range (by omega)]
  rfl
/-- no comma any more. -/
theorem spl_miss {s : ByteArray} {i : Nat} (h : fs s i ≤ s.size) (hn : nx s (fs s i) = s.size) (hi : i ≤ 9) : Spl s (rowR s i) where
  pos := by rw [rowR_len]; omega
  len := by rw [rowR_len]; omega
  at_ j hj _ := by
    rw [rowR_len] at hj
    rw [rowR_get s i (by omega)]
    by_cases c : j = i
    · subst c
      rw [if_pos rfl, fd, hn]
    · rw [if_neg c]
  ten := by
    rw [rowR_len]
    by_cases c : i = 9
    · subst c
      exact ⟨fun _ => h, fun _ => by omega⟩
    · refine ⟨fun q => by omega, fun q => ?_⟩
      exfalso
      have a : fs s (i + 1) = s.size + 1 := by rw [fs, hn]
      have b := fs_le (s := s) (i := i + 1) (j := 9) (by omega)
      omega
/-- as many as were asked for. -/
theorem spl_full {s : ByteArray} {i : Nat} (h : fs s i ≤ s.size) (hi : i = min 10 s.size) : Spl s (rowR s i) where
  pos := by rw [rowR_len]; omega
  len := by rw [rowR_len]; omega
  at_ j hj h10 := by
    rw [rowR_len] at hj
    rw [rowR_get s i (by omega)]
    by_cases c : j = i
    · subst c
      have g := fs_ge s j
      have e : nx s (fs s j) = s.size := by
        rcases nx_spec s (fs s j) h with ⟨_, q, _⟩ | ⟨_, q1, q2, _⟩
        · exact q
        · omega
      rw [if_pos rfl, fd, e]
    · rw [if_neg c]
  ten := by
    rw [rowR_len]
    have g := fs_ge s i
    by_cases c : 9 ≤ i
    · have b := fs_le (s := s) (i := 9) (j := i) c
      exact ⟨fun _ => by omega, fun _ => by omega⟩
    · have b := fs_le (s := s) (i := i) (j := 9) (by omega)
      exact ⟨fun q => by omega, fun q => by omega⟩
theorem info_str : (Tryz.prog.info? 9).map (fun i => (i.zero, i.size, i.bytes)) = some (some (.string ⟨#[]⟩), 1, 16) := by kernel_rfl
theorem mk_strs (n : Nat) (h : n ≤ 11) (w : World) : (Instr.makeSlice 41 (.int .i64 (n : Int)) (.int .i64 (n : Int))).run Tryz.prog w = .ok (.slice (some ⟨w.heap.size, 0, none⟩) n n) (w.alloc (.cells (madeCells #[.string ⟨#[]⟩] n) 9)) := by
  obtain ⟨i, hi, hz, hs, hby⟩ := Lp.info_parts3L info_str
  have h := run_make (P := Tryz.prog) w 41 9 i (.string ⟨#[]⟩) Tryz.underlying41 hi hz .i64 .i64 (n : Int) (n : Int) (by omega) (Int.le_refl _) (by rw [hby]; omega) (by omega)
  rw [hs, Nat.mul_one] at h
  exact h
set_option maxRecDepth 100000 in
theorem Index_c (s : ByteArray) (w : World) :
    Calls Tryz.prog 72 #[.string s, .string ⟨#[44]⟩] w fun e w' => e = .returned (.int .i64 (Lib.indexByte s.data.toList 44)) ∧ w' = w := by
  have IC := Lib.hid (fun w => Tryz.stringslite_Index_one s 44 w)
  generalize Lib.indexByte s.data.toList 44 = r at *
  go_enter Tryz.func72, Tryz.ntmps72
  go_wp2_with fail
  refine (IC.out _).mono ?_
  rintro e w' ⟨rfl, rfl⟩
  go_wp2_with fail
  go_ret
  exact ⟨rfl, rfl⟩

set_option maxRecDepth 100000 in
set_option maxHeartbeats 4000000 in
theorem genSplit_c (s : ByteArray) (w : World) (hs : s.size ≤ 2305843009213693952) :
    Calls Tryz.prog 45 #[.string s, .string ⟨#[44]⟩, .int .i64 0, .int .i64 11] w fun e w' => (∃ v R, e = .returned v ∧ St w' v R ∧ Spl s R) ∧ Below w.heap.size w w' := by
  obtain ⟨n, hn⟩ : ∃ n, n = min 11 (s.size + 1) := ⟨_, rfl⟩
  have n0 : 1 ≤ n := by omega
  have n1 : n ≤ 11 := by omega
  have NE : min (11 : Int) ((s.size : Int) + 1) = (n : Int) := by omega
  have MK := mk_strs n n1
  have SM : Hid (∀ i, fs s i ≤ s.size → nx s (fs s i) = s.size → i ≤ 9 → Spl s (rowR s i)) := Lib.hid fun i => spl_miss
  have SF : Hid (∀ i, fs s i ≤ s.size → i + 1 = n → Spl s (rowR s i)) := Lib.hid fun i h1 h2 => spl_full h1 (by omega)
  have XS : Hid (∀ p q, q ≤ s.size - p → (s.extract p s.size).extract 0 q = s.extract p (p + q)) := Lib.hid fun p q h => ext_ext s p s.size 0 q h
  have XT : Hid (∀ p q, p ≤ s.size → (s.extract p s.size).extract q (s.size - p) = s.extract (p + q) s.size) := Lib.hid fun p q h => by
    rw [ext_ext s p s.size q (s.size - p) (Nat.le_refl _), show p + (s.size - p) = s.size by omega]
  have R0 := Lib.hid (World.rowIs_made w (.string ⟨#[]⟩) n 9)
  have B0 := Lib.hid (balloc (brefl w) (.cells (madeCells #[.string ⟨#[]⟩] n) 9))
  have E0 : Hid (s = s.extract 0 s.size) := Lib.hid (Wd.ext_all s).symm
  clear hn
  go_enter Tryz.func45, Tryz.ntmps45
  go_wp2_with fail
  clear MK NE
  generalize w.alloc (.cells (madeCells #[.string ⟨#[]⟩] n) 9) = w0 at *
  go_loopw [0, 10] (fun sv iv wr => ∃ i : Nat, i + 1 ≤ n ∧ iv = .int .i64 i ∧ sv = .string (s.extract (fs s i) s.size) ∧ fs s i ≤ s.size ∧ (∃ f, wr.rowIs w.heap.size 9 n f ∧ ∀ j, j < i → f j = .string (fd s j)) ∧ Below w.heap.size w wr) (fun _ iv _ => n - (intOf iv).toNat)
  case atStart => exact ⟨0, n0, rfl, congrArg Value.string E0.out, Nat.zero_le _, ⟨_, R0.out, fun j hj => absurd hj (Nat.not_lt_zero _)⟩, B0.out⟩
  case round =>
    obtain ⟨i, hi, rfl, rfl, hf, ⟨f, hr, hfd⟩, hb⟩ := hrel
    rename World => wr
    have RR := Lib.hid hr
    have BR := Lib.hid hb
    have FD := Lib.hid hfd
    clear R0 B0 hfd hb
    have IX := Lib.hid (fun w => Index_c (s.extract (fs s i) s.size) w)
    have NXS := nx_spec s (fs s i) hf
    have sz := size_ext s (fs s i) s.size (Nat.le_refl _)
    have c0 := hr.cell (i := i) (by omega)
    have z0 := hr.frozen i
    have RS := Lib.hid (hr.set i (.string (s.extract (fs s i) s.size)))
    have RS2 := Lib.hid (hr.set i (.string (fd s i)))
    have zb := hr.lt
    clear hr
    have BS : Hid (Below w.heap.size w (wr.setCell ⟨w.heap.size, i, none⟩ (.string (s.extract (fs s i) s.size)))) := Lib.hid (BR.out.setCell (Nat.le_refl _) _)
    have ST : Hid (∀ (w' : World), w'.rowIs w.heap.size 9 n (fun j => if j = i then .string (s.extract (fs s i) s.size) else f j) → St w' (.slice (some ⟨w.heap.size, 0, none⟩) (i + 1) n) (rowR s i)) := Lib.hid fun w' q => by
      refine ⟨w.heap.size, n, by rw [rowR_len], by rw [rowR_len]; exact hi, by omega, q.lt, fun j x hj => ?_⟩
      obtain ⟨h1, h2⟩ := rowR_at s i hj
      have := q.cell (i := j) (by omega)
      rw [this, h2]
      by_cases c : j = i
      · rw [if_pos c, if_pos c]
      · rw [if_neg c, if_neg c, FD.out j (by omega)]
    by_cases c : i + 1 < n
    · have e0 : decide ((i : Int) < (n : Int) - 1) = true := by rw [decide_eq_true_iff]; omega
      rcases NXS with ⟨h1, h2, h3⟩ | ⟨h1, h2, h3, h4, h5⟩
      · rw [h1] at IX
        have SP := Lib.hid (SM.out i hf h2 (by omega))
        go_wp2_with fail
        refine (IX.out _).mono ?_
        rintro e w' ⟨rfl, rfl⟩
        go_wp2_with fail
        go_ret
        exact ⟨⟨_, _, rfl, ST.out _ RS.out, SP.out⟩, BS.out⟩
      · rw [h1] at IX
        have hf2 : fs s (i + 1) ≤ s.size := by rw [fs]; omega
        have HX1 : Hid ((s.extract (fs s i) s.size).extract 0 (nx s (fs s i) - fs s i) = fd s i) := Lib.hid (by
          rw [XS.out _ _ (by omega), show fs s i + (nx s (fs s i) - fs s i) = nx s (fs s i) by omega]
          rfl)
        have HX2 : Hid ((s.extract (fs s i) s.size).extract (nx s (fs s i) - fs s i + 1) (s.extract (fs s i) s.size).size = s.extract (fs s (i + 1)) s.size) := Lib.hid (by
          rw [sz, XT.out _ _ hf, fs, show fs s i + (nx s (fs s i) - fs s i + 1) = nx s (fs s i) + 1 by omega])
        have BS2 : Hid (Below w.heap.size w (wr.setCell ⟨w.heap.size, i, none⟩ (.string (fd s i)))) := Lib.hid (BR.out.setCell (Nat.le_refl _) _)
        have dl : nx s (fs s i) - fs s i + 1 ≤ (s.extract (fs s i) s.size).size := by omega
        have tl : (s.extract (fs s i) s.size).size ≤ 2305843009213693952 := by omega
        clear SM SF XS XT E0 sz h2 h3 h4 h5 RS BS ST
        generalize nx s (fs s i) - fs s i = d at *
        generalize hF : fd s i = F at *
        generalize hX : s.extract (fs s (i + 1)) s.size = X2 at *
        replace hF := Lib.hid hF
        replace hX := Lib.hid hX
        generalize s.extract (fs s i) s.size = T at *
        have d0 : (0 : Int) ≤ (d : Int) := by omega
        have d1 : (d : Int) ≤ (T.size : Int) := by omega
        have d2 : (d : Int) + 1 ≤ (T.size : Int) := by omega
        have dn : ((d : Int) + 1).toNat = d + 1 := by omega
        have e1 : decide ((d : Int) < 0) = false := decide_eq_false (by omega)
        have hx1 := HX1.out
        have hx2 := HX2.out
        go_wp2_with fail
        refine (IX.out _).mono ?_
        rintro e w' ⟨rfl, rfl⟩
        go_wp2_with fail
        go_roundw
        case rel =>
          refine ⟨i + 1, by omega, by go_num, by rw [hX.out], hf2, ⟨_, RS2.out, fun j hj => ?_⟩, BS2.out⟩
          by_cases c : j = i
          · rw [if_pos c, c, hF.out]
          · rw [if_neg c, FD.out j (by omega)]
        case measure => simp [intOf]; omega
    · obtain rfl : n = i + 1 := by omega
      have e0 : decide ((i : Int) < (i : Int) + 1 - 1) = false := by rw [decide_eq_false_iff_not]; omega
      have SP := Lib.hid (SF.out i hf rfl)
      go_wp2_with fail
      go_ret
      exact ⟨⟨_, _, rfl, ST.out _ RS.out, SP.out⟩, BS.out⟩
set_option maxRecDepth 100000 in
theorem SplitN_c (s : ByteArray) (w : World) (hs : s.size ≤ 2305843009213693952) :
    Calls Tryz.prog 14 #[.string s, .string ⟨#[44]⟩, .int .i64 11] w fun e w' => (∃ v R, e = .returned v ∧ St w' v R ∧ Spl s R) ∧ Below w.heap.size w w' := by
  have GC := Lib.hid (genSplit_c s w hs)
  go_enter Tryz.func14, Tryz.ntmps14
  go_wp2_with fail
  refine GC.out.mono ?_
  rintro e w1 ⟨⟨v, R, rfl, st, sp⟩, hb⟩
  have B1 := Lib.hid hb
  have ST := Lib.hid st
  have SP := Lib.hid sp
  clear hb st sp GC
  go_wp2_with fail
  go_ret
  exact ⟨⟨_, R, rfl, ST.out, SP.out⟩, B1.out⟩
end Go.Proofs.YtoecgabdjpgleaaGreatDoor.Rd
