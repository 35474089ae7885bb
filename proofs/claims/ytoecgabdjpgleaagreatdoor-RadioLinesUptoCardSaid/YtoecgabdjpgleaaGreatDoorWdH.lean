/-
  A line's words: the contract of sundialref07.Split.
-/
import Derived.Test.YtoecgabdjpgleaaGreatDoorWdG
namespace Go.Proofs.YtoecgabdjpgleaaGreatDoor.Wd
open Go.ChangeShapes Go.WideShapes Go.ChangeAt Go.RowKit Go.Joins By
set_option linter.unusedVariables false
set_option linter.unusedSimpArgs false

/-- the first wrong character at n or behind it. -/
def fw : List (ByteArray × Bool) → Nat → Nat
  | [], n => n
  | x :: l, n => if x.2 then n else fw l (n + 1)
def fwrong (L : List (ByteArray × Bool)) : Nat := fw L 0
theorem fw_step (L : List (ByteArray × Bool)) (k : Nat) (h : k < L.length) : fw (L.drop k) k = if (L.getD k (⟨#[]⟩, false)).2 then k else fw (L.drop (k + 1)) (k + 1) := by
  rw [List.drop_eq_getElem_cons h, fw, List.getD_eq_getElem?_getD, List.getElem?_eq_getElem h]
  rfl
theorem fw_le : ∀ (L : List (ByteArray × Bool)) (n : Nat), fw L n ≤ n + L.length
  | [], n => by simp [fw]
  | x :: l, n => by
    have := fw_le l (n + 1)
    rw [fw, List.length_cons]
    split <;> omega
/-- a word without quotes: its text, the place behind it, the place of a quote in it. -/
def bare (L : List (ByteArray × Bool)) : Nat → Nat → ByteArray → ByteArray × Nat × Int
  | 0, i, s => (s, i, -1)
  | f + 1, i, s => if i < L.length then (if bl1 (tx L i) = true then (s, i, -1) else if (tx L i).toList = [34] then (s ++ tx L i, i + 1, i) else bare L f (i + 1) (s ++ tx L i)) else (s, i, -1)
/-- the words from i on, and the place of what is wrong behind a word; or the place of a quote that none closes. -/
def wds (L : List (ByteArray × Bool)) : Nat → Nat → List W3 → Except Nat (List W3 × Int)
  | 0, _, a => .ok (a, -1)
  | f + 1, i, a =>
    if i < L.length then
      if (tx L i).toList = [35] then .ok (a, -1)
      else if bl1 (tx L i) = true then wds L f (i + 1) a
      else if (tx L i).toList = [34] then
        match qt L L.length (i + 1) ⟨#[]⟩ with
        | none => .error i
        | some (s, j) => if j < L.length then (if bl1 (tx L j) = true then wds L f j (a ++ [⟨s, i, true⟩]) else .ok (a ++ [⟨s, i, true⟩], j)) else .ok (a ++ [⟨s, i, true⟩], -1)
      else if (bare L L.length i ⟨#[]⟩).2.2 < 0 then wds L f (bare L L.length i ⟨#[]⟩).2.1 (a ++ [⟨(bare L L.length i ⟨#[]⟩).1, i, false⟩])
      else .ok (a ++ [⟨(bare L L.length i ⟨#[]⟩).1, i, false⟩], (bare L L.length i ⟨#[]⟩).2.2)
    else .ok (a, -1)
/-- what Split gives: the words, and the place of the fault. -/
def spl (L : List (ByteArray × Bool)) : List W3 × Int :=
  match wds L L.length 0 [] with
  | .error i => ([], if fwrong L < L.length then fwrong L else i)
  | .ok (a, b) =>
    if fwrong L < L.length ∧ (b < 0 ∨ (fwrong L : Int) < b) then ([], fwrong L) else if 0 ≤ b then ([], b) else (a, -1)

theorem qt_place {L : List (ByteArray × Bool)} : ∀ (f i : Nat) (s t : ByteArray) (j : Nat), qt L f i s = some (t, j) → i < j ∧ j ≤ L.length ∧ t.size ≤ s.size + szs L i
  | 0, i, s, t, j, h => by simp [qt] at h
  | f + 1, i, s, t, j, h => by
    rw [qt] at h
    split at h
    · rename_i c
      have z := szs_step L i c
      split at h
      · simp at h; obtain ⟨rfl, rfl⟩ := h; omega
      · split at h
        · split at h
          · cases h
          · rename_i c2
            have z2 := szs_step L (i + 1) (by omega)
            have := qt_place f _ _ _ _ h
            rw [ByteArray.size_append] at this
            have e : szs L (i + 2) = szs L (i + 1 + 1) := rfl
            omega
        · have := qt_place f _ _ _ _ h
          rw [ByteArray.size_append] at this
          omega
    · cases h
theorem bare_place {L : List (ByteArray × Bool)} : ∀ (f i : Nat) (s : ByteArray), i ≤ L.length → i ≤ (bare L f i s).2.1 ∧ (bare L f i s).2.1 ≤ L.length ∧ (bare L f i s).1.size ≤ s.size + szs L i
  | 0, i, s, h => by simp [bare]; omega
  | f + 1, i, s, h => by
    rw [bare]
    split
    · rename_i c
      have z := szs_step L i c
      split
      · simp; omega
      · split
        · simp; omega
        · have := bare_place (L := L) f (i + 1) (s ++ tx L i) (by omega)
          rw [ByteArray.size_append] at this
          omega
    · simp; omega
theorem bare_pos {L : List (ByteArray × Bool)} {f i : Nat} {s : ByteArray} (c : i < L.length) (b : bl1 (tx L i) = false) (h : L.length ≤ i + f) : i + 1 ≤ (bare L f i s).2.1 := by
  obtain ⟨f, rfl⟩ : ∃ g, f = g + 1 := ⟨f - 1, by omega⟩
  rw [bare, if_pos c, if_neg (by rw [b]; decide)]
  split
  · exact Nat.le_refl _
  · exact (bare_place (L := L) f (i + 1) _ (by omega)).1
theorem chL_szs (s : ByteArray) : ∀ f i, i ≤ s.size → szs (chL s f i) 0 + i ≤ s.size
  | 0, i, h => by simp [chL, szs]; omega
  | f + 1, i, h => by
    rw [chL]
    split
    · rename_i c
      have w := cw_le s i c
      have := chL_szs s f (i + cw s i) w
      simp only [szs, List.drop_zero, List.map_cons, List.sum_cons, ByteArray.size_extract] at this ⊢
      omega
    · simp [szs]; omega
theorem chL_len (s : ByteArray) : ∀ f i, (chL s f i).length ≤ f
  | 0, i => by simp [chL]
  | f + 1, i => by
    have := chL_len s f (i + cw s i)
    rw [chL]
    split
    · simp; omega
    · simp
theorem chars_szs (s : ByteArray) : szs (chars s) 0 ≤ s.size := by have := chL_szs s s.size 0 (Nat.zero_le _); unfold chars; omega
theorem chars_len (s : ByteArray) : (chars s).length ≤ s.size := chL_len s s.size 0
theorem wat (L : List (ByteArray × Bool)) (i : Nat) (h : i < L.length) : L[i]? = some (L.getD i (⟨#[]⟩, false)) := by
  rw [List.getD_eq_getElem?_getD, List.getElem?_eq_getElem h]
  rfl

/-- where the words end: what is wrong, and what is given back. -/
theorem spl_ok {L : List (ByteArray × Bool)} {acc : List W3} {bd : Int} (h : wds L L.length 0 [] = .ok (acc, bd)) :
    spl L = if fwrong L < L.length ∧ (bd < 0 ∨ (fwrong L : Int) < bd) then ([], (fwrong L : Int)) else if 0 ≤ bd then ([], bd) else (acc, -1) := by
  rw [spl, h]
theorem OwnR.le {w : World} {base base' : Nat} {v : Value} {l : List W3} (h : OwnR w base v l) (k : base' ≤ base) : OwnR w base' v l := by
  obtain ⟨h1, h2⟩ := h
  refine ⟨h1, ?_⟩
  rcases h2 with h2 | ⟨g, cap, cur, hv, hb, hr⟩
  · exact .inl h2
  · exact .inr ⟨g, cap, cur, hv, Nat.le_trans k hb, hr⟩
theorem wds_end {L : List (ByteArray × Bool)} {f i : Nat} {a : List W3} (h : ¬ i < L.length) : wds L f i a = .ok (a, -1) := by
  cases f with
  | zero => rfl
  | succ f => rw [wds, if_neg h]
set_option maxRecDepth 100000 in
set_option maxHeartbeats 8000000 in
theorem rSplit_c (s : ByteArray) (w : World) (T : Lib.Utf8Tabs 3 4 w) (hs : s.size ≤ 1099511627776) :
    Calls Tryz.prog 29 #[.string s] w fun e w' => ∃ v, e = .returned (.tuple #[v, .int .i64 (spl (chars s)).2]) ∧ OwnR w' w.heap.size v (spl (chars s)).1 ∧ Below w.heap.size w w' := by
  have CC := Lib.hid (rChars_c s w T hs)
  have LN := chars_len s
  have LZ := chars_szs s
  clear T
  go_enter Tryz.func29, Tryz.ntmps29
  go_wp2_with fail
  refine CC.out.mono ?_
  rintro e w1 ⟨v, rfl, own, B0⟩
  have RR : Hid (Rc w1 v (chars s)) := Lib.hid own.rc
  have B1 := Lib.hid B0
  clear own B0 CC
  obtain ⟨L, hL⟩ : ∃ L, chars s = L := ⟨_, rfl⟩
  rw [hL] at LN LZ RR
  have HL : Hid (chars s = L) := Lib.hid hL
  clear hL
  obtain ⟨a, cap, rfl, h1, h2, h3⟩ := RR.out
  have H3 := Lib.hid h3
  clear h3
  go_wp2_with fail
  go_loopw [5, 6] (fun wv iv wr => ∃ k : Nat, k ≤ L.length ∧ iv = .int .i64 ((k : Int) - 1) ∧ wv = .int .i64 (fw (L.drop k) k) ∧ wr = w1) (fun _ iv _ => (intOf iv + 1).toNat)
  case atStart => exact ⟨L.length, Nat.le_refl _, rfl, by rw [List.drop_length]; rfl, rfl⟩
  case round =>
    obtain ⟨k, hk, rfl, rfl, rfl⟩ := hrel
    rename World => wr
    by_cases c : 0 < k
    · obtain ⟨k, rfl⟩ : ∃ j, k = j + 1 := ⟨k - 1, by omega⟩
      have e0 : ((k + 1 : Nat) : Int) - 1 = (k : Int) := by omega
      rw [e0]
      have f1 : decide ((0 : Int) ≤ (k : Int)) = true := by rw [decide_eq_true_iff]; omega
      have c1 : (k : Int) < (L.length : Int) := by omega
      obtain ⟨b, off, rfl, hbl, hK⟩ := H3.out (by omega)
      obtain ⟨g1, g2⟩ := hK k _ (wat L k (by omega))
      have FS := Lib.hid (fw_step L k (by omega))
      clear hK
      generalize L.getD k (⟨#[]⟩, false) = x at *
      obtain ⟨xt, xq⟩ := x
      simp only at g1 g2
      cases xq with
      | true =>
        go_wp2_with fail
        go_roundw
        case rel => exact ⟨k, by omega, by go_num, by rw [FS.out]; rfl, trivial⟩
        case measure => simp [intOf] <;> omega
      | false =>
        go_wp2_with fail
        go_roundw
        case rel => exact ⟨k, by omega, by go_num, by rw [FS.out]; rfl, trivial⟩
        case measure => simp [intOf] <;> omega
    · obtain rfl : k = 0 := by omega
      go_wp2_with fail
      rw [show (((0 : Nat) : Int) - 1) = -1 from by omega]
      have FW : Hid (fw (L.drop 0) 0 = fwrong L) := Lib.hid rfl
      have FL : fwrong L ≤ L.length := by have := fw_le L 0; unfold fwrong; omega
      rw [FW.out]
      obtain ⟨q, hq⟩ : ∃ q, fwrong L = q := ⟨_, rfl⟩
      rw [hq] at FL ⊢
      have HQ : Hid (fwrong L = q) := Lib.hid hq
      clear hq
      have B2 := Lib.hid (brefl wr)
      have RW : Hid (OwnR wr wr.heap.size (.slice none 0 0) []) := Lib.hid (OwnR.nil _ _)
      clear FW
      go_loopw [7, 8, 9] (fun ov iv bv wz => ∃ k : Nat, ∃ acc, ∃ bd : Int, k ≤ L.length ∧ iv = .int .i64 k ∧ bv = .int .i64 bd ∧ OwnR wz wr.heap.size ov acc ∧ acc.length ≤ k ∧ Below wr.heap.size wr wz ∧ ((bd = -1 ∧ ∃ f, L.length ≤ k + f ∧ wds L L.length 0 [] = wds L f k acc) ∨ (0 ≤ bd ∧ bd ≤ L.length ∧ wds L L.length 0 [] = .ok (acc, bd)))) (fun _ iv _ _ => L.length - (intOf iv).toNat)
      case atStart => exact ⟨0, [], -1, Nat.zero_le _, rfl, rfl, RW.out, Nat.le_refl _, B2.out, .inl ⟨rfl, L.length, by omega, rfl⟩⟩
      case round =>
        obtain ⟨k, acc, bd, hk, rfl, rfl, hown, hal, hb, hd⟩ := hrel
        rename World => wz
        have OW := Lib.hid hown
        have BB := Lib.hid hb
        have RL := Lib.hid (RR.out.below hb)
        clear hown hb
        by_cases c : k < L.length
        · have f1 : decide ((k : Int) < (L.length : Int)) = true := by rw [decide_eq_true_iff]; omega
          have k1 : (k : Int) < (L.length : Int) := by omega
          obtain ⟨b, off, rfl, hbl, hK⟩ := H3.out (by omega)
          have g1 := (BB.out.cell (p := ⟨b, off + k * 2, none⟩) hbl).trans (hK k _ (tx_at L k c)).1
          have KK := Lib.hid (fun j cj => (BB.out.cell (p := ⟨b, off + j * 2, none⟩) hbl).trans (hK j _ (tx_at L j cj)).1)
          clear hK H3
          rcases hd with ⟨hbd, f, hf, hw⟩ | ⟨b0, b1, hw⟩
          · have e2 : decide (bd < 0) = true := by rw [decide_eq_true_iff]; omega
            have HBD := Lib.hid hbd
            have bd1 : -1 ≤ bd ∧ bd ≤ L.length := by omega
            clear hbd
            obtain ⟨f', rfl⟩ : ∃ f', f = f' + 1 := ⟨f - 1, by omega⟩
            by_cases x0 : (tx L k).toList = [35]
            · have HW : Hid (wds L L.length 0 [] = .ok (acc, bd)) := Lib.hid (by rw [hw, wds, if_pos c, if_pos x0, HBD.out])
              have x0b : ((tx L k).toList == [35]) = true := by rw [x0]; rfl
              clear hw
              have SP := Lib.hid (spl_ok HW.out)
              have BE := Lib.hid (B1.out.trans (BB.out.mono B1.out.size))
              have OE := Lib.hid (OW.out.le B1.out.size)
              clear HW
              rw [HQ.out] at SP
              obtain ⟨d1, d2⟩ := bd1
              by_cases q1 : q < L.length
              · have p1 : decide ((q : Int) < (L.length : Int)) = true := by rw [decide_eq_true_iff]; omega
                by_cases q2 : bd < 0
                · first
                  | (exfalso; omega; done)
                  | (
                    have p2 : decide (bd < 0) = true := decide_eq_true q2
                    have HS : Hid (spl L = ([], (q : Int))) := Lib.hid (by rw [SP.out, if_pos ⟨q1, Or.inl q2⟩])
                    clear SP
                    have p4 : decide ((0 : Int) ≤ (q : Int)) = true := by rw [decide_eq_true_iff]; omega
                    go_wp2_with fail
                    exact bodyPost_ret (v := .tuple #[.slice none 0 0, .int .i64 q]) (by simp [results, Tryz.results29, go_sem]) rfl ⟨_, by rw [HL.out, HS.out], by rw [HL.out, HS.out]; exact OwnR.nil _ _, BE.out⟩)
                · have p2 : decide (bd < 0) = false := decide_eq_false q2
                  by_cases q3 : (q : Int) < bd
                  · have p3 : decide ((q : Int) < bd) = true := decide_eq_true q3
                    have HS : Hid (spl L = ([], (q : Int))) := Lib.hid (by rw [SP.out, if_pos ⟨q1, Or.inr q3⟩])
                    clear SP
                    have p4 : decide ((0 : Int) ≤ (q : Int)) = true := by rw [decide_eq_true_iff]; omega
                    go_wp2_with fail
                    exact bodyPost_ret (v := .tuple #[.slice none 0 0, .int .i64 q]) (by simp [results, Tryz.results29, go_sem]) rfl ⟨_, by rw [HL.out, HS.out], by rw [HL.out, HS.out]; exact OwnR.nil _ _, BE.out⟩
                  · have p3 : decide ((q : Int) < bd) = false := decide_eq_false q3
                    have HS : Hid (spl L = ([], bd)) := Lib.hid (by rw [SP.out, if_neg (fun u => u.2.elim q2 q3), if_pos (by omega)])
                    clear SP
                    have p4 : decide ((0 : Int) ≤ bd) = true := by rw [decide_eq_true_iff]; omega
                    go_wp2_with fail
                    exact bodyPost_ret (v := .tuple #[.slice none 0 0, .int .i64 bd]) (by simp [results, Tryz.results29, go_sem]) rfl ⟨_, by rw [HL.out, HS.out], by rw [HL.out, HS.out]; exact OwnR.nil _ _, BE.out⟩
              · have p1 : decide ((q : Int) < (L.length : Int)) = false := by rw [decide_eq_false_iff_not]; omega
                by_cases q2 : bd < 0
                · first
                  | (exfalso; omega; done)
                  | (
                    have HS : Hid (spl L = (acc, -1)) := Lib.hid (by rw [SP.out, if_neg (fun u => q1 u.1), if_neg (by omega)])
                    clear SP
                    have p4 : decide ((0 : Int) ≤ bd) = false := by rw [decide_eq_false_iff_not]; omega
                    have p5 : decide (bd < 0) = true := decide_eq_true q2
                    go_wp2_with fail
                    exact bodyPost_ret (v := .tuple #[u7, .int .i64 (-1)]) (by simp [results, Tryz.results29, go_sem]) rfl ⟨_, by rw [HL.out, HS.out], by rw [HL.out, HS.out]; exact OE.out, BE.out⟩)
                · have HS : Hid (spl L = ([], bd)) := Lib.hid (by rw [SP.out, if_neg (fun u => q1 u.1), if_pos (by omega)])
                  clear SP
                  have p4 : decide ((0 : Int) ≤ bd) = true := by rw [decide_eq_true_iff]; omega
                  have p5 : decide (bd < 0) = false := decide_eq_false q2
                  go_wp2_with fail
                  exact bodyPost_ret (v := .tuple #[.slice none 0 0, .int .i64 bd]) (by simp [results, Tryz.results29, go_sem]) rfl ⟨_, by rw [HL.out, HS.out], by rw [HL.out, HS.out]; exact OwnR.nil _ _, BE.out⟩
            · have x0b : ((tx L k).toList == [35]) = false := by rw [beq_eq_false_iff_ne]; exact x0
              cases hbk : bl1 (tx L k) with
              | true =>
                have HE : Hid (wds L L.length 0 [] = wds L f' (k + 1) acc) := Lib.hid (by rw [hw, wds, if_pos c, if_neg x0, if_pos hbk])
                have HB := Lib.hid hbk
                clear hw hbk
                go_wp2_with fail
                refine (rblank_c _ _).mono ?_
                rintro e w3 ⟨rfl, rfl⟩
                rw [HB.out]
                go_wp2_with fail
                go_roundw
                case rel => exact ⟨k + 1, acc, bd, by omega, by go_num, rfl, OW.out, by omega, BB.out, .inl ⟨HBD.out, f', by omega, HE.out⟩⟩
                case measure => simp [intOf] <;> omega
              | false =>
                have HB := Lib.hid hbk
                by_cases x1 : (tx L k).toList = [34]
                · have x1b : ((tx L k).toList == [34]) = true := by rw [x1]; rfl
                  have QC := Lib.hid (rquoted_c RL.out k c (by omega))
                  cases hq : qt L L.length (k + 1) ⟨#[]⟩ with
                  | none =>
                    have HS : Hid (spl L = ([], if q < L.length then (q : Int) else (k : Int))) := Lib.hid (by
                      have : wds L L.length 0 [] = .error k := by rw [hw, wds, if_pos c, if_neg x0, if_neg (by rw [hbk]; decide), if_pos x1, hq]
                      rw [spl, this, ← HQ.out])
                    rw [hq] at QC
                    have BE := Lib.hid (B1.out.trans (BB.out.mono B1.out.size))
                    clear hw hbk hq
                    by_cases q1 : q < L.length
                    · have p1 : decide ((q : Int) < (L.length : Int)) = true := by rw [decide_eq_true_iff]; omega
                      rw [if_pos q1] at HS
                      go_wp2_with fail
                      refine (rblank_c _ _).mono ?_
                      rintro e w3 ⟨rfl, rfl⟩
                      rw [HB.out]
                      go_wp2_with fail
                      refine QC.out.mono ?_
                      rintro e w4 ⟨rfl, rfl⟩
                      simp only [qR]
                      go_wp2_with fail
                      exact bodyPost_ret (v := .tuple #[.slice none 0 0, .int .i64 q]) (by simp [results, Tryz.results29, go_sem]) rfl ⟨_, by rw [HL.out, HS.out], by rw [HL.out, HS.out]; exact OwnR.nil _ _, BE.out⟩
                    · have p1 : decide ((q : Int) < (L.length : Int)) = false := by rw [decide_eq_false_iff_not]; omega
                      rw [if_neg q1] at HS
                      go_wp2_with fail
                      refine (rblank_c _ _).mono ?_
                      rintro e w3 ⟨rfl, rfl⟩
                      rw [HB.out]
                      go_wp2_with fail
                      refine QC.out.mono ?_
                      rintro e w4 ⟨rfl, rfl⟩
                      simp only [qR]
                      go_wp2_with fail
                      exact bodyPost_ret (v := .tuple #[.slice none 0 0, .int .i64 k]) (by simp [results, Tryz.results29, go_sem]) rfl ⟨_, by rw [HL.out, HS.out], by rw [HL.out, HS.out]; exact OwnR.nil _ _, BE.out⟩
                  | some tj =>
                    obtain ⟨t, j⟩ := tj
                    have qp := qt_place _ _ _ _ _ hq
                    have HQW : Hid (wds L L.length 0 [] = if j < L.length then (if bl1 (tx L j) = true then wds L f' j (acc ++ [⟨t, k, true⟩]) else .ok (acc ++ [⟨t, k, true⟩], (j : Int))) else .ok (acc ++ [⟨t, k, true⟩], -1)) := Lib.hid (by rw [hw, wds, if_pos c, if_neg x0, if_neg (by rw [hbk]; decide), if_pos x1, hq])
                    rw [hq] at QC
                    obtain ⟨va, wa, ra, oa, ba, sa⟩ := appR3 OW.out ⟨t, k, true⟩ BB.out.size (by omega) 57
                    have OA := Lib.hid oa
                    have BA := Lib.hid (BB.out.trans ba)
                    have RA := Lib.hid ra
                    obtain ⟨qp1, qp2, qp3⟩ := qp
                    clear hw hbk hq oa ba ra sa qp3
                    by_cases cj : j < L.length
                    · have p1 : decide ((j : Int) < (L.length : Int)) = true := by rw [decide_eq_true_iff]; omega
                      have j1 : (j : Int) < (L.length : Int) := by omega
                      have gj := KK.out j cj
                      cases hbj : bl1 (tx L j) with
                      | true =>
                        have HE : Hid (wds L L.length 0 [] = wds L f' j (acc ++ [⟨t, k, true⟩])) := Lib.hid (by rw [HQW.out, if_pos cj, if_pos hbj])
                        have HJ := Lib.hid hbj
                        clear hbj HQW
                        go_wp2_with fail
                        refine (rblank_c _ _).mono ?_
                        rintro e w3 ⟨rfl, rfl⟩
                        rw [HB.out]
                        go_wp2_with fail
                        refine QC.out.mono ?_
                        rintro e w4 ⟨rfl, rfl⟩
                        simp only [qR]
                        go_wp2_with fail
                        refine (rblank_c _ _).mono ?_
                        rintro e w5 ⟨rfl, rfl⟩
                        rw [HJ.out]
                        go_wp2_with (at_builtin; refine wpList_append_eq rfl (.tmp 93) (.tmp 97) 57 rfl _ _ va wa rfl rfl RA.out ?_)
                        go_roundw
                        case rel => exact ⟨j, acc ++ [⟨t, k, true⟩], bd, by omega, rfl, rfl, OA.out, by simp; omega, BA.out, .inl ⟨HBD.out, f', by omega, HE.out⟩⟩
                        case measure => simp [intOf] <;> omega
                      | false =>
                        have HE : Hid (wds L L.length 0 [] = .ok (acc ++ [⟨t, k, true⟩], (j : Int))) := Lib.hid (by rw [HQW.out, if_pos cj, if_neg (by rw [hbj]; decide)])
                        have HJ := Lib.hid hbj
                        clear hbj HQW
                        go_wp2_with fail
                        refine (rblank_c _ _).mono ?_
                        rintro e w3 ⟨rfl, rfl⟩
                        rw [HB.out]
                        go_wp2_with fail
                        refine QC.out.mono ?_
                        rintro e w4 ⟨rfl, rfl⟩
                        simp only [qR]
                        go_wp2_with fail
                        refine (rblank_c _ _).mono ?_
                        rintro e w5 ⟨rfl, rfl⟩
                        rw [HJ.out]
                        go_wp2_with (at_builtin; refine wpList_append_eq rfl (.tmp 93) (.tmp 97) 57 rfl _ _ va wa rfl rfl RA.out ?_)
                        go_roundw
                        case rel => exact ⟨j, acc ++ [⟨t, k, true⟩], (j : Int), by omega, rfl, rfl, OA.out, by simp; omega, BA.out, .inr ⟨by omega, by omega, HE.out⟩⟩
                        case measure => simp [intOf] <;> omega
                    · have p1 : decide ((j : Int) < (L.length : Int)) = false := by rw [decide_eq_false_iff_not]; omega
                      have HE : Hid (wds L L.length 0 [] = wds L f' j (acc ++ [⟨t, k, true⟩])) := Lib.hid (by rw [HQW.out, if_neg cj, wds_end cj])
                      clear HQW
                      go_wp2_with fail
                      refine (rblank_c _ _).mono ?_
                      rintro e w3 ⟨rfl, rfl⟩
                      rw [HB.out]
                      go_wp2_with fail
                      refine QC.out.mono ?_
                      rintro e w4 ⟨rfl, rfl⟩
                      simp only [qR]
                      go_wp2_with (at_builtin; refine wpList_append_eq rfl (.tmp 93) (.tmp 97) 57 rfl _ _ va wa rfl rfl RA.out ?_)
                      go_roundw
                      case rel => exact ⟨j, acc ++ [⟨t, k, true⟩], bd, by omega, rfl, rfl, OA.out, by simp; omega, BA.out, .inl ⟨HBD.out, f', by omega, HE.out⟩⟩
                      case measure => simp [intOf] <;> omega
                · have x1b : ((tx L k).toList == [34]) = false := by rw [beq_eq_false_iff_ne]; exact x1
                  have L0 := szs_le L k
                  have HWD : Hid (wds L L.length 0 [] = if (bare L L.length k ⟨#[]⟩).2.2 < 0 then wds L f' (bare L L.length k ⟨#[]⟩).2.1 (acc ++ [⟨(bare L L.length k ⟨#[]⟩).1, k, false⟩]) else .ok (acc ++ [⟨(bare L L.length k ⟨#[]⟩).1, k, false⟩], (bare L L.length k ⟨#[]⟩).2.2)) := Lib.hid (by rw [hw, wds, if_pos c, if_neg x0, if_neg (by rw [hbk]; decide), if_neg x1])
                  have BP : Hid (k + 1 ≤ (bare L L.length k ⟨#[]⟩).2.1) := Lib.hid (bare_pos c hbk (by omega))
                  clear hw hbk
                  go_wp2_with fail
                  refine (rblank_c _ _).mono ?_
                  rintro e w3 ⟨rfl, rfl⟩
                  rw [HB.out]
                  go_wp2_with fail
                  clear x1 x1b x0 x0b
                  go_loopw [8, 9, 14] (fun iv bv sv wy => ∃ m : Nat, ∃ s' : ByteArray, ∃ b' : Int, k ≤ m ∧ m ≤ L.length ∧ iv = .int .i64 m ∧ bv = .int .i64 b' ∧ sv = .string s' ∧ s'.size + szs L m ≤ 1099511627776 ∧ wy = w3 ∧ ((b' = -1 ∧ ∃ g, L.length ≤ m + g ∧ bare L L.length k ⟨#[]⟩ = bare L g m s') ∨ (0 ≤ b' ∧ b' ≤ L.length ∧ bare L L.length k ⟨#[]⟩ = (s', m, b')))) (fun iv _ _ _ => L.length - (intOf iv).toNat)
                  case atStart => exact ⟨k, ⟨#[]⟩, bd, Nat.le_refl _, by omega, rfl, rfl, rfl, by show 0 + _ ≤ _; omega, rfl, .inl ⟨HBD.out, L.length, by omega, rfl⟩⟩
                  case round =>
                    obtain ⟨m, s', b', hkm, hm, rfl, rfl, rfl, hz, rfl, hd2⟩ := hrel
                    have hb2 : b' = -1 ∨ (0 ≤ b' ∧ b' ≤ L.length) := by rcases hd2 with ⟨h, _⟩ | ⟨h, h', _⟩ <;> omega
                    by_cases cm : m < L.length
                    · have e1 : decide ((m : Int) < (L.length : Int)) = true := by rw [decide_eq_true_iff]; omega
                      have m1 : (m : Int) < (L.length : Int) := by omega
                      have gm := KK.out m cm
                      cases hbm : bl1 (tx L m) with
                      | true =>
                        have HBR : Hid (bare L L.length k ⟨#[]⟩ = (s', m, b')) := Lib.hid (by
                          rcases hd2 with ⟨rfl, g, hg, h⟩ | ⟨_, _, h⟩
                          · obtain ⟨g', rfl⟩ : ∃ g', g = g' + 1 := ⟨g - 1, by omega⟩
                            rw [h, bare, if_pos cm, if_pos hbm]
                          · exact h)
                        have HM := Lib.hid hbm
                        clear hd2 hbm
                        go_wp2_with fail
                        refine (rblank_c _ _).mono ?_
                        rintro e w5 ⟨rfl, rfl⟩
                        rw [HM.out]
                        obtain ⟨va, wa, ra, oa, ba, sa⟩ := appR3 OW.out ⟨s', k, false⟩ BB.out.size (by omega) 57
                        have OA := Lib.hid oa
                        have BA := Lib.hid (BB.out.trans ba)
                        have RA := Lib.hid ra
                        have BP2 := BP.out
                        rw [HBR.out] at BP2
                        have HE := HWD.out
                        rw [HBR.out] at HE
                        have BP3 : k + 1 ≤ m := BP2
                        have HC : Hid ((b' = -1 ∧ wds L L.length 0 [] = wds L f' m (acc ++ [⟨s', k, false⟩])) ∨ (0 ≤ b' ∧ b' ≤ L.length ∧ wds L L.length 0 [] = .ok (acc ++ [⟨s', k, false⟩], b'))) := Lib.hid (by
                          by_cases hn : b' < 0
                          · rw [if_pos hn] at HE
                            exact .inl ⟨by omega, HE⟩
                          · rw [if_neg hn] at HE
                            exact .inr ⟨by omega, by omega, HE⟩)
                        clear HE BP2 oa ba ra sa
                        go_wp2_with (at_builtin; refine wpList_append_eq rfl (.tmp 132) (.tmp 136) 57 rfl _ _ va wa rfl rfl RA.out ?_)
                        go_roundw
                        case rel => exact ⟨m, acc ++ [⟨s', k, false⟩], b', by omega, rfl, rfl, OA.out, by simp; omega, BA.out, HC.out.elim (fun u => .inl ⟨u.1, f', by omega, u.2⟩) .inr⟩
                        case measure => simp [intOf] <;> omega
                      | false =>
                        have HM := Lib.hid hbm
                        rcases hd2 with ⟨hb', g, hg, h⟩ | ⟨hb0, hb1, h⟩
                        · obtain ⟨g', rfl⟩ : ∃ g', g = g' + 1 := ⟨g - 1, by omega⟩
                          have e3 : decide (b' < 0) = true := by rw [decide_eq_true_iff]; omega
                          have Z := szs_step L m cm
                          have HB' := Lib.hid hb'
                          clear hb' hb2
                          by_cases y1 : (tx L m).toList = [34]
                          · have y1b : ((tx L m).toList == [34]) = true := by rw [y1]; rfl
                            have HN : Hid (bare L L.length k ⟨#[]⟩ = (s' ++ tx L m, m + 1, (m : Int))) := Lib.hid (by rw [h, bare, if_pos cm, if_neg (by rw [hbm]; decide), if_pos y1])
                            clear h hbm
                            go_wp2_with fail
                            refine (rblank_c _ _).mono ?_
                            rintro e w5 ⟨rfl, rfl⟩
                            rw [HM.out]
                            go_wp2_with fail
                            go_roundw
                            case rel => exact ⟨m + 1, s' ++ tx L m, (m : Int), by omega, by omega, by go_num, rfl, rfl, by rw [ByteArray.size_append]; omega, trivial, .inr ⟨by omega, by omega, HN.out⟩⟩
                            case measure => simp [intOf] <;> omega
                          · have y1b : ((tx L m).toList == [34]) = false := by rw [beq_eq_false_iff_ne]; exact y1
                            have HN : Hid (bare L L.length k ⟨#[]⟩ = bare L g' (m + 1) (s' ++ tx L m)) := Lib.hid (by rw [h, bare, if_pos cm, if_neg (by rw [hbm]; decide), if_neg y1])
                            clear h hbm
                            go_wp2_with fail
                            refine (rblank_c _ _).mono ?_
                            rintro e w5 ⟨rfl, rfl⟩
                            rw [HM.out]
                            go_wp2_with fail
                            go_roundw
                            case rel => exact ⟨m + 1, s' ++ tx L m, b', by omega, by omega, by go_num, rfl, rfl, by rw [ByteArray.size_append]; omega, trivial, .inl ⟨HB'.out, g', by omega, HN.out⟩⟩
                            case measure => simp [intOf] <;> omega
                        · have e3 : decide (b' < 0) = false := by rw [decide_eq_false_iff_not]; omega
                          have HBR := Lib.hid h
                          clear h hbm
                          go_wp2_with fail
                          refine (rblank_c _ _).mono ?_
                          rintro e w5 ⟨rfl, rfl⟩
                          rw [HM.out]
                          obtain ⟨va, wa, ra, oa, ba, sa⟩ := appR3 OW.out ⟨s', k, false⟩ BB.out.size (by omega) 57
                          have OA := Lib.hid oa
                          have BA := Lib.hid (BB.out.trans ba)
                          have RA := Lib.hid ra
                          have BP2 := BP.out
                          rw [HBR.out] at BP2
                          have HE := HWD.out
                          rw [HBR.out] at HE
                          have BP3 : k + 1 ≤ m := BP2
                          have HC : Hid ((b' = -1 ∧ wds L L.length 0 [] = wds L f' m (acc ++ [⟨s', k, false⟩])) ∨ (0 ≤ b' ∧ b' ≤ L.length ∧ wds L L.length 0 [] = .ok (acc ++ [⟨s', k, false⟩], b'))) := Lib.hid (by
                            by_cases hn : b' < 0
                            · rw [if_pos hn] at HE
                              exact .inl ⟨by omega, HE⟩
                            · rw [if_neg hn] at HE
                              exact .inr ⟨by omega, by omega, HE⟩)
                          clear HE BP2 oa ba ra sa
                          go_wp2_with (at_builtin; refine wpList_append_eq rfl (.tmp 132) (.tmp 136) 57 rfl _ _ va wa rfl rfl RA.out ?_)
                          go_roundw
                          case rel => exact ⟨m, acc ++ [⟨s', k, false⟩], b', by omega, rfl, rfl, OA.out, by simp; omega, BA.out, HC.out.elim (fun u => .inl ⟨u.1, f', by omega, u.2⟩) .inr⟩
                          case measure => simp [intOf] <;> omega
                    · have e1 : decide ((m : Int) < (L.length : Int)) = false := by rw [decide_eq_false_iff_not]; omega
                      have HBR : Hid (bare L L.length k ⟨#[]⟩ = (s', m, b')) := Lib.hid (by
                        rcases hd2 with ⟨rfl, g, hg, h⟩ | ⟨_, _, h⟩
                        · rw [h]
                          cases g with
                          | zero => rfl
                          | succ g => rw [bare, if_neg cm]
                        · exact h)
                      clear hd2
                      obtain ⟨va, wa, ra, oa, ba, sa⟩ := appR3 OW.out ⟨s', k, false⟩ BB.out.size (by omega) 57
                      have OA := Lib.hid oa
                      have BA := Lib.hid (BB.out.trans ba)
                      have RA := Lib.hid ra
                      have BP2 := BP.out
                      rw [HBR.out] at BP2
                      have HE := HWD.out
                      rw [HBR.out] at HE
                      have BP3 : k + 1 ≤ m := BP2
                      have HC : Hid ((b' = -1 ∧ wds L L.length 0 [] = wds L f' m (acc ++ [⟨s', k, false⟩])) ∨ (0 ≤ b' ∧ b' ≤ L.length ∧ wds L L.length 0 [] = .ok (acc ++ [⟨s', k, false⟩], b'))) := Lib.hid (by
                        by_cases hn : b' < 0
                        · rw [if_pos hn] at HE
                          exact .inl ⟨by omega, HE⟩
                        · rw [if_neg hn] at HE
                          exact .inr ⟨by omega, by omega, HE⟩)
                      clear HE BP2 oa ba ra sa
                      go_wp2_with (at_builtin; refine wpList_append_eq rfl (.tmp 132) (.tmp 136) 57 rfl _ _ va wa rfl rfl RA.out ?_)
                      go_roundw
                      case rel => exact ⟨m, acc ++ [⟨s', k, false⟩], b', by omega, rfl, rfl, OA.out, by simp; omega, BA.out, HC.out.elim (fun u => .inl ⟨u.1, f', by omega, u.2⟩) .inr⟩
                      case measure => simp [intOf] <;> omega
          · have e2 : decide (bd < 0) = false := by rw [decide_eq_false_iff_not]; omega
            have HW := Lib.hid hw
            have bd1 : -1 ≤ bd ∧ bd ≤ L.length := by omega
            clear hw
            have SP := Lib.hid (spl_ok HW.out)
            have BE := Lib.hid (B1.out.trans (BB.out.mono B1.out.size))
            have OE := Lib.hid (OW.out.le B1.out.size)
            clear HW
            rw [HQ.out] at SP
            obtain ⟨d1, d2⟩ := bd1
            by_cases q1 : q < L.length
            · have p1 : decide ((q : Int) < (L.length : Int)) = true := by rw [decide_eq_true_iff]; omega
              by_cases q2 : bd < 0
              · first
                | (exfalso; omega; done)
                | (
                  have p2 : decide (bd < 0) = true := decide_eq_true q2
                  have HS : Hid (spl L = ([], (q : Int))) := Lib.hid (by rw [SP.out, if_pos ⟨q1, Or.inl q2⟩])
                  clear SP
                  have p4 : decide ((0 : Int) ≤ (q : Int)) = true := by rw [decide_eq_true_iff]; omega
                  go_wp2_with fail
                  exact bodyPost_ret (v := .tuple #[.slice none 0 0, .int .i64 q]) (by simp [results, Tryz.results29, go_sem]) rfl ⟨_, by rw [HL.out, HS.out], by rw [HL.out, HS.out]; exact OwnR.nil _ _, BE.out⟩)
              · have p2 : decide (bd < 0) = false := decide_eq_false q2
                by_cases q3 : (q : Int) < bd
                · have p3 : decide ((q : Int) < bd) = true := decide_eq_true q3
                  have HS : Hid (spl L = ([], (q : Int))) := Lib.hid (by rw [SP.out, if_pos ⟨q1, Or.inr q3⟩])
                  clear SP
                  have p4 : decide ((0 : Int) ≤ (q : Int)) = true := by rw [decide_eq_true_iff]; omega
                  go_wp2_with fail
                  exact bodyPost_ret (v := .tuple #[.slice none 0 0, .int .i64 q]) (by simp [results, Tryz.results29, go_sem]) rfl ⟨_, by rw [HL.out, HS.out], by rw [HL.out, HS.out]; exact OwnR.nil _ _, BE.out⟩
                · have p3 : decide ((q : Int) < bd) = false := decide_eq_false q3
                  have HS : Hid (spl L = ([], bd)) := Lib.hid (by rw [SP.out, if_neg (fun u => u.2.elim q2 q3), if_pos (by omega)])
                  clear SP
                  have p4 : decide ((0 : Int) ≤ bd) = true := by rw [decide_eq_true_iff]; omega
                  go_wp2_with fail
                  exact bodyPost_ret (v := .tuple #[.slice none 0 0, .int .i64 bd]) (by simp [results, Tryz.results29, go_sem]) rfl ⟨_, by rw [HL.out, HS.out], by rw [HL.out, HS.out]; exact OwnR.nil _ _, BE.out⟩
            · have p1 : decide ((q : Int) < (L.length : Int)) = false := by rw [decide_eq_false_iff_not]; omega
              by_cases q2 : bd < 0
              · first
                | (exfalso; omega; done)
                | (
                  have HS : Hid (spl L = (acc, -1)) := Lib.hid (by rw [SP.out, if_neg (fun u => q1 u.1), if_neg (by omega)])
                  clear SP
                  have p4 : decide ((0 : Int) ≤ bd) = false := by rw [decide_eq_false_iff_not]; omega
                  have p5 : decide (bd < 0) = true := decide_eq_true q2
                  go_wp2_with fail
                  exact bodyPost_ret (v := .tuple #[u7, .int .i64 (-1)]) (by simp [results, Tryz.results29, go_sem]) rfl ⟨_, by rw [HL.out, HS.out], by rw [HL.out, HS.out]; exact OE.out, BE.out⟩)
              · have HS : Hid (spl L = ([], bd)) := Lib.hid (by rw [SP.out, if_neg (fun u => q1 u.1), if_pos (by omega)])
                clear SP
                have p4 : decide ((0 : Int) ≤ bd) = true := by rw [decide_eq_true_iff]; omega
                have p5 : decide (bd < 0) = false := decide_eq_false q2
                go_wp2_with fail
                exact bodyPost_ret (v := .tuple #[.slice none 0 0, .int .i64 bd]) (by simp [results, Tryz.results29, go_sem]) rfl ⟨_, by rw [HL.out, HS.out], by rw [HL.out, HS.out]; exact OwnR.nil _ _, BE.out⟩
        · have f1 : decide ((k : Int) < (L.length : Int)) = false := by rw [decide_eq_false_iff_not]; omega
          have HW : Hid (wds L L.length 0 [] = .ok (acc, bd)) := Lib.hid (by
            rcases hd with ⟨rfl, f, hf, hw⟩ | ⟨_, _, hw⟩
            · rw [hw]
              cases f with
              | zero => rfl
              | succ f => rw [wds, if_neg c]
            · exact hw)
          have bd1 : -1 ≤ bd ∧ bd ≤ L.length := by rcases hd with ⟨rfl, _⟩ | ⟨_, _, _⟩ <;> omega
          clear hd
          have SP := Lib.hid (spl_ok HW.out)
          have BE := Lib.hid (B1.out.trans (BB.out.mono B1.out.size))
          have OE := Lib.hid (OW.out.le B1.out.size)
          clear HW
          rw [HQ.out] at SP
          obtain ⟨d1, d2⟩ := bd1
          by_cases q1 : q < L.length
          · have p1 : decide ((q : Int) < (L.length : Int)) = true := by rw [decide_eq_true_iff]; omega
            by_cases q2 : bd < 0
            · first
              | (exfalso; omega; done)
              | (
                have p2 : decide (bd < 0) = true := decide_eq_true q2
                have HS : Hid (spl L = ([], (q : Int))) := Lib.hid (by rw [SP.out, if_pos ⟨q1, Or.inl q2⟩])
                clear SP
                have p4 : decide ((0 : Int) ≤ (q : Int)) = true := by rw [decide_eq_true_iff]; omega
                go_wp2_with fail
                exact bodyPost_ret (v := .tuple #[.slice none 0 0, .int .i64 q]) (by simp [results, Tryz.results29, go_sem]) rfl ⟨_, by rw [HL.out, HS.out], by rw [HL.out, HS.out]; exact OwnR.nil _ _, BE.out⟩)
            · have p2 : decide (bd < 0) = false := decide_eq_false q2
              by_cases q3 : (q : Int) < bd
              · have p3 : decide ((q : Int) < bd) = true := decide_eq_true q3
                have HS : Hid (spl L = ([], (q : Int))) := Lib.hid (by rw [SP.out, if_pos ⟨q1, Or.inr q3⟩])
                clear SP
                have p4 : decide ((0 : Int) ≤ (q : Int)) = true := by rw [decide_eq_true_iff]; omega
                go_wp2_with fail
                exact bodyPost_ret (v := .tuple #[.slice none 0 0, .int .i64 q]) (by simp [results, Tryz.results29, go_sem]) rfl ⟨_, by rw [HL.out, HS.out], by rw [HL.out, HS.out]; exact OwnR.nil _ _, BE.out⟩
              · have p3 : decide ((q : Int) < bd) = false := decide_eq_false q3
                have HS : Hid (spl L = ([], bd)) := Lib.hid (by rw [SP.out, if_neg (fun u => u.2.elim q2 q3), if_pos (by omega)])
                clear SP
                have p4 : decide ((0 : Int) ≤ bd) = true := by rw [decide_eq_true_iff]; omega
                go_wp2_with fail
                exact bodyPost_ret (v := .tuple #[.slice none 0 0, .int .i64 bd]) (by simp [results, Tryz.results29, go_sem]) rfl ⟨_, by rw [HL.out, HS.out], by rw [HL.out, HS.out]; exact OwnR.nil _ _, BE.out⟩
          · have p1 : decide ((q : Int) < (L.length : Int)) = false := by rw [decide_eq_false_iff_not]; omega
            by_cases q2 : bd < 0
            · first
              | (exfalso; omega; done)
              | (
                have HS : Hid (spl L = (acc, -1)) := Lib.hid (by rw [SP.out, if_neg (fun u => q1 u.1), if_neg (by omega)])
                clear SP
                have p4 : decide ((0 : Int) ≤ bd) = false := by rw [decide_eq_false_iff_not]; omega
                have p5 : decide (bd < 0) = true := decide_eq_true q2
                go_wp2_with fail
                exact bodyPost_ret (v := .tuple #[u7, .int .i64 (-1)]) (by simp [results, Tryz.results29, go_sem]) rfl ⟨_, by rw [HL.out, HS.out], by rw [HL.out, HS.out]; exact OE.out, BE.out⟩)
            · have HS : Hid (spl L = ([], bd)) := Lib.hid (by rw [SP.out, if_neg (fun u => q1 u.1), if_pos (by omega)])
              clear SP
              have p4 : decide ((0 : Int) ≤ bd) = true := by rw [decide_eq_true_iff]; omega
              have p5 : decide (bd < 0) = false := decide_eq_false q2
              go_wp2_with fail
              exact bodyPost_ret (v := .tuple #[.slice none 0 0, .int .i64 bd]) (by simp [results, Tryz.results29, go_sem]) rfl ⟨_, by rw [HL.out, HS.out], by rw [HL.out, HS.out]; exact OwnR.nil _ _, BE.out⟩
end Go.Proofs.YtoecgabdjpgleaaGreatDoor.Wd
