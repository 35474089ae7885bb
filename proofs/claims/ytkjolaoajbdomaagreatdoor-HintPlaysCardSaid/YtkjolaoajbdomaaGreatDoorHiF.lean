/-
  The contracts of hint.Save and hint.Load over a disk in memory.
  Conditions: the tables and the errors that the calls read lie as the program's text lays them; no more than 80000 files.
-/
import Derived.Test.YtkjolaoajbdomaaGreatDoorHiE
namespace Go.Proofs.YtkjolaoajbdomaaGreatDoor.Hi
open Go.ChangeShapes Go.WideShapes Go.ChangeAt Go.RowKit Go.Joins By Ct Dk
set_option linter.unusedVariables false
set_option linter.unusedSimpArgs false

theorem rd1_err (s : Dk) {a : List UInt8} (ha : okN a = true) : (rd1 s a).2 = 0 ∨ (rd1 s a).2 = 4 ∨ (rd1 s a).2 = 5 ∨ (rd1 s a).2 = 50 := by
  unfold rd1
  rcases readE_of s ha with ⟨h', e⟩ | ⟨h', g, e⟩ | ⟨h', d, g, e, ed⟩
  · rw [e]; simp
  · rw [e]; simp
  · rw [e, ed]
    rcases prs_err (bt d) with q | q
    · simp [q]
    · simp [q]
set_option maxRecDepth 100000 in
set_option maxHeartbeats 8000000 in
theorem Load_c {w : World} {d : Nat} {s : Dk} {X : Nat → Prop} (G : Gt w) (h : Pm w d s X) :
    Calls Tryz.prog 10 #[.pointer (some ⟨d, 0, none⟩)] w fun e w' => e = .returned (.tuple #[.int .i64 (load s).1, .int .i64 (load s).2]) ∧ Below w.heap.size w w' := by
  have K1 : Hid (Calls Tryz.prog 29 #[.pointer (some ⟨d, 0, none⟩), .string ⟨#[100, 114, 105, 102, 116]⟩] w fun e w' => e = .returned (.tuple #[.int .i64 (rd1 s fN).1, .int .i64 (rd1 s fN).2]) ∧ Below w.heap.size w w') := Lib.hid (read_c (nm := ⟨#[100, 114, 105, 102, 116]⟩) G h)
  have K2 : Hid (∀ w1, Below w.heap.size w w1 → Calls Tryz.prog 29 #[.pointer (some ⟨d, 0, none⟩), .string ⟨#[100, 114, 105, 102, 116, 46, 111, 108, 100]⟩] w1 fun e w' => e = .returned (.tuple #[.int .i64 (rd1 s oN).1, .int .i64 (rd1 s oN).2]) ∧ Below w1.heap.size w1 w') := Lib.hid (fun w1 q => read_c (nm := ⟨#[100, 114, 105, 102, 116, 46, 111, 108, 100]⟩) (G.below q) (h.below q))
  obtain ⟨⟨r1, r2⟩, hR⟩ : ∃ R, load s = R := ⟨_, rfl⟩
  rw [hR]
  have E1 := Lib.hid (rd1_err s okf)
  have E2 := Lib.hid (rd1_err s oko)
  obtain ⟨⟨a1, e1⟩, h1⟩ : ∃ p, rd1 s fN = p := ⟨_, rfl⟩
  obtain ⟨⟨a2, e2⟩, h2⟩ : ∃ p, rd1 s oN = p := ⟨_, rfl⟩
  have HR : Hid ((r1, r2) = if e1 = 0 ∨ e1 = 50 then (a1, e1) else if e2 = 0 then (a2, e2) else ((0 : Int), (5 : Int))) := Lib.hid (by rw [← hR, load, h1, h2])
  rw [h1] at K1 E1
  rw [h2] at K2 E2
  dsimp only at K1 K2 E1 E2 ⊢
  clear hR h1 h2 G h
  go_enter Tryz.func10, Tryz.ntmps10
  go_wp2_with fail
  refine K1.out.mono ?_
  rintro e w1 ⟨rfl, hb⟩
  have B1 := Lib.hid hb
  clear hb K1
  have old : ¬ (e1 = 0 ∨ e1 = 50) → ((e1 == 0) = false ∧ (e1 == 1) = false ∧ (e1 == 50) = false) := fun q => by
    refine ⟨beq_eq_false_iff_ne.2 (fun z => q (.inl z)), beq_eq_false_iff_ne.2 ?_, beq_eq_false_iff_ne.2 (fun z => q (.inr z))⟩
    rcases E1.out with z | z | z | z <;> rw [z] <;> decide
  by_cases c : e1 = 0 ∨ e1 = 50
  · have hr := Lib.hid (HR.out.trans (if_pos c))
    have fin : ∀ w', Below w.heap.size w w' → Ending.returned (Value.tuple #[Value.int .i64 a1, Value.int .i64 e1]) = Ending.returned (Value.tuple #[Value.int .i64 r1, Value.int .i64 r2]) ∧ Below w.heap.size w w' := fun w' q => ⟨by obtain ⟨rfl, rfl⟩ := Prod.mk.inj hr.out; rfl, q⟩
    have FI := Lib.hid (fin w1 B1.out)
    clear fin hr HR old E1 E2
    rcases c with rfl | rfl
    · go_wp2_with fail
      exact bodyPost_ret (v := .tuple #[.int .i64 a1, .int .i64 0]) (by simp [results, Tryz.results10, go_sem]) rfl FI.out
    · go_wp2_with fail
      exact bodyPost_ret (v := .tuple #[.int .i64 a1, .int .i64 50]) (by simp [results, Tryz.results10, go_sem]) rfl FI.out
  · obtain ⟨t1, t2, t3⟩ := old c
    have hr := Lib.hid (HR.out.trans (if_neg c))
    clear HR old c
    go_wp2_with fail
    refine (K2.out w1 B1.out).mono ?_
    rintro e w2 ⟨rfl, hb⟩
    have B2 := Lib.hid (bstep B1.out hb)
    clear hb K2 B1
    by_cases c : e2 = 0
    · subst c
      have hr2 := Lib.hid (hr.out.trans (if_pos rfl))
      go_wp2_with fail
      exact bodyPost_ret (v := .tuple #[.int .i64 a2, .int .i64 0]) (by simp [results, Tryz.results10, go_sem]) rfl ⟨by obtain ⟨rfl, rfl⟩ := Prod.mk.inj hr2.out; rfl, B2.out⟩
    · have hr2 := Lib.hid (hr.out.trans (if_neg c))
      have t4 : (e2 != 0) = true := by simpa using c
      go_wp2_with fail
      exact bodyPost_ret (v := .tuple #[.int .i64 0, .int .i64 5]) (by simp [results, Tryz.results10, go_sem]) rfl ⟨by obtain ⟨rfl, rfl⟩ := Prod.mk.inj hr2.out; rfl, B2.out⟩
set_option maxRecDepth 100000 in
set_option maxHeartbeats 8000000 in
theorem aside_c {w : World} {d : Nat} {s : Dk} {X : Nat → Prop} (h : Pm w d s X) (hf : s.fs.length ≤ 90000) :
    Calls Tryz.prog 25 #[.pointer (some ⟨d, 0, none⟩)] w fun e w' => e = .returned (.int .i64 (asideE s)) ∧ Pt w w' d X (asideS s) := by
  have K1 : Hid (Calls Tryz.prog 22 #[.pointer (some ⟨d, 0, none⟩), .string ⟨#[100, 114, 105, 102, 116]⟩] w fun e w' => ∃ u, e = .returned (.tuple #[u, .int .i64 (readE s fN)]) ∧ Own w' w.heap.size u (readD s fN) ∧ Below w.heap.size w w') := Lib.hid (Read_c (nm := ⟨#[100, 114, 105, 102, 116]⟩) h)
  have K2 : Hid (∀ w1, Below w.heap.size w w1 → Calls Tryz.prog 26 #[.pointer (some ⟨d, 0, none⟩), .string ⟨#[100, 114, 105, 102, 116]⟩, .string ⟨#[100, 114, 105, 102, 116, 46, 111, 108, 100]⟩] w1 fun e w' => e = .returned (.int .i64 (renameE s fN oN)) ∧ Pt w1 w' d X (renameS s fN oN)) := Lib.hid (fun w1 q => Rename_c (na := ⟨#[100, 114, 105, 102, 116]⟩) (nb := ⟨#[100, 114, 105, 102, 116, 46, 111, 108, 100]⟩) (h.below q) hf)
  have H := Lib.hid h
  clear h hf
  rcases readE_of s okf with ⟨_, e⟩ | ⟨_, _, e⟩ | ⟨_, _, _, e, _⟩
  · have a1 : asideE s = 50 := by unfold asideE; rw [e]; rfl
    have a2 : asideS s = s := by unfold asideS; rw [e]; rfl
    rw [e] at K1
    rw [a1, a2]
    clear e a1 a2
    go_enter Tryz.func25, Tryz.ntmps25
    go_wp2_with fail
    refine K1.out.mono ?_
    rintro e w1 ⟨u, rfl, _, hb⟩
    have B1 := Lib.hid hb
    clear hb K1 K2
    go_wp2_with fail
    go_ret
    exact ⟨rfl, Pt.same H.out B1.out⟩
  · have a1 : asideE s = 0 := by unfold asideE; rw [e]; rfl
    have a2 : asideS s = s := by unfold asideS; rw [e]; rfl
    rw [e] at K1
    rw [a1, a2]
    clear e a1 a2
    go_enter Tryz.func25, Tryz.ntmps25
    go_wp2_with fail
    refine K1.out.mono ?_
    rintro e w1 ⟨u, rfl, _, hb⟩
    have B1 := Lib.hid hb
    clear hb K1 K2
    go_wp2_with fail
    go_ret
    exact ⟨rfl, Pt.same H.out B1.out⟩
  · have a1 : asideE s = renameE s fN oN := by unfold asideE; rw [e]; rfl
    have a2 : asideS s = renameS s fN oN := by unfold asideS; rw [e]; rfl
    rw [e] at K1
    rw [a1, a2]
    clear e a1 a2
    generalize renameE s fN oN = re at *
    go_enter Tryz.func25, Tryz.ntmps25
    go_wp2_with fail
    refine K1.out.mono ?_
    rintro e w1 ⟨u, rfl, _, hb⟩
    have B1 := Lib.hid hb
    clear hb K1
    go_wp2_with fail
    refine (K2.out w1 B1.out).mono ?_
    rintro e w2 ⟨rfl, hp⟩
    have P2 := Lib.hid (pt_ahead B1.out hp)
    clear hp K2
    go_wp2_with fail
    go_ret
    exact ⟨rfl, P2.out⟩
set_option maxRecDepth 100000 in
set_option maxHeartbeats 8000000 in
theorem Save_c {w : World} {d : Nat} {s : Dk} {X : Nat → Prop} {n : Int} (G : Gt w) (h : Pm w d s X) (hf : s.fs.length ≤ 80000) :
    Calls Tryz.prog 8 #[.pointer (some ⟨d, 0, none⟩), .int .i64 n] w fun e w' => e = .returned (.int .i64 (saveE s n)) ∧ Pt w w' d X (saveS s n) := by
  have H := Lib.hid h
  cases ho : okT n with
  | false =>
    have T := Lib.hid (Text_no w ho)
    have a1 : saveE s n = 2 := by unfold saveE; rw [if_pos ho]
    have a2 : saveS s n = s := by unfold saveS; rw [if_pos ho]
    rw [a1, a2]
    clear h hf ho a1 a2 G
    go_enter Tryz.func8, Tryz.ntmps8
    go_wp2_with fail
    refine T.out.mono ?_
    rintro e w1 ⟨rfl, rfl⟩
    go_wp2_with fail
    go_ret
    exact ⟨rfl, Pt.same H.out (brefl _)⟩
  | true =>
    have T := Lib.hid (Text_c w G ho)
    have tl : (txt n).length ≤ 27 := by rw [txt_len]; have := (itoa_len ho).1; omega
    obtain ⟨re, hre⟩ : ∃ re, saveE s n = re := ⟨_, rfl⟩
    obtain ⟨rs, hrs⟩ : ∃ rs, saveS s n = rs := ⟨_, rfl⟩
    rw [hre, hrs]
    have n0 : ¬ okT n = false := by rw [ho]; decide
    unfold saveE at hre
    unfold saveS at hrs
    rw [if_neg n0] at hre hrs
    have HE := Lib.hid hre
    have HS := Lib.hid hrs
    have L1 : Hid ((newS s n).fs.length ≤ 90000) := Lib.hid (by have := len_write s wN (nb (txt n)); unfold newS; omega)
    have L2 : Hid ((asideS (newS s n)).fs.length ≤ 90000) := Lib.hid (by
      have h1 := len_write s wN (nb (txt n))
      have h2 : (asideS (newS s n)).fs.length ≤ (newS s n).fs.length + 1 := by
        unfold asideS
        split
        · exact len_rename _ _ _
        · omega
      unfold newS at h2 ⊢
      omega)
    have K1 : Hid (∀ w1, Below w.heap.size w w1 → Calls Tryz.prog 16 #[.pointer (some ⟨d, 0, none⟩), .string ⟨#[100, 114, 105, 102, 116, 46, 110, 101, 119]⟩, .slice (some ⟨w1.heap.size, 0, none⟩) (⟨(txt n).toArray⟩ : ByteArray).size (grownCap w1 (⟨(txt n).toArray⟩ : ByteArray).size 0 5)] (Lib.bytesWorld w1 5 ⟨(txt n).toArray⟩) fun e w' => e = .returned (.int .i64 (writeE s wN (txt n).length)) ∧ Pt (Lib.bytesWorld w1 5 ⟨(txt n).toArray⟩) w' d X (newS s n)) := Lib.hid (fun w1 q => by
      have := Write_c (nm := ⟨#[100, 114, 105, 102, 116, 46, 110, 101, 119]⟩) ((H.out.below q).below (conv_below w1 ⟨(txt n).toArray⟩)) (by omega) (conv_sl w1 (txt n) (by omega)) (fun _ => by
        have hd := H.out.2.2.1 d H.out.2.1
        have := q.size
        simp [Value.ownBlock]
        omega)
      rw [nb_len] at this
      exact this)
    have CV := fun w1 => conv_str w1 ⟨(txt n).toArray⟩
    have CB := Lib.hid (fun w1 => conv_below w1 ⟨(txt n).toArray⟩)
    generalize writeE s wN (txt n).length = e1 at *
    generalize (⟨(txt n).toArray⟩ : ByteArray) = tx at *
    clear h hf ho n0 tl hre hrs
    go_enter Tryz.func8, Tryz.ntmps8
    go_wp2_with fail
    refine T.out.mono ?_
    rintro e w1 ⟨rfl, hb⟩
    have B1 := Lib.hid hb
    have CV1 := CV w1
    clear hb CV T
    go_wp2_with fail
    refine (K1.out w1 B1.out).mono ?_
    rintro e w2 ⟨rfl, hp⟩
    have P2 := Lib.hid (pt_ahead (bstep B1.out (CB.out w1)) hp)
    clear hp K1 CV1 CB B1
    by_cases c1 : e1 = 0
    · subst c1
      have he := Lib.hid ((if_neg (fun q => q rfl)).symm.trans HE.out)
      have hs := Lib.hid ((if_neg (fun q => q rfl)).symm.trans HS.out)
      clear HE HS
      generalize newS s n = s1 at *
      obtain ⟨X1, p1, x1, t1⟩ := P2.out
      have K2 := Lib.hid (aside_c p1 L1.out)
      have XX := Lib.hid x1
      have TT := Lib.hid t1
      clear p1 x1 t1 P2
      generalize asideE s1 = e2 at *
      generalize asideS s1 = s2 at *
      go_wp2_with fail
      refine K2.out.mono ?_
      rintro e w3 ⟨rfl, hp⟩
      have P3 := Lib.hid (pt_tr hp XX.out TT.out)
      clear hp K2 XX TT
      by_cases c2 : e2 = 0
      · subst c2
        have he2 := Lib.hid ((if_neg (fun q => q rfl)).symm.trans he.out)
        have hs2 := Lib.hid ((if_neg (fun q => q rfl)).symm.trans hs.out)
        obtain ⟨X3, p3, x3, t3⟩ := P3.out
        have K3 : Hid (Calls Tryz.prog 26 #[.pointer (some ⟨d, 0, none⟩), .string ⟨#[100, 114, 105, 102, 116, 46, 110, 101, 119]⟩, .string ⟨#[100, 114, 105, 102, 116]⟩] w3 fun e w' => e = .returned (.int .i64 (renameE s2 wN fN)) ∧ Pt w3 w' d X3 (renameS s2 wN fN)) := Lib.hid (Rename_c (na := ⟨#[100, 114, 105, 102, 116, 46, 110, 101, 119]⟩) (nb := ⟨#[100, 114, 105, 102, 116]⟩) p3 L2.out)
        have XX := Lib.hid x3
        have TT := Lib.hid t3
        clear p3 x3 t3 P3
        generalize renameE s2 wN fN = e3 at *
        generalize renameS s2 wN fN = s3 at *
        go_wp2_with fail
        refine K3.out.mono ?_
        rintro e w4 ⟨rfl, hp⟩
        have P4 := Lib.hid (pt_tr hp XX.out TT.out)
        clear hp K3 XX TT
        go_wp2_with fail
        go_ret
        exact ⟨by rw [he2.out]; rfl, by rw [← hs2.out]; exact P4.out⟩
      · have he2 := Lib.hid ((if_pos c2).symm.trans he.out)
        have hs2 := Lib.hid ((if_pos c2).symm.trans hs.out)
        have t2 : (e2 != 0) = true := by simpa using c2
        go_wp2_with fail
        go_ret
        exact ⟨by rw [he2.out]; rfl, by rw [← hs2.out]; exact P3.out⟩
    · have he := Lib.hid ((if_pos c1).symm.trans HE.out)
      have hs := Lib.hid ((if_pos c1).symm.trans HS.out)
      have t1 : (e1 != 0) = true := by simpa using c1
      go_wp2_with fail
      go_ret
      exact ⟨by rw [he.out]; rfl, by rw [← hs.out]; exact P2.out⟩
/-- the calls, on a disk of the call's own. -/
theorem Save_d {w0 w : World} {d : Nat} {s : Dk} {n : Int} (G : Gt w0) (h : Dm w0 w d s) (B : Below w0.heap.size w0 w) (hf : s.fs.length ≤ 80000) :
    Calls Tryz.prog 8 #[.pointer (some ⟨d, 0, none⟩), .int .i64 n] w fun e w' => e = .returned (.int .i64 (saveE s n)) ∧ Dm w0 w' d (saveS s n) ∧ Below w0.heap.size w0 w' := by
  obtain ⟨X, hp, hx⟩ := h
  exact (Save_c (G.below B) hp hf).mono fun e w' ⟨h1, h2⟩ => ⟨h1, h2.go B hx⟩
theorem Load_d {w0 w : World} {d : Nat} {s : Dk} (G : Gt w0) (h : Dm w0 w d s) (B : Below w0.heap.size w0 w) :
    Calls Tryz.prog 10 #[.pointer (some ⟨d, 0, none⟩)] w fun e w' => e = .returned (.tuple #[.int .i64 (load s).1, .int .i64 (load s).2]) ∧ Dm w0 w' d s ∧ Below w0.heap.size w0 w' := by
  have h' := h
  obtain ⟨X, hp, hx⟩ := h
  exact (Load_c (G.below B) hp).mono fun e w' ⟨h1, h2⟩ => ⟨h1, h'.below h2, bstep B h2⟩
end Go.Proofs.YtkjolaoajbdomaaGreatDoor.Hi
