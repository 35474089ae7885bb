/-
  The document's Cluster.
  Conditions: none but that the candidates and the numbers lie in memory.
-/
import Derived.Test.YtkmbeogmgehnfaaVoQ
import Derived.Test.YtkmbeogmgehnfaaVoE
import Derived.BigQuiet
import Derived.BigRegion
namespace Go.Proofs.Ytkmbeogmgehnfaa.Vo
open Go.RowKit Go.ChangeShapes Go.WideShapes Go.ChangeAt Go.Joins Fl Hu
set_option linter.unusedVariables false
set_option linter.unusedSimpArgs false

theorem OwnI.put {w : World} {base g cap : Nat} {n : Nat} {l : List Int} (h : OwnI w base (.slice (some ⟨g, 0, none⟩) n cap) l) (e : l.length = n) (k : Nat) (x : Int) : OwnI (w.setCell ⟨g, k, none⟩ (.int .i64 x)) base (.slice (some ⟨g, 0, none⟩) n cap) (l.set k x) := by
  subst e
  unfold OwnI at *
  have := (World.ownsRow.stored h k (.int .i64 x)).1
  rw [List.length_set]
  rw [show ct (l.set k x) = (ct l).set k (.int .i64 x) by unfold ct; rw [List.map_set]]
  exact this
theorem OwnI.opens {w : World} {base : Nat} {v : Value} {l : List Int} (h : OwnI w base v l) (hl : 0 < l.length) : ∃ g cap, v = .slice (some ⟨g, 0, none⟩) l.length cap ∧ base ≤ g ∧ g < w.heap.size ∧ l.length ≤ cap ∧ cap ≤ 9223372036854775807 := by
  rcases h.2 with ⟨hv, h0⟩ | ⟨g, cap, cur, hv, hb, hh, hc, hm, _⟩
  · omega
  · exact ⟨g, cap, hv, hb, (Array.getElem?_eq_some_iff.1 hh).1, hc, by unfold maxLen at hm; omega⟩
theorem OwnI.cell {w : World} {base g n cap : Nat} {l : List Int} (h : OwnI w base (.slice (some ⟨g, 0, none⟩) n cap) l) (e : l.length = n) {k : Nat} {x : Int} (hk : l[k]? = some x) : w.cell? ⟨g, k, none⟩ = some (.int .i64 x) ∧ w.frozen? ⟨g, k, none⟩ = false := by
  subst e
  have i := h.is
  obtain ⟨b, off, ea, c⟩ := Is.at i hk
  have ht := World.ownsRow.frozenAt h k
  refine ⟨?_, ht⟩
  obtain ⟨a', cap', e', _, _, h3⟩ := i
  rcases h.2 with ⟨hv, _⟩ | ⟨g', cap'', cur, hv, hb, hh, hc, hm, hs, htk⟩
  · cases hv
  · simp only [Value.slice.injEq, Option.some.injEq, Addr.mk.injEq, and_true, true_and] at ea hv
    obtain ⟨rfl, rfl⟩ := ea
    rwa [Nat.zero_add] at c
theorem snoc_cases (A : List Nat) : A = [] ∨ ∃ A' y, A = A' ++ [y] := by
  rcases List.eq_nil_or_concat A with h | ⟨a, b, h⟩
  · exact .inl h
  · exact .inr ⟨a, b, by rw [h, List.concat_eq_append]⟩
theorem not_front {N : List Nat} (h : N.Nodup) {i x : Nat} (hx : N[i]? = some x) : x ∉ N.take i := by
  intro q
  have z : (N.take (i + 1)).Nodup := h.sublist (List.take_sublist ..)
  rw [take_more hx, List.nodup_append] at z
  exact z.2.2 x q x (by simp) rfl
theorem swap_put (A B : List Nat) (a x : Nat) : ((A ++ a :: x :: B).set (A.length + 1) a).set A.length x = A ++ x :: a :: B := by
  rw [List.set_append_right _ _ (by omega), show A.length + 1 - A.length = 1 by omega, List.set_append_right _ _ (by omega), Nat.sub_self]
  rfl
theorem ints_set (l : List Nat) (k x : Nat) : (ints l).set k (x : Int) = ints (l.set k x) := by unfold ints; rw [List.map_set]
/-- what Cluster answers. -/
def KP (w : World) (L : List Cd) (S : List Int) (e : Ending) (w' : World) : Prop :=
  ∃ v' T, e = .returned (.tuple #[v', .int .i64 (clE L S)]) ∧ OwnI w' w.heap.size v' (ints T) ∧ (clE L S ≠ 0 → T = []) ∧ (clE L S = 0 → ∀ N, S = ints N → Surv L N T)
theorem KP_bad {w w' : World} {L : List Cd} {S : List Int} {c : Int} (h : clE L S = c) (hc : c ≠ 0) : KP w L S (.returned (.tuple #[.slice none 0 0, .int .i64 c])) w' :=
  ⟨_, [], by rw [h], OwnI.nil _ _, fun _ => rfl, fun q => absurd (h ▸ q) hc⟩
def lenOf : Value → Nat
  | .slice _ n _ => n
  | _ => 0
/-- the greatest select jitter among the first i, and where. -/
def WP (L : List Cd) (T : List Nat) (i : Nat) (wo : Nat) (mo : Int) : Prop :=
  (∀ (j y : Nat), j < i → T[j]? = some y → sj L T y ≤ mo) ∧ ((i = 0 ∧ wo = 0 ∧ mo = -1) ∨ ∃ n, wo < i ∧ T[wo]? = some n ∧ mo = sj L T n ∧ ∀ (j y : Nat), wo < j → j < i → T[j]? = some y → sj L T y < mo)
theorem WP.start (L : List Cd) (T : List Nat) : WP L T 0 0 (-1) := ⟨fun j y h => absurd h (by omega), .inl ⟨rfl, rfl, rfl⟩⟩
theorem WP.yes {L : List Cd} {T : List Nat} {i wo x : Nat} {mo : Int} (h : WP L T i wo mo) (hx : T[i]? = some x) (q : mo ≤ sj L T x) : WP L T (i + 1) i (sj L T x) := by
  refine ⟨fun j y hj hy => ?_, .inr ⟨x, by omega, hx, rfl, fun j y h1 h2 => absurd h1 (by omega)⟩⟩
  by_cases c : j < i
  · have := h.1 j y c hy; omega
  · obtain rfl : j = i := by omega
    rw [hx] at hy; cases hy; omega
theorem WP.no {L : List Cd} {T : List Nat} {i wo x : Nat} {mo : Int} (h : WP L T i wo mo) (hx : T[i]? = some x) (q : ¬ mo ≤ sj L T x) (nn : 0 ≤ sj L T x) : WP L T (i + 1) wo mo := by
  obtain ⟨h1, h2⟩ := h
  refine ⟨fun j y hj hy => ?_, ?_⟩
  · by_cases c : j < i
    · exact h1 j y c hy
    · obtain rfl : j = i := by omega
      rw [hx] at hy; cases hy; omega
  · rcases h2 with ⟨rfl, _, rfl⟩ | ⟨n, a, b, c, d⟩
    · omega
    · refine .inr ⟨n, by omega, b, c, fun j y p1 p2 hy => ?_⟩
      by_cases c' : j < i
      · exact d j y p1 c' hy
      · obtain rfl : j = i := by omega
        rw [hx] at hy; cases hy; omega
theorem WP.done {L : List Cd} {T : List Nat} {wo : Nat} {mo : Int} (h : WP L T T.length wo mo) (hp : 0 < T.length) : IsW L T wo ∧ ∃ n, T[wo]? = some n ∧ mo = sj L T n := by
  obtain ⟨h1, h2⟩ := h
  rcases h2 with ⟨q, _⟩ | ⟨n, a, b, c, d⟩
  · omega
  · refine ⟨⟨n, b, fun i y hy => c ▸ h1 i y (List.getElem?_eq_some_iff.1 hy).1 hy, fun i y hi hy => c ▸ d i y hi (List.getElem?_eq_some_iff.1 hy).1 hy⟩, n, b, c⟩
theorem er_yes {T : List Nat} {i x w : Nat} (hx : T[i]? = some x) (q : i ≠ w) : (T.take (i + 1)).eraseIdx w = (T.take i).eraseIdx w ++ [x] := by
  have li : (T.take i).length = i := by rw [List.length_take]; have := (List.getElem?_eq_some_iff.1 hx).1; omega
  rw [take_more hx]
  by_cases c : w < i
  · rw [List.eraseIdx_append_of_lt_length (by omega)]
  · rw [List.eraseIdx_append_of_length_le (by omega), List.eraseIdx_of_length_le (l := [x]) (by simp; omega), List.eraseIdx_of_length_le (l := T.take i) (by omega)]
theorem er_no {T : List Nat} {i x w : Nat} (hx : T[i]? = some x) (q : i = w) : (T.take (i + 1)).eraseIdx w = (T.take i).eraseIdx w := by
  subst q
  have li : (T.take i).length = i := by rw [List.length_take]; have := (List.getElem?_eq_some_iff.1 hx).1; omega
  rw [take_more hx, List.eraseIdx_append_of_length_le (by omega), li, Nat.sub_self, List.eraseIdx_of_length_le (l := T.take i) (by omega)]
  simp
theorem sj_nn (L : List Cd) (T : List Nat) (x : Nat) (h : 1 < T.length) : 0 ≤ sj L T x := by
  unfold sj sF
  exact Int.ediv_nonneg (by
    have := sm_bd (f := fun n => far (cd L x).off (cd L n).off) (lo := 0) (hi := 0 + sm (fun n => far (cd L x).off (cd L n).off) T) (N := [])
    clear this
    have q : sm (fun _ => 0) T ≤ sm (fun n => far (cd L x).off (cd L n).off) T := sm_mono fun n _ => far_nn _ _
    have z : sm (fun _ => 0) T = 0 := by
      have := sm_mul (fun _ => 0) 0 T
      simpa using this
    omega) (by omega)
set_option maxRecDepth 100000 in
set_option maxHeartbeats 16000000 in
theorem rCluster_c {w : World} {v sv : Value} {L : List Cd} {S : List Int} (h : Cs w v L) (hs : Is w sv S) (hn : L.length ≤ 8796093022208) (hn2 : S.length ≤ 35184372088832) :
    Calls Try.prog 11 #[v, sv] w fun e w' => KP w L S e w' ∧ Below w.heap.size w w' := by
  have CK := Lib.hid (rCheck_c h hs hn hn2)
  by_cases z : chE L S = 0
  · obtain ⟨ok, N, rfl, hN, nd⟩ := chE_ok z
    rw [z] at CK
    by_cases e0 : N = []
    · subst e0
      have CE : Hid (clE L (ints []) = 5) := Lib.hid (by unfold clE; rw [if_pos z, if_pos (show ints [] = [] from rfl)])
      obtain ⟨a, cap, rfl, c1, c2, _⟩ := h
      obtain ⟨sa, sc, rfl, p1, p2, _⟩ := hs
      generalize L.length = m at *
      rw [show (ints []).length = 0 from rfl] at CK p1 ⊢
      go_enter Try.func11, Try.ntmps11
      go_wp2_with fail
      refine CK.out.mono ?_
      rintro e w1 ⟨rfl, hb⟩
      have B1 := Lib.hid hb
      clear hb CK
      go_wp2_with fail
      go_ret2
      exact ⟨KP_bad CE.out (by decide), B1.out⟩
    · have CE : Hid (clE L (ints N) = 0) := Lib.hid (by unfold clE; rw [if_pos z, if_neg (fun q => e0 (by cases N with | nil => rfl | cons x r => cases q))])
      have FN : Hid (∀ T s0 v' w', Srt L N s0 → Red L s0 T → OwnI w' w.heap.size v' (ints T) → KP w L (ints N) (.returned (.tuple #[v', .int .i64 0])) w') := Lib.hid fun T s0 v' w' a b c =>
        ⟨v', T, by rw [CE.out], c, fun q => absurd CE.out q, fun _ N' e => by rw [← ints_inj e]; exact ⟨s0, a, b⟩⟩
      have HS := Lib.hid h
      have HZ := Lib.hid hs
      have OK := Lib.hid ok
      have LT := Lib.hid hN
      have ND := Lib.hid nd
      have n32 : N.length ≤ 32 := Nat.le_trans (nodup_le hN nd) ok.2
      have l32 := ok.2
      have np : 0 < N.length := List.length_pos_iff.2 e0
      have AH := Lib.hid (fun w' (b : Below w.heap.size w w') i k hi hk => rAhead_c (h.below b) ok i k hi hk)
      obtain ⟨a, cap, rfl, c1, c2, _⟩ := h
      obtain ⟨sa, sc, rfl, p1, p2, _⟩ := hs
      obtain ⟨m, hm⟩ : ∃ m, L.length = m := ⟨_, rfl⟩
      obtain ⟨n, hsn⟩ : ∃ n, N.length = n := ⟨_, rfl⟩
      have HM := Lib.hid hm
      have HN := Lib.hid hsn
      rw [ints_len, hsn] at HZ CK p1 ⊢
      rw [hm] at HS CK AH c1 l32 ⊢
      rw [hsn] at n32 np
      have m0 : (0 : Int) ≤ (m : Int) := by omega
      have m1 : (m : Int) ≤ 32 := by omega
      have m2 : (m : Int) ≤ (cap : Int) := by omega
      have m3 : (cap : Int) ≤ 9223372036854775807 := by omega
      have n0 : (0 : Int) < (n : Int) := by omega
      have n1 : (n : Int) ≤ 32 := by omega
      have n2 : (n : Int) ≤ (sc : Int) := by omega
      have n3 : (sc : Int) ≤ 9223372036854775807 := by omega
      have nz : ((n : Int) == 0) = false := by rw [beq_eq_false_iff_ne]; omega
      clear ok hN nd e0 hm hsn z hn hn2 CE
      go_enter Try.func11, Try.ntmps11
      go_wp2_with fail
      refine CK.out.mono ?_
      rintro e w1 ⟨rfl, hb⟩
      have B1 := Lib.hid hb
      clear hb CK
      go_wp2_with fail
      go_loopw [7, 8, 9, 10] (fun tv iv _ _ wr => ∃ (i : Nat) (T : List Nat), i ≤ n ∧ iv = .int .i64 (i : Nat) ∧ OwnI wr w.heap.size tv (ints T) ∧ Srt L (N.take i) T ∧ Below w.heap.size w wr) (fun _ iv _ _ _ => n - (intOf iv).toNat)
      case atStart => exact ⟨0, [], by omega, rfl, OwnI.nil _ _, ⟨by simp, List.Pairwise.nil⟩, B1.out⟩
      case round =>
        obtain ⟨i, T, hi, rfl, hT, hso, hb⟩ := hrel
        rename World => wr
        have HB := Lib.hid hb
        have TW := Lib.hid hT
        have SO := Lib.hid hso
        clear hb hT hso B1
        by_cases c : i < n
        · have e1 : decide ((i : Int) < (n : Int)) = true := decide_eq_true (by omega)
          have e2 : decide (i < n) = true := decide_eq_true c
          have i1 : (i : Int) < (n : Int) := by omega
          have i0 : (0 : Int) ≤ (i : Int) := by omega
          have wi : IntKind.i64.wrap ((i : Int) + 1) = (i : Int) + 1 := wrap_in (by omega) (by omega)
          obtain ⟨x, hx⟩ : ∃ x, N[i]? = some x := ⟨_, List.getElem?_eq_getElem (by rw [HN.out]; exact c)⟩
          have HX := Lib.hid hx
          have xl : x < m := by rw [← HM.out]; exact LT.out x (List.mem_of_getElem? hx)
          have NF := Lib.hid (not_front ND.out hx)
          have tlen : T.length = i := by have := SO.out.1.length_eq; rw [List.length_take, HN.out] at this; omega
          obtain ⟨sb, so, rfl, y0⟩ := (HZ.out.below HB.out).at (ints_at hx)
          obtain ⟨ta, tc, etv⟩ := TW.out.form
          obtain ⟨v', w2, hr, o2, b2, _⟩ := appI TW.out (x : Int) HB.out.size (by rw [ints_len]; omega) 23
          rw [show ints T ++ [(x : Int)] = ints (T ++ [x]) by rw [ints_app]; rfl] at o2
          obtain ⟨g, gc, egv, g1, g2, g3, g4⟩ := o2.opens (by rw [ints_len]; simp)
          rw [ints_len, List.length_append, List.length_singleton, tlen] at egv g3
          rw [ints_len, tlen] at etv
          subst etv
          subst egv
          have gi : (i : Int) + 1 ≤ (gc : Int) := by omega
          have gz : (gc : Int) ≤ 9223372036854775807 := by omega
          have HR := Lib.hid hr
          have O2 := Lib.hid o2
          have B2 := Lib.hid (HB.out.trans b2)
          have G1 := Lib.hid g1
          have TL := Lib.hid tlen
          clear hx hr o2 b2 g1 g2 g3 g4 tlen
          go_upto_region 12 with (first | (at_builtin; refine wpList_append_eqL rfl _ _ 23 rfl _ _ _ w2 rfl rfl HR.out ?_))
          clear HR TW HB y0
          go_loopw [9, 10] (fun kv _ wx => ∃ (A B : List Nat), T = A ++ B ∧ kv = .int .i64 (A.length : Nat) ∧ (∀ b ∈ B, Ah L x b) ∧ OwnI wx w.heap.size (.slice (some ⟨g, 0, none⟩) (i + 1) gc) (ints (A ++ x :: B)) ∧ Below w.heap.size w wx) (fun kv _ _ => (intOf kv).toNat)
          case atStart => exact ⟨T, [], by simp, by rw [TL.out], by simp, O2.out, B2.out⟩
          case round =>
            obtain ⟨A, B, hAB, rfl, hB, hO, hb⟩ := hrel
            rename World => wx
            have AB := Lib.hid hAB
            have HBB := Lib.hid hB
            have OX := Lib.hid hO
            have BX := Lib.hid hb
            have lAB : A.length + B.length = i := by rw [← TL.out, hAB, List.length_append]
            have LEN : Hid ((ints (A ++ x :: B)).length = i + 1) := Lib.hid (by rw [ints_len, List.length_append, List.length_cons]; omega)
            clear hAB hB hO hb O2 B2
            rcases snoc_cases A with rfl | ⟨A', y, rfl⟩
            · have SN : Hid (Srt L (N.take (i + 1)) ([] ++ x :: B)) := Lib.hid (by rw [take_more HX.out]; exact srt_ins (AB.out ▸ SO.out) NF.out (.inl rfl) HBB.out)
              rw [show (([] : List Nat).length : Nat) = 0 from rfl]
              go_upto_region 12 with fail
              go_quiet (fail)
              go_wp2_with fail
              exact ⟨⟨i + 1, _, by omega, by go_num, OX.out, SN.out, bdrew BX.out _⟩, by simp [intOf]; omega⟩
            · obtain ⟨j, hj⟩ : ∃ j, A'.length = j := ⟨_, rfl⟩
              have HJ := Lib.hid hj
              have yT : y ∈ T := by rw [AB.out]; simp
              have yN : y ∈ N := List.mem_of_mem_take (SO.out.1.mem_iff.1 yT)
              have yl : y < m := by rw [← HM.out]; exact LT.out y yN
              have xy : x ≠ y := fun e => NF.out (SO.out.1.mem_iff.1 (e ▸ yT))
              have XY := Lib.hid xy
              have cxy : Hid (∀ W, Below wx.heap.size wx W → (W.cell? ⟨g, j, none⟩ = some (.int .i64 (y : Nat)) ∧ W.frozen? ⟨g, j, none⟩ = false) ∧ W.cell? ⟨g, j + 1, none⟩ = some (.int .i64 (x : Nat)) ∧ W.frozen? ⟨g, j + 1, none⟩ = false) := Lib.hid fun W q => by
                have OW := ownI_below OX.out q
                refine ⟨OW.cell LEN.out (ints_at ?_), OW.cell LEN.out (ints_at ?_)⟩
                · rw [List.append_assoc, List.getElem?_append_right (by omega), hj, Nat.sub_self]; rfl
                · rw [List.append_assoc, List.getElem?_append_right (by omega), hj, show j + 1 - j = 1 by omega]; rfl
              have AC := Lib.hid (fun w' b => AH.out w' b x y xl yl)
              have hl : (A' ++ [y]).length = j + 1 := by rw [List.length_append, hj]; rfl
              rw [hl]
              rw [hl] at lAB
              have j0 : (0 : Int) ≤ (j : Int) := by omega
              have j1 : (0 : Int) < (j : Int) + 1 := by omega
              have j2 : (j : Int) < (i : Int) + 1 := by omega
              have j3 : (j : Int) + 1 < (i : Int) + 1 := by omega
              have j4 : j < i := by omega
              have j5 : j ≤ i := by omega
              have j6 : (j : Int) < (i : Int) := by omega
              have j7 : (j : Int) ≤ (i : Int) := by omega
              have j8 : (0 : Int) ≤ (j : Int) + 1 := by omega
              have j9 : (i : Int) + 1 ≤ (gc : Int) := gi
              have wj2 : IntKind.i64.wrap ((j : Int) + 1 - 1) = (j : Int) := by rw [Int.add_sub_cancel]; exact wrap_in (by omega) (by omega)
              have wj : IntKind.i64.wrap (j : Int) = (j : Int) := wrap_in (by omega) (by omega)
              clear hj xy yT yN
              have KP : Hid (∀ W, Below wx.heap.size wx W → W.cell? ⟨g, j, none⟩ = some (.int .i64 (y : Nat)) ∧ W.cell? ⟨g, j + 1, none⟩ = some (.int .i64 (x : Nat))) := Lib.hid fun W q => ⟨(cxy.out W q).1.1, (cxy.out W q).2.1⟩
              have AD : Hid (∀ W, Below wx.heap.size wx W → Calls Try.prog 28 #[.slice a m cap, .int .i64 (x : Nat), .int .i64 (y : Nat)] W fun e w' => e = .returned (.bool (decide (Ah L x y))) ∧ Below W.heap.size W w') := Lib.hid fun W q => AC.out W (bstep BX.out q)
              have hb0 : Below wx.heap.size wx wx.drew := (brefl wx).drew
              clear AC
              by_cases q : Ah L x y
              · rw [decide_eq_true q] at AD
                go_upto_region 12 with fail
                go_region_held3 (fun W => W.cell? ⟨g, j, none⟩ = some (.int .i64 (y : Nat)) ∧ W.cell? ⟨g, j + 1, none⟩ = some (.int .i64 (x : Nat)))
                  (first | exact KP.out _ (by assumption))
                  (first | (go_at_call 28; (with_reducible refine (AD.out _ (by assumption)).mono ?_); rintro e w4 ⟨rfl, hb⟩; replace hb := bstep (by assumption : Below wx.heap.size wx _) hb))
                rename World => w4
                rename Below wx.heap.size wx w4 => hbx
                clear hb0 KP AD
                have B4 := Lib.hid (bstep BX.out hbx)
                obtain ⟨⟨p0, p1'⟩, p2', p3⟩ := cxy.out _ hbx
                have O4 := Lib.hid (ownI_below OX.out hbx)
                have O5 : Hid (OwnI ((w4.setCell ⟨g, j + 1, none⟩ (.int .i64 (y : Nat))).setCell ⟨g, j, none⟩ (.int .i64 (x : Nat))) w.heap.size (.slice (some ⟨g, 0, none⟩) (i + 1) gc) (ints (A' ++ x :: y :: B))) := Lib.hid (by
                  have := (O4.out.put LEN.out (j + 1) (y : Int)).put (by rw [List.length_set]; exact LEN.out) j (x : Int)
                  rw [ints_set, ints_set, ← List.append_cons, ← HJ.out, swap_put] at this
                  rw [HJ.out] at this
                  exact this)
                have B5 := Lib.hid (below_set (below_set B4.out G1.out (j + 1) (.int .i64 (y : Nat))) G1.out j (.int .i64 (x : Nat)))
                clear hbx
                go_wp2_with fail
                exact ⟨⟨A', y :: B, by rw [AB.out]; simp, by rw [HJ.out], fun b hb => by rcases List.mem_cons.1 hb with rfl | hb; exact q; exact HBB.out b hb, O5.out, B5.out⟩, by simp [intOf]⟩
              · rw [decide_eq_false q] at AD
                have SN : Hid (Srt L (N.take (i + 1)) ((A' ++ [y]) ++ x :: B)) := Lib.hid (by rw [take_more HX.out]; exact srt_ins (by have := SO.out; rwa [AB.out] at this) NF.out (.inr ⟨y, by simp, q⟩) HBB.out)
                go_upto_region 12 with fail
                go_region_held3 (fun W => W.cell? ⟨g, j, none⟩ = some (.int .i64 (y : Nat)) ∧ W.cell? ⟨g, j + 1, none⟩ = some (.int .i64 (x : Nat)))
                  (first | exact KP.out _ (by assumption))
                  (first | (go_at_call 28; (with_reducible refine (AD.out _ (by assumption)).mono ?_); rintro e w4 ⟨rfl, hb⟩; replace hb := bstep (by assumption : Below wx.heap.size wx _) hb))
                rename World => w4
                rename Below wx.heap.size wx w4 => hbx
                clear hb0 KP AD
                have B4 := Lib.hid (bstep BX.out hbx)
                have O4 := Lib.hid (ownI_below OX.out hbx)
                clear hbx
                go_wp2_with fail
                exact ⟨⟨i + 1, _, by omega, by go_num, O4.out, SN.out, B4.out⟩, by simp [intOf]; omega⟩
        · have e1 : decide ((i : Int) < (n : Int)) = false := decide_eq_false (by omega)
          have e2 : decide (i < n) = false := decide_eq_false c
          obtain rfl : i = n := by omega
          have ST : Hid (Srt L N T) := Lib.hid (by have := SO.out; rwa [List.take_of_length_le (by rw [HN.out]; exact Nat.le_refl _)] at this)
          go_wp2_with fail
          have tl32 : T.length ≤ 32 := by rw [ST.out.1.length_eq, HN.out]; omega
          have TV : Hid (∀ y ∈ T, y < L.length) := Lib.hid fun y hy => LT.out y (ST.out.1.mem_iff.1 hy)
          clear SO
          go_loopw [7, 11, 12, 13, 14, 15, 16, 17, 18, 19] (fun tv _ _ _ _ _ _ _ _ _ w2 => ∃ R : List Nat, OwnI w2 w.heap.size tv (ints R) ∧ (∀ t, Red L R t → Red L T t) ∧ (∀ y ∈ R, y < L.length) ∧ R.length ≤ 32 ∧ Below w.heap.size w w2) (fun tv _ _ _ _ _ _ _ _ _ _ => lenOf tv)
          case atStart => exact ⟨T, TW.out, fun t q => q, TV.out, tl32, HB.out⟩
          case round =>
            obtain ⟨R, hR, hRed, hV, h32, hb⟩ := hrel
            rename World => w2
            have RW := Lib.hid hR
            have RD := Lib.hid hRed
            have RV := Lib.hid hV
            have B2 := Lib.hid hb
            obtain ⟨ra, rc, erv⟩ := hR.form
            obtain ⟨r, hr⟩ : ∃ r, R.length = r := ⟨_, rfl⟩
            have HRL := Lib.hid hr
            rw [ints_len, hr] at erv
            subst erv
            rw [hr] at h32
            have r1 : (r : Int) ≤ 32 := by omega
            have r0 : (0 : Int) ≤ (r : Int) := by omega
            clear hR hRed hV hb hr TW TV HB
            by_cases c3 : 3 < r
            · have d1 : decide ((3 : Int) < (r : Int)) = true := decide_eq_true (by omega)
              have d2 : decide (3 < r) = true := decide_eq_true c3
              have r3 : (3 : Int) < (r : Int) := by omega
              have wr1 : IntKind.i64.wrap ((r : Int) - 1) = (r : Int) - 1 := wrap_in (by omega) (by omega)
              obtain ⟨g, gc, erv, g1, g2, g3, g4⟩ := RW.out.opens (by rw [ints_len, HRL.out]; omega)
              rw [ints_len, HRL.out] at erv g3
              cases erv
              have r4 : (r : Int) ≤ (rc : Int) := by omega
              have r5 : (rc : Int) ≤ 9223372036854775807 := by omega
              have RC : Hid (∀ W, Below w2.heap.size w2 W → ∀ k y, R[k]? = some y → W.cell? ⟨g, k, none⟩ = some (.int .i64 (y : Nat))) := Lib.hid fun W q k y hy => ((ownI_below RW.out q).cell (by rw [ints_len, HRL.out]) (ints_at hy)).1
              clear g1 g2 g3 g4
              go_wp2_with fail
              go_loopw [11, 12, 13, 14, 15, 16, 17] (fun wv mv lv iv _ _ _ w3 => ∃ (k wo : Nat) (mo : Int), k ≤ r ∧ iv = .int .i64 (k : Nat) ∧ wv = .int .i64 (wo : Nat) ∧ mv = .int .i64 mo ∧ lv = .int .i64 (lj L (R.take k)) ∧ WP L R k wo mo ∧ Below w2.heap.size w2 w3) (fun _ _ _ iv _ _ _ _ => r - (intOf iv).toNat)
              case atStart => exact ⟨0, 0, -1, by omega, rfl, rfl, rfl, rfl, WP.start L R, brefl w2⟩
              case round =>
                obtain ⟨k, wo, mo, hk, rfl, rfl, rfl, rfl, hwp, hb⟩ := hrel
                rename World => w3
                have WK := Lib.hid hwp
                have B3 := Lib.hid hb
                clear hwp hb
                by_cases ck : k < r
                · have f1 : decide ((k : Int) < (r : Int)) = true := decide_eq_true (by omega)
                  have f2 : decide (k < r) = true := decide_eq_true ck
                  have k1 : (k : Int) < (r : Int) := by omega
                  have k0 : (0 : Int) ≤ (k : Int) := by omega
                  have wk : IntKind.i64.wrap ((k : Int) + 1) = (k : Int) + 1 := wrap_in (by omega) (by omega)
                  obtain ⟨x, hx⟩ : ∃ x, R[k]? = some x := ⟨_, List.getElem?_eq_getElem (by rw [HRL.out]; exact ck)⟩
                  have HX := Lib.hid hx
                  have xL : x < L.length := RV.out x (List.mem_of_getElem? hx)
                  have XA := Lib.hid (cd_at xL)
                  have XO := Lib.hid (cd_ok OK.out xL)
                  have xl : x < m := by rw [← HM.out]; exact xL
                  have xi : (x : Int) < (m : Int) := by omega
                  have x0 : (0 : Int) ≤ (x : Int) := by omega
                  have LS : Hid (lj L (R.take (k + 1)) = min (lj L (R.take k)) (cd L x).jit) := Lib.hid (by rw [take_more hx, lj_snoc])
                  clear hx xL
                  go_wp2_with fail
                  go_loopw [15, 16] (fun sv kv w4 => ∃ l : Nat, l ≤ r ∧ kv = .int .i64 (l : Nat) ∧ sv = .int .i64 (sF L (R.take l) (cd L x).off) ∧ Below w2.heap.size w2 w4) (fun _ kv _ => r - (intOf kv).toNat)
                  case atStart => exact ⟨0, by omega, rfl, rfl, B3.out⟩
                  case round =>
                    obtain ⟨l, hl, rfl, rfl, hb⟩ := hrel
                    rename World => w4
                    have B4 := Lib.hid hb
                    clear hb
                    have bs := sm_bd (f := fun n => far (cd L x).off (cd L n).off) (lo := 0) (hi := 137438953472) (N := R.take l) (fun n hn => far_in XO.out.1 (cd_ok OK.out (RV.out n (List.mem_of_mem_take hn))).1)
                    rw [List.length_take, Nat.min_eq_left (by rw [HRL.out]; omega)] at bs
                    by_cases cl : l < r
                    · have p1 : decide ((l : Int) < (r : Int)) = true := decide_eq_true (by omega)
                      have p2 : decide (l < r) = true := decide_eq_true cl
                      have l1 : (l : Int) < (r : Int) := by omega
                      have l0 : (0 : Int) ≤ (l : Int) := by omega
                      have wl : IntKind.i64.wrap ((l : Int) + 1) = (l : Int) + 1 := wrap_in (by omega) (by omega)
                      obtain ⟨y, hy⟩ : ∃ y, R[l]? = some y := ⟨_, List.getElem?_eq_getElem (by rw [HRL.out]; exact cl)⟩
                      have yL : y < L.length := RV.out y (List.mem_of_getElem? hy)
                      have yA := cd_at yL
                      have yo := (cd_ok OK.out yL).1
                      have yi : (y : Int) < (m : Int) := by rw [← HM.out]; omega
                      have y0 : (0 : Int) ≤ (y : Int) := by omega
                      have xo := XO.out.1
                      have SS : Hid (sF L (R.take (l + 1)) (cd L x).off = sF L (R.take l) (cd L x).off + far (cd L x).off (cd L y).off) := Lib.hid (sm_snoc _ hy)
                      have FC := Lib.hid (fun w => rFar_c (cd L x).off (cd L y).off w (by omega) (by omega))
                      have fb := far_in xo yo
                      have z1 := RC.out _ B4.out k x HX.out
                      have z2 := RC.out _ B4.out l y hy
                      obtain ⟨b, off, ea, z3, _⟩ := (HS.out.below (bstep B2.out B4.out)).at XA.out
                      subst ea
                      obtain ⟨b', off', ea, z4, _⟩ := (HS.out.below (bstep B2.out B4.out)).at yA
                      cases ea
                      have bs1 : 0 ≤ sF L (R.take l) (cd L x).off ∧ sF L (R.take l) (cd L x).off ≤ 137438953472 * (l : Int) := by
                        have := bs
                        unfold sF
                        omega
                      generalize sF L (R.take l) (cd L x).off = sv at *
                      generalize far (cd L x).off (cd L y).off = fv at *
                      generalize (cd L x).off = xo' at *
                      generalize (cd L y).off = yo' at *
                      have a1 : IntKind.i64.wrap (sv + fv) = sv + fv := wrap_in (by omega) (by omega)
                      clear hy yL yA bs bs1 fb xo yo
                      go_upto_region 28 with fail
                      go_quiet ((go_at_call 29; with_reducible exact Calls.quiet_of_same (FC.out _)))
                      go_wp2_with fail
                      exact ⟨⟨l + 1, by omega, by go_num, by rw [SS.out], bdrew B4.out _⟩, by simp [intOf]; omega⟩
                    · have p1 : decide ((l : Int) < (r : Int)) = false := decide_eq_false (by omega)
                      have p2 : decide (l < r) = false := decide_eq_false cl
                      obtain rfl : l = r := by omega
                      have tk : R.take l = R := List.take_of_length_le (by rw [HRL.out]; exact Nat.le_refl _)
                      rw [tk] at bs ⊢
                      have bs1 : 0 ≤ sF L R (cd L x).off ∧ sF L R (cd L x).off ≤ 137438953472 * (l : Int) := by
                        unfold sF
                        omega
                      have nn := sj_nn L R x (by rw [HRL.out]; omega)
                      have sjd : sj L R x = sF L R (cd L x).off / ((l : Int) - 1) := by unfold sj; rw [HRL.out]
                      have WY := Lib.hid (WK.out.yes HX.out)
                      have WN := Lib.hid (fun q => WK.out.no HX.out q nn)
                      have sjle : sF L R (cd L x).off / ((l : Int) - 1) ≤ sF L R (cd L x).off := Int.ediv_le_self _ bs1.1
                      have td : (sF L R (cd L x).off).tdiv ((l : Int) - 1) = sj L R x := by rw [sjd]; exact Int.tdiv_eq_ediv_of_nonneg bs1.1
                      rw [← sjd] at sjle
                      generalize sF L R (cd L x).off = sv at *
                      generalize sj L R x = J at *
                      have a1 : IntKind.i64.wrap J = J := wrap_in (by omega) (by omega)
                      have a2 : ¬ ((l : Int) - 1 = 0) := by omega
                      have a3 : ((l : Int) - 1 == 0) = false := by rw [beq_eq_false_iff_ne]; omega
                      have z1 := RC.out _ B4.out k x HX.out
                      obtain ⟨b, off, ea, _, _, z3, _⟩ := (HS.out.below (bstep B2.out B4.out)).at XA.out
                      subst ea
                      generalize (cd L x).jit = xj at *
                      generalize lj L (R.take k) = lv at *
                      clear sjd sjle nn bs bs1 tk
                      by_cases q : mo ≤ J
                      · have g1 := decide_eq_true q
                        have WZ := Lib.hid (WY.out q)
                        rcases Int.lt_or_le xj lv with cm | cm
                        · have dm := decide_eq_true cm
                          have LZ : Hid (lj L (R.take (k + 1)) = xj) := Lib.hid (by rw [LS.out]; omega)
                          go_wp2_with fail
                          exact ⟨⟨k + 1, k, J, by omega, by go_num, rfl, rfl, by rw [LZ.out], WZ.out, B4.out⟩, by simp [intOf]; omega⟩
                        · have dm : decide (xj < lv) = false := decide_eq_false (by omega)
                          have LZ : Hid (lj L (R.take (k + 1)) = lv) := Lib.hid (by rw [LS.out]; omega)
                          go_wp2_with fail
                          exact ⟨⟨k + 1, k, J, by omega, by go_num, rfl, rfl, by rw [LZ.out], WZ.out, B4.out⟩, by simp [intOf]; omega⟩
                      · have g1 := decide_eq_false q
                        have WZ := Lib.hid (WN.out q)
                        rcases Int.lt_or_le xj lv with cm | cm
                        · have dm := decide_eq_true cm
                          have LZ : Hid (lj L (R.take (k + 1)) = xj) := Lib.hid (by rw [LS.out]; omega)
                          go_wp2_with fail
                          exact ⟨⟨k + 1, wo, mo, by omega, by go_num, rfl, rfl, by rw [LZ.out], WZ.out, B4.out⟩, by simp [intOf]; omega⟩
                        · have dm : decide (xj < lv) = false := decide_eq_false (by omega)
                          have LZ : Hid (lj L (R.take (k + 1)) = lv) := Lib.hid (by rw [LS.out]; omega)
                          go_wp2_with fail
                          exact ⟨⟨k + 1, wo, mo, by omega, by go_num, rfl, rfl, by rw [LZ.out], WZ.out, B4.out⟩, by simp [intOf]; omega⟩
                · have f1 : decide ((k : Int) < (r : Int)) = false := decide_eq_false (by omega)
                  have f2 : decide (k < r) = false := decide_eq_false ck
                  obtain rfl : k = r := by omega
                  have tk : R.take k = R := List.take_of_length_le (by rw [HRL.out]; exact Nat.le_refl _)
                  rw [tk]
                  have W0 := WK.out
                  rw [← HRL.out] at W0
                  obtain ⟨isw, nw, hnw, emo⟩ := W0.done (by rw [HRL.out]; omega)
                  have IW := Lib.hid isw
                  have NW := Lib.hid hnw
                  have EM := Lib.hid emo
                  have wol : wo < k := by rw [← HRL.out]; exact (List.getElem?_eq_some_iff.1 hnw).1
                  have wo32 : (wo : Int) < (k : Int) := by omega
                  have R3 : Hid (3 < R.length) := Lib.hid (by rw [HRL.out]; exact c3)
                  generalize hlv : lj L R = lv at *
                  have HLV := Lib.hid hlv
                  clear isw hnw emo hlv tk W0
                  by_cases q : mo ≤ lv
                  · have g1 := decide_eq_true q
                    have FI := Lib.hid (FN.out R T _ w3 ST.out (RD.out R (Red.calm R3.out IW.out NW.out (by rw [← EM.out, HLV.out]; exact q))) (ownI_below RW.out B3.out))
                    have B5 := Lib.hid (bstep B2.out B3.out)
                    go_wp2_with fail
                    go_ret2
                    exact ⟨FI.out, B5.out⟩
                  · have g1 := decide_eq_false q
                    have RN : Hid (∀ t, Red L (R.eraseIdx wo) t → Red L T t) := Lib.hid fun t z => RD.out t (Red.out R3.out IW.out NW.out (by rw [← EM.out, HLV.out]; omega) z)
                    have b3 := B3.out.size
                    have B5 := Lib.hid (bstep B2.out B3.out)
                    have b5 := B2.out.size
                    have B3S : Hid (w.heap.size ≤ w3.heap.size) := Lib.hid (by omega)
                    clear q b3 b5
                    go_wp2_with fail
                    go_loopw [18, 19] (fun ov iv w4 => ∃ j : Nat, j ≤ k ∧ iv = .int .i64 (j : Nat) ∧ OwnI w4 w3.heap.size ov (ints ((R.take j).eraseIdx wo)) ∧ Below w3.heap.size w3 w4) (fun _ iv _ => k - (intOf iv).toNat)
                    case atStart => exact ⟨0, by omega, rfl, OwnI.nil _ _, brefl w3⟩
                    case round =>
                      obtain ⟨j, hj, rfl, ho, hb⟩ := hrel
                      rename World => w4
                      have OW := Lib.hid ho
                      have B4 := Lib.hid hb
                      clear ho hb
                      by_cases cj : j < k
                      · have p1 : decide ((j : Int) < (k : Int)) = true := decide_eq_true (by omega)
                        have p2 : decide (j < k) = true := decide_eq_true cj
                        have j1 : (j : Int) < (k : Int) := by omega
                        have j0 : (0 : Int) ≤ (j : Int) := by omega
                        have wj : IntKind.i64.wrap ((j : Int) + 1) = (j : Int) + 1 := wrap_in (by omega) (by omega)
                        obtain ⟨y, hy⟩ : ∃ y, R[j]? = some y := ⟨_, List.getElem?_eq_getElem (by rw [HRL.out]; exact cj)⟩
                        have EY := Lib.hid (fun q => er_yes (w := wo) hy q)
                        have EN := Lib.hid (fun q => er_no (w := wo) hy q)
                        have z1 := RC.out _ (bstep B3.out B4.out) j y hy
                        have el : ((R.take j).eraseIdx wo).length ≤ 32 := Nat.le_trans (List.eraseIdx_sublist ..).length_le (by rw [List.length_take]; omega)
                        clear hy
                        by_cases q : j = wo
                        · have g2 : ((j : Int) != (wo : Int)) = false := by simp [q]
                          have g3 : (j != wo) = false := by simp [q]
                          have O6 := OW.out
                          rw [← EN.out q] at O6
                          have O7 := Lib.hid O6
                          clear O6
                          go_wp2_with fail
                          exact ⟨⟨j + 1, by omega, by go_num, O7.out, B4.out⟩, by simp [intOf]; omega⟩
                        · have g2 : ((j : Int) != (wo : Int)) = true := by simp; omega
                          have g3 : (j != wo) = true := by simpa using q
                          obtain ⟨oa, oc, eov⟩ := OW.out.form
                          subst eov
                          obtain ⟨v', w5, hr5, o5, b5, _⟩ := appI OW.out (y : Int) B4.out.size (by rw [ints_len]; omega) 23
                          rw [show ints ((R.take j).eraseIdx wo) ++ [(y : Int)] = ints ((R.take (j + 1)).eraseIdx wo) by rw [EY.out q, ints_app]; rfl] at o5
                          have HR5 := Lib.hid hr5
                          have O5 := Lib.hid o5
                          have B6 := Lib.hid (B4.out.trans b5)
                          clear hr5 o5 b5
                          go_wp2_with (first | (at_builtin; refine wpList_append_eqL rfl _ _ 23 rfl _ _ v' w5 rfl rfl HR5.out ?_))
                          exact ⟨⟨j + 1, by omega, by go_num, O5.out, B6.out⟩, by simp [intOf]; omega⟩
                      · have p1 : decide ((j : Int) < (k : Int)) = false := decide_eq_false (by omega)
                        have p2 : decide (j < k) = false := decide_eq_false cj
                        obtain rfl : j = k := by omega
                        have O6 := OW.out
                        rw [List.take_of_length_le (by rw [HRL.out]; exact Nat.le_refl _)] at O6
                        have O7 := Lib.hid (O6.mono B3S.out)
                        have el : (R.eraseIdx wo).length = j - 1 := by rw [List.length_eraseIdx, HRL.out, if_pos wol]
                        obtain ⟨oa, oc, eov⟩ := O7.out.form
                        rw [ints_len, el] at eov
                        subst eov
                        have B7 := Lib.hid (bstep B5.out B4.out)
                        have EL := Lib.hid el
                        clear O6 el
                        go_wp2_with fail
                        exact ⟨⟨R.eraseIdx wo, O7.out, RN.out, fun y hy => RV.out y ((List.eraseIdx_sublist ..).subset hy), by rw [EL.out]; omega, B7.out⟩, by show j - 1 < j; omega⟩
            · have d1 : decide ((3 : Int) < (r : Int)) = false := decide_eq_false (by omega)
              have d2 : decide (3 < r) = false := decide_eq_false c3
              have FI := Lib.hid (FN.out R T _ w2 ST.out (RD.out R (Red.few (by rw [HRL.out]; omega))) RW.out)
              go_wp2_with fail
              go_ret2
              exact ⟨FI.out, B2.out⟩
  · have CE : Hid (clE L S = chE L S) := Lib.hid (by unfold clE; rw [if_neg z])
    have CB : Hid (∀ w' : World, KP w L S (.returned (.tuple #[.slice none 0 0, .int .i64 (chE L S)])) w') := Lib.hid fun w' => KP_bad CE.out z
    obtain ⟨a, cap, rfl, c1, c2, _⟩ := h
    obtain ⟨sa, sc, rfl, p1, p2, _⟩ := hs
    generalize chE L S = ce at *
    have cz : (ce != 0) = true := by simpa using z
    generalize L.length = m at *
    generalize S.length = n at *
    go_enter Try.func11, Try.ntmps11
    go_wp2_with fail
    refine CK.out.mono ?_
    rintro e w1 ⟨rfl, hb⟩
    have B1 := Lib.hid hb
    clear hb CK
    go_wp2_with fail
    go_ret2
    exact ⟨CB.out _, B1.out⟩
end Go.Proofs.Ytkmbeogmgehnfaa.Vo
