/-
  A list of leap seconds, whole: the contracts of the list's check and of leap.Parse.
  Conditions: the tables read as the program's text lays them; no more than a million bytes in a line.
-/
import Derived.Test.YtmehknhajoemgaaDoorLpU
import Derived.Test.YtmehknhajoemgaaDoorWf
namespace Go.Proofs.YtmehknhajoemgaaDoor.Wd
open Go.ChangeShapes Go.WideShapes Go.ChangeAt Go.RowKit Go.Joins By
set_option linter.unusedVariables false
set_option linter.unusedSimpArgs false

/-- changes as a table. -/
def cA (L : List (Int × Int)) (i : Nat) : Int := (L.getD i (0, 0)).1
def cO (L : List (Int × Int)) (i : Nat) : Int := (L.getD i (0, 0)).2
theorem OwnG.cs {w : World} {B : Nat} {v : Value} {L : List (Int × Int)} {e : Int} (h : OwnG w B v L) (t : Lp.Tb L.length (cA L) (cO L) e) : Lp.Cs w v L.length (cA L) (cO L) := by
  obtain ⟨h1, h2⟩ := h
  have bd : ∀ i, i < L.length → Lp.I64 (cA L i) ∧ Lp.I64 (cO L i) := fun i hi => by
    have a := (t.1.mo i hi).1
    have b := t.1.le i hi
    have c := t.1.ob i hi
    exact ⟨by unfold Lp.I64; omega, by unfold Lp.I64; omega⟩
  rcases h2 with ⟨rfl, h0⟩ | ⟨g, cap, cur, rfl, hb, hh, hc, hm, hs, ht⟩
  · exact absurd t.1.pos (by omega)
  · refine ⟨_, cap, rfl, hc, by unfold maxLen at hm; omega, bd, fun _ => ⟨g, 0, rfl, (Array.getElem?_eq_some_iff.1 hh).1, fun i hi => ?_⟩⟩
    obtain ⟨x, gx⟩ : ∃ x, L[i]? = some x := ⟨_, List.getElem?_eq_getElem hi⟩
    have := c2_at L i x gx
    have eA : cA L i = x.1 := by simp [cA, List.getD_eq_getElem?_getD, gx]
    have eO : cO L i = x.2 := by simp [cO, List.getD_eq_getElem?_getD, gx]
    rw [← ht, List.getElem?_take_of_lt (by omega), List.getElem?_take_of_lt (by omega)] at this
    simp only [Array.getElem?_toList] at this
    simp [World.cell?, hh, this, eA, eO]

set_option maxRecDepth 100000 in
set_option maxHeartbeats 4000000 in
theorem check_yes {w : World} {B b : Nat} {S : St} (A : Ls w B b S) (he : S.he = true) (t : Lp.Tb S.L.length (cA S.L) (cO S.L) S.e) (hh : S.h = hashT S.L.length (cA S.L) (cO S.L) S.e) (G : Hs.Gl w) (T : Cv.Tab w) :
    Calls Tryd.prog 23 #[.pointer (some ⟨b, 0, none⟩)] w fun e w' => e = .returned (.int .i64 0) ∧ Below w.heap.size w w' := by
  obtain ⟨le, v, hb, own⟩ := A
  have C0 := own.cs t
  have HO := Lib.hid (fun w' (k : Below w.heap.size w w') => hashOf_c (C0.below k) t (G.below k) (T.below k))
  have CK := Lib.hid (fun w' (k : Below w.heap.size w w') => Lp.Check_c (e := S.e) (C0.below k))
  have TT := Lib.hid t
  have pos := t.1.pos
  have lt := (Array.getElem?_eq_some_iff.1 hb).1
  obtain ⟨c0, z0⟩ := cells_of hb 0
  obtain ⟨c1, z1⟩ := cells_of hb 1
  obtain ⟨c2', z2⟩ := cells_of hb 2
  obtain ⟨c3, z3⟩ := cells_of hb 3
  rw [show (stA S v)[0]? = some v from rfl] at c0
  rw [show (stA S v)[1]? = some (.int .i64 S.e) from rfl] at c1
  rw [show (stA S v)[2]? = some (.bool S.he) from rfl, he] at c2'
  rw [show (stA S v)[3]? = some (.string S.h) from rfl, hh] at c3
  have h32 := hashT_size S.L.length (cA S.L) (cO S.L) S.e
  generalize hashT S.L.length (cA S.L) (cO S.L) S.e = HASH at *
  have e0 : (HASH.toList == []) = false := by
    have := toList_emp HASH
    rw [ByteArray.toList_eq (⟨#[]⟩)] at this
    rw [decide_eq_false (by omega)] at this
    exact this
  obtain ⟨av, capv, rfl⟩ := ownG_form own
  have n0 : ((S.L.length : Int) == 0) = false := by rw [beq_eq_false_iff_ne]; omega
  have KP : Hid (∀ w' : World, Below w.heap.size w w' → w'.cell? ⟨b, 0, none⟩ = some (.slice av S.L.length capv) ∧ w'.cell? ⟨b, 1, none⟩ = some (.int .i64 S.e) ∧ w'.cell? ⟨b, 3, none⟩ = some (.string HASH)) := Lib.hid fun w' k => ⟨(k.cell (p := ⟨b, 0, none⟩) lt).trans c0, (k.cell (p := ⟨b, 1, none⟩) lt).trans c1, (k.cell (p := ⟨b, 3, none⟩) lt).trans c3⟩
  clear hb own C0 G T z0 z1 z2 z3 t hh h32
  unfold Lp.lv at *
  go_enter Tryd.func23, Tryd.ntmps23
  go_wp2_with fail
  have hb0 : Below w.heap.size w w.drew := (brefl w).drew
  go_region_held3 (fun w' => w'.cell? ⟨b, 0, none⟩ = some (.slice av S.L.length capv) ∧ w'.cell? ⟨b, 1, none⟩ = some (.int .i64 S.e) ∧ w'.cell? ⟨b, 3, none⟩ = some (.string HASH))
    (first | exact KP.out _ (by assumption))
    (first | (go_at_call 16; (with_reducible refine (HO.out _ (by assumption)).mono ?_); rintro e w' ⟨rfl, hb⟩; replace hb := Cv.bstep (w := w) (by assumption) hb))
  all_goals
    rename Below w.heap.size w _ => hb
    rename World => w1
    have B1 := Lib.hid hb
    obtain ⟨d0, d1, d3⟩ := KP.out _ hb
    clear hb c0 c1 c2' c3
    go_wp2_with fail
    refine (CK.out _ B1.out).mono ?_
    rintro e w2 ⟨hc, hb⟩
    obtain ⟨_, rfl⟩ := hc.resolve_right (fun g => g.1 TT.out)
    have B2 := Lib.hid (bstep B1.out hb)
    clear hb hc
    go_wp2_with fail
    go_ret
    exact ⟨rfl, B2.out⟩

/-- a text's lines, one by one: what they are, what was said ahead of each. -/
structure Pr (x : Nat → ByteArray) (K : Nat → Kd) (T : Nat → St) (M : Nat) : Prop where
  start : T 0 = ⟨[], 0, false, ⟨#[]⟩⟩
  size : ∀ k, k < M → (x k).size ≤ 1000000
  line : ∀ k, k < M → Kl (x k) (K k)
  yes : ∀ k, k < M → Yes (T k) (K k) (T (k + 1))

def zL : Obj := .cells #[.slice none 0 0, .int .i64 0] 25
def zS : Obj := .cells #[.slice none 0 0, .int .i64 0, .bool false, .string ⟨#[]⟩] 62
theorem zL_ne {o : Obj} (h : o = zL) : ∀ c fz, o ≠ .cells c 55 fz := by
  rintro c fz rfl
  unfold zL at h
  simp only [Obj.cells.injEq] at h
  exact absurd h.2.1 (by decide)
theorem fa_ne {o : Obj} (h : o = fa0) : ∀ c fz, o ≠ .cells c 55 fz := by
  rintro c fz rfl
  unfold fa0 at h
  simp only [Obj.cells.injEq] at h
  exact absurd h.2.1 (by decide)
theorem st_ne {o : Obj} {c0 : Array Value} {fz0 : Nat × Nat} (h : o = .cells c0 9 fz0) : ∀ c fz, o ≠ .cells c 55 fz := by
  rintro c fz rfl
  simp only [Obj.cells.injEq] at h
  exact absurd h.2.1 (by decide)
theorem Ls.new (w : World) (B : Nat) (hB : B ≤ w.heap.size) : Ls (w.alloc zS) B w.heap.size ⟨[], 0, false, ⟨#[]⟩⟩ :=
  ⟨hB, .slice none 0 0, heap_alloc_new w _, OwnG.nil _ _⟩

set_option maxRecDepth 100000 in
set_option maxHeartbeats 8000000 in
theorem Parse_yes {s : ByteArray} {x : Nat → ByteArray} {K : Nat → Kd} {T : Nat → St} {M : Nat} (w : World) (hs : s.size ≤ 1099511627776) (pos : 0 < (lines s).length) (hl : ∀ k, k < (lines s).length → (lines s)[k]? = some (x k)) (P : Pr x K T M) (hM : M = (lines s).length) (he : (T M).he = true) (tb : Lp.Tb (T M).L.length (cA (T M).L) (cO (T M).L) (T M).e) (hh : (T M).h = hashT (T M).L.length (cA (T M).L) (cO (T M).L) (T M).e) (G : Hs.Gl w) (TB : Cv.Tab w) :
    Calls Tryd.prog 7 #[.string s] w fun x w' => ∃ v, x = .returned (.tuple #[Lp.lv v (T M).e, .agg #[.int .i64 0, .int .i64 0, .int .i64 0]]) ∧ Lp.Cs w' v (T M).L.length (cA (T M).L) (cO (T M).L) ∧ Below w.heap.size w w' := by
  have LC := Lib.hid (fun w => Lines_c s w hs)
  have PP := Lib.hid P
  have GG := Lib.hid G
  have TT := Lib.hid TB
  have TM := Lib.hid tb
  have HH := Lib.hid hh
  have HE := Lib.hid he
  have ML : M ≤ (lines s).length := Nat.le_of_eq hM
  have MG : (lines s).length ≤ M := Nat.le_of_eq hM.symm
  clear hM
  have HL := Lib.hid hl
  clear P G TB hl tb hh he
  generalize lines s = LS at *
  go_enter Tryd.func7, Tryd.ntmps7
  go_wp2_with fail
  have B0 := Lib.hid (balloc (balloc (balloc (brefl w) zL) fa0) zS)
  have N0 := Lib.hid (Ls.new ((w.alloc zL).alloc fa0) w.heap.size (by simp; omega))
  have Z0 := Lib.hid (show ((w.alloc zL).alloc fa0).heap.size = w.heap.size + 1 + 1 by simp)
  have E0 : Hid ((((w.alloc zL).alloc fa0).alloc zS).heap[w.heap.size]? = some zL) := Lib.hid (by
    rw [Lib.alloc_old _ _ _ (by simp; omega), Lib.alloc_old _ _ _ (by simp)]
    exact heap_alloc_new w _)
  have E1 : Hid ((((w.alloc zL).alloc fa0).alloc zS).heap[w.heap.size + 1]? = some fa0) := Lib.hid (by
    rw [Lib.alloc_old _ _ _ (by simp)]
    have := heap_alloc_new (w.alloc zL) fa0
    rwa [show (w.alloc zL).heap.size = w.heap.size + 1 from by simp] at this)
  rw [Z0.out] at N0
  unfold zL zS fa0 at B0 N0 E0 E1
  generalize ((w.alloc (.cells #[.slice none 0 0, .int .i64 0] 25)).alloc (.cells #[.int .i64 0, .int .i64 0, .int .i64 0] 32)).alloc (.cells #[.slice none 0 0, .int .i64 0, .bool false, .string ⟨#[]⟩] 62) = w1 at *
  clear Z0
  refine (LC.out _).mono ?_
  rintro e w2 ⟨vl, rfl, ol, hb⟩
  have B2 := Lib.hid (bstep B0.out hb)
  have N2 := Lib.hid (N0.out.below hb)
  have E2 := Lib.hid ((hb.block _ (Array.getElem?_eq_some_iff.1 E0.out).1).trans E0.out)
  have E3 := Lib.hid ((hb.block _ (Array.getElem?_eq_some_iff.1 E1.out).1).trans E1.out)
  rw [← PP.out.start] at N2
  obtain ⟨g, cap, cur, rfl, hg, hgh, hc, hcm, hcs, htk⟩ : ∃ g cap cur, vl = .slice (some ⟨g, 0, none⟩) LS.length cap ∧ w1.heap.size ≤ g ∧ w2.heap[g]? = some (.cells cur 9 (0, 0)) ∧ LS.length ≤ cap ∧ cap ≤ maxLen ∧ cur.size = cap * 1 ∧ cur.toList.take (LS.length * 1) = cs LS := by
    rcases ol.2 with ⟨_, h0⟩ | ⟨g, cap, cur, hv, hb, r⟩
    · omega
    · exact ⟨g, cap, cur, hv, hb, r⟩
  unfold maxLen at hcm
  have gb : g ≠ w.heap.size + 1 + 1 := by
    have := N0.out.lt
    omega
  have GL : Hid (∀ k, k < LS.length → ∀ w' : World, w'.heap[g]? = some (.cells cur 9 (0, 0)) → w'.cell? ⟨g, k, none⟩ = some (.string (x k))) := Lib.hid fun k hk w' hw => by
    have h1 : (cs LS)[k]? = some (.string (x k)) := by simp [cs, HL.out k hk]
    rw [← htk, List.getElem?_take_of_lt (by omega)] at h1
    simp only [Array.getElem?_toList] at h1
    simp [World.cell?, hw, h1]
  have GH := Lib.hid hgh
  have lb2 := N2.out.lt
  clear hb B0 N0 E0 E1 LC ol hgh htk hcs
  go_wp2_with fail
  go_loopw [12] (fun iv wr => ∃ k : Nat, k ≤ M ∧ iv = .int .i64 k ∧ Ls wr w.heap.size (w.heap.size + 1 + 1) (T k) ∧ Wk w.heap.size (w.heap.size + 1 + 1) w2 wr) (fun iv _ => LS.length - (intOf iv).toNat)
  case atStart => exact ⟨0, Nat.zero_le _, rfl, N2.out, Wk.refl _ _ _⟩
  case round =>
    obtain ⟨k, hk, rfl, hls, hwk⟩ := hrel
    rename World => wr
    have LR := Lib.hid hls
    have WR := Lib.hid hwk
    have BW := Lib.hid (B2.out.trans hwk.below)
    have zw := hwk.below.size
    have R0 := Lib.hid (hwk.others _ _ E2.out (by simp; omega) (zL_ne rfl))
    have R1 := Lib.hid (hwk.others _ _ E3.out (by simp) (fa_ne rfl))
    have RG := Lib.hid (hwk.others _ _ GH.out (by simp; omega) (st_ne rfl))
    have zr := hls.lt
    clear hls hwk
    by_cases c : k < M
    · have f1 : decide ((k : Int) < (LS.length : Int)) = true := by rw [decide_eq_true_iff]; omega
      have lx := GL.out k (by omega) wr RG.out
      have RY := Lib.hid (read_yes LR.out (PP.out.size k c) BW.out.size (PP.out.line k c) (PP.out.yes k c))
      have kc : (k : Int) < (cap : Int) := by omega
      generalize x k = xk at *
      go_wp2_with fail
      refine RY.out.mono ?_
      rintro e w3 ⟨rfl, L3, W3⟩
      have L4 := Lib.hid (L3.below (balloc (brefl w3) (.cells #[.int .i64 0, .int .i64 0, .int .i64 0] 32)))
      have W4 := Lib.hid ((WR.out.trans W3).trans (Wk.of (b := w.heap.size + 1 + 1) (balloc (brefl w3) (.cells #[.int .i64 0, .int .i64 0, .int .i64 0] 32)) (Nat.le_trans BW.out.size W3.below.size)))
      clear L3 W3 RY lx
      go_wp2_with fail
      go_roundw
      case rel => exact ⟨k + 1, by omega, by go_num, L4.out, W4.out⟩
      case measure => simp [intOf]; omega
    · obtain rfl : M = k := by omega
      have f1 : decide ((M : Int) < (LS.length : Int)) = false := by rw [decide_eq_false_iff_not]; omega
      have CY := Lib.hid (check_yes LR.out HE.out TM.out HH.out (GG.out.below BW.out) (TT.out.below BW.out))
      go_wp2_with fail
      refine CY.out.mono ?_
      rintro e w3 ⟨rfl, hb⟩
      have B3 := Lib.hid (BW.out.trans (hb.mono BW.out.size))
      obtain ⟨le3, v3, hb3, own3⟩ := LR.out.below hb
      have Q0 := (hb.block _ (by omega)).trans R0.out
      have Q1 := (hb.block _ (by omega)).trans R1.out
      unfold zL at Q0
      unfold fa0 at Q1
      have C3 := own3.cs TM.out
      have c0 := (cells_of hb3 0).1
      have c1 := (cells_of hb3 1).1
      rw [show (stA (T M) v3)[0]? = some v3 from rfl] at c0
      rw [show (stA (T M) v3)[1]? = some (.int .i64 (T M).e) from rfl] at c1
      obtain ⟨av, capv, rfl⟩ := ownG_form own3
      obtain ⟨d0, y0⟩ := cells_of Q0 0
      obtain ⟨d1, y1⟩ := cells_of Q0 1
      obtain ⟨e0, y2⟩ := cells_of Q1 0
      obtain ⟨e1, y3⟩ := cells_of Q1 1
      obtain ⟨e2, y4⟩ := cells_of Q1 2
      simp only [List.getElem?_toArray, List.getElem?_cons_zero, List.getElem?_cons_succ] at d0 d1 e0 e1 e2
      have n0 : ∀ g, (Value.slice av (T M).L.length capv).ownBlock = some g → g ≠ w.heap.size := fun g hg => ownG_sep own3 Q0 (by decide) hg
      have n1 : ∀ g, (Value.slice av (T M).L.length capv).ownBlock = some g → g ≠ w.heap.size + 1 := fun g hg => ownG_sep own3 Q1 (by decide) hg
      have BZ := Lib.hid (((((B3.out.setCell (p := ⟨w.heap.size, 0, none⟩) (Nat.le_refl _) (.slice av (T M).L.length capv)).setCell (p := ⟨w.heap.size, 1, none⟩) (Nat.le_refl _) (.int .i64 (T M).e)).setCell (p := ⟨w.heap.size + 1, 0, none⟩) (Nat.le_succ _) (.int .i64 0)).setCell (p := ⟨w.heap.size + 1, 1, none⟩) (Nat.le_succ _) (.int .i64 0)).setCell (p := ⟨w.heap.size + 1, 2, none⟩) (Nat.le_succ _) (.int .i64 0))
      have OZ : Hid (OwnG (((((w3.setCell ⟨w.heap.size, 0, none⟩ (.slice av (T M).L.length capv)).setCell ⟨w.heap.size, 1, none⟩ (.int .i64 (T M).e)).setCell ⟨w.heap.size + 1, 0, none⟩ (.int .i64 0)).setCell ⟨w.heap.size + 1, 1, none⟩ (.int .i64 0)).setCell ⟨w.heap.size + 1, 2, none⟩ (.int .i64 0)) w.heap.size (.slice av (T M).L.length capv) (T M).L) := Lib.hid (ownG_keep own3 fun g hg => ((((heap_set_other _ _ (n1 g hg)).trans (heap_set_other _ _ (n1 g hg))).trans (heap_set_other _ _ (n1 g hg))).trans (heap_set_other _ _ (n0 g hg))).trans (heap_set_other _ _ (n0 g hg)))
      have CZ := Lib.hid (OZ.out.cs TM.out)
      clear hb hb3 own3 Q0 Q1 C3 OZ n0 n1 CY LR WR R0 R1 RG
      go_wp2_with fail
      exact bodyPost_ret (v := .tuple #[.agg #[.slice av (T M).L.length capv, .int .i64 (T M).e], .agg #[.int .i64 0, .int .i64 0, .int .i64 0]]) (by simp [results, Tryd.results7, go_sem, d0, d1, e0, e1, e2]) rfl ⟨_, rfl, CZ.out, BZ.out⟩
set_option maxRecDepth 100000 in
set_option maxHeartbeats 8000000 in
theorem Parse_bad {s : ByteArray} {x : Nat → ByteArray} {K : Nat → Kd} {T : Nat → St} {M : Nat} {t : ByteArray} {n : Nat} (w : World) (hs : s.size ≤ 1099511627776) (pos : 0 < (lines s).length) (hl : ∀ k, k < (lines s).length → (lines s)[k]? = some (x k)) (P : Pr x K T M) (hM : M < (lines s).length) (hx : (x M).size ≤ 1000000) (hK : Kl (x M) (.ex t n)) (he : (T M).he = true) (G : Hs.Gl w) (TB : Cv.Tab w) :
    Calls Tryd.prog 7 #[.string s] w fun x w' => x = .returned (.tuple #[Lp.lv (.slice none 0 0) 0, .agg #[.int .i64 4, .int .i64 ((M : Int) + 1), .int .i64 0]]) ∧ Below w.heap.size w w' := by
  have LC := Lib.hid (fun w => Lines_c s w hs)
  have PP := Lib.hid P
  have GG := Lib.hid G
  have TT := Lib.hid TB
  have HK := Lib.hid hK
  have HE := Lib.hid he
  have ML : M ≤ (lines s).length := Nat.le_of_lt hM
  have HL := Lib.hid hl
  clear P G TB hl hK he
  generalize lines s = LS at *
  go_enter Tryd.func7, Tryd.ntmps7
  go_wp2_with fail
  have B0 := Lib.hid (balloc (balloc (balloc (brefl w) zL) fa0) zS)
  have N0 := Lib.hid (Ls.new ((w.alloc zL).alloc fa0) w.heap.size (by simp; omega))
  have Z0 := Lib.hid (show ((w.alloc zL).alloc fa0).heap.size = w.heap.size + 1 + 1 by simp)
  have E0 : Hid ((((w.alloc zL).alloc fa0).alloc zS).heap[w.heap.size]? = some zL) := Lib.hid (by
    rw [Lib.alloc_old _ _ _ (by simp; omega), Lib.alloc_old _ _ _ (by simp)]
    exact heap_alloc_new w _)
  have E1 : Hid ((((w.alloc zL).alloc fa0).alloc zS).heap[w.heap.size + 1]? = some fa0) := Lib.hid (by
    rw [Lib.alloc_old _ _ _ (by simp)]
    have := heap_alloc_new (w.alloc zL) fa0
    rwa [show (w.alloc zL).heap.size = w.heap.size + 1 from by simp] at this)
  rw [Z0.out] at N0
  unfold zL zS fa0 at B0 N0 E0 E1
  generalize ((w.alloc (.cells #[.slice none 0 0, .int .i64 0] 25)).alloc (.cells #[.int .i64 0, .int .i64 0, .int .i64 0] 32)).alloc (.cells #[.slice none 0 0, .int .i64 0, .bool false, .string ⟨#[]⟩] 62) = w1 at *
  clear Z0
  refine (LC.out _).mono ?_
  rintro e w2 ⟨vl, rfl, ol, hb⟩
  have B2 := Lib.hid (bstep B0.out hb)
  have N2 := Lib.hid (N0.out.below hb)
  have E2 := Lib.hid ((hb.block _ (Array.getElem?_eq_some_iff.1 E0.out).1).trans E0.out)
  have E3 := Lib.hid ((hb.block _ (Array.getElem?_eq_some_iff.1 E1.out).1).trans E1.out)
  rw [← PP.out.start] at N2
  obtain ⟨g, cap, cur, rfl, hg, hgh, hc, hcm, hcs, htk⟩ : ∃ g cap cur, vl = .slice (some ⟨g, 0, none⟩) LS.length cap ∧ w1.heap.size ≤ g ∧ w2.heap[g]? = some (.cells cur 9 (0, 0)) ∧ LS.length ≤ cap ∧ cap ≤ maxLen ∧ cur.size = cap * 1 ∧ cur.toList.take (LS.length * 1) = cs LS := by
    rcases ol.2 with ⟨_, h0⟩ | ⟨g, cap, cur, hv, hb, r⟩
    · omega
    · exact ⟨g, cap, cur, hv, hb, r⟩
  unfold maxLen at hcm
  have gb : g ≠ w.heap.size + 1 + 1 := by
    have := N0.out.lt
    omega
  have GL : Hid (∀ k, k < LS.length → ∀ w' : World, w'.heap[g]? = some (.cells cur 9 (0, 0)) → w'.cell? ⟨g, k, none⟩ = some (.string (x k))) := Lib.hid fun k hk w' hw => by
    have h1 : (cs LS)[k]? = some (.string (x k)) := by simp [cs, HL.out k hk]
    rw [← htk, List.getElem?_take_of_lt (by omega)] at h1
    simp only [Array.getElem?_toList] at h1
    simp [World.cell?, hw, h1]
  have GH := Lib.hid hgh
  have lb2 := N2.out.lt
  clear hb B0 N0 E0 E1 LC ol hgh htk hcs
  go_wp2_with fail
  go_loopw [12] (fun iv wr => ∃ k : Nat, k ≤ M ∧ iv = .int .i64 k ∧ Ls wr w.heap.size (w.heap.size + 1 + 1) (T k) ∧ Wk w.heap.size (w.heap.size + 1 + 1) w2 wr) (fun iv _ => LS.length - (intOf iv).toNat)
  case atStart => exact ⟨0, Nat.zero_le _, rfl, N2.out, Wk.refl _ _ _⟩
  case round =>
    obtain ⟨k, hk, rfl, hls, hwk⟩ := hrel
    rename World => wr
    have LR := Lib.hid hls
    have WR := Lib.hid hwk
    have BW := Lib.hid (B2.out.trans hwk.below)
    have zw := hwk.below.size
    have R0 := Lib.hid (hwk.others _ _ E2.out (by simp; omega) (zL_ne rfl))
    have R1 := Lib.hid (hwk.others _ _ E3.out (by simp) (fa_ne rfl))
    have RG := Lib.hid (hwk.others _ _ GH.out (by simp; omega) (st_ne rfl))
    have zr := hls.lt
    clear hls hwk
    by_cases c : k < M
    · have f1 : decide ((k : Int) < (LS.length : Int)) = true := by rw [decide_eq_true_iff]; omega
      have lx := GL.out k (by omega) wr RG.out
      have RY := Lib.hid (read_yes LR.out (PP.out.size k c) BW.out.size (PP.out.line k c) (PP.out.yes k c))
      have kc : (k : Int) < (cap : Int) := by omega
      generalize x k = xk at *
      go_wp2_with fail
      refine RY.out.mono ?_
      rintro e w3 ⟨rfl, L3, W3⟩
      have L4 := Lib.hid (L3.below (balloc (brefl w3) (.cells #[.int .i64 0, .int .i64 0, .int .i64 0] 32)))
      have W4 := Lib.hid ((WR.out.trans W3).trans (Wk.of (b := w.heap.size + 1 + 1) (balloc (brefl w3) (.cells #[.int .i64 0, .int .i64 0, .int .i64 0] 32)) (Nat.le_trans BW.out.size W3.below.size)))
      clear L3 W3 RY lx
      go_wp2_with fail
      go_roundw
      case rel => exact ⟨k + 1, by omega, by go_num, L4.out, W4.out⟩
      case measure => simp [intOf]; omega
    · obtain rfl : M = k := by omega
      have f1 : decide ((M : Int) < (LS.length : Int)) = true := by rw [decide_eq_true_iff]; omega
      have lx := GL.out M hM wr RG.out
      have RY := Lib.hid (read_bad LR.out hx BW.out.size HK.out HE.out)
      have kc : (M : Int) < (cap : Int) := by omega
      generalize x M = xk at *
      go_wp2_with fail
      refine RY.out.mono ?_
      rintro e w3 ⟨rfl, hb⟩
      have zh := hb.size
      have B3 := Lib.hid (BW.out.trans (hb.mono BW.out.size))
      have z3 : w.heap.size + 1 < w3.heap.size := by omega
      have H0 : Hid ((w3.alloc (.cells #[.int .i64 4, .int .i64 ((M : Int) + 1), .int .i64 0] 32)).heap[w.heap.size]? = some zL) := Lib.hid ((Lib.alloc_old w3 _ _ (by omega)).trans ((hb.block _ (by omega)).trans R0.out))
      have H1 : Hid ((w3.alloc (.cells #[.int .i64 4, .int .i64 ((M : Int) + 1), .int .i64 0] 32)).heap[w.heap.size + 1]? = some fa0) := Lib.hid ((Lib.alloc_old w3 _ _ (by omega)).trans ((hb.block _ (by omega)).trans R1.out))
      have H2 := Lib.hid (heap_alloc_new w3 (.cells #[.int .i64 4, .int .i64 ((M : Int) + 1), .int .i64 0] 32))
      have B5 := Lib.hid (balloc B3.out (.cells #[.int .i64 4, .int .i64 ((M : Int) + 1), .int .i64 0] 32))
      clear hb RY lx LR WR R0 R1 RG
      go_wp2_with fail
      generalize w3.alloc (.cells #[.int .i64 4, .int .i64 ((M : Int) + 1), .int .i64 0] 32) = w5 at *
      have h0 := H0.out
      have h1 := H1.out
      unfold zL at h0
      unfold fa0 at h1
      obtain ⟨d0, y0⟩ := cells_of h0 0
      obtain ⟨d1, y1⟩ := cells_of h0 1
      obtain ⟨e0, y2⟩ := cells_of h1 0
      obtain ⟨e1, y3⟩ := cells_of h1 1
      obtain ⟨e2, y4⟩ := cells_of h1 2
      obtain ⟨g0, _⟩ := cells_of H2.out 0
      obtain ⟨g1, _⟩ := cells_of H2.out 1
      obtain ⟨g2, _⟩ := cells_of H2.out 2
      simp [Array.getElem?_setIfInBounds] at d0 d1 e0 e1 e2 g0 g1 g2
      clear H0 H1 H2 h0 h1
      have mixed : Tryd.prog.follows Departure.mixedOrders = true := by kernel_rfl
      have z4 : ¬ w3.heap.size = w.heap.size := by omega
      have z5 : ¬ w3.heap.size = w.heap.size + 1 := by omega
      go_region
      all_goals
        go_wp2_with fail
        refine bodyPost_ret (v := .tuple #[.agg #[.slice none 0 0, .int .i64 0], .agg #[.int .i64 4, .int .i64 ((M : Int) + 1), .int .i64 0]]) (by simp [results, Tryd.results7, go_sem, d0, d1, e0, e1, e2]) rfl ⟨rfl, ?_⟩
        exact ((((((B5.out.setCell (p := ⟨w.heap.size, 0, none⟩) (Nat.le_refl _) _).setCell (p := ⟨w.heap.size, 1, none⟩) (Nat.le_refl _) _).setCell (p := ⟨w.heap.size + 1, 0, none⟩) (Nat.le_succ _) _).setCell (p := ⟨w.heap.size + 1, 1, none⟩) (Nat.le_succ _) _).setCell (p := ⟨w.heap.size + 1, 2, none⟩) (Nat.le_succ _) _)).drew
end Go.Proofs.YtmehknhajoemgaaDoor.Wd
