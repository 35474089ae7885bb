/-
  Saving and loading over a disk in numbers; whatever the power does, a hint is whole.
  Conditions: none.
-/
import Derived.Test.YtkjolaoajbdomaaGreatDoorHiA
import Derived.Test.YtkjolaoajbdomaaGreatDoorDkA
namespace Go.Proofs.YtkjolaoajbdomaaGreatDoor.Hi
open Go.RowKit Dk
set_option linter.unusedVariables false
set_option linter.unusedSimpArgs false

def fN : List UInt8 := [100, 114, 105, 102, 116]
def oN : List UInt8 := [100, 114, 105, 102, 116, 46, 111, 108, 100]
def wN : List UInt8 := [100, 114, 105, 102, 116, 46, 110, 101, 119]
/-- the numbers of bytes, and the bytes of numbers. -/
def nb (x : List UInt8) : List Nat := x.map UInt8.toNat
def bt (l : List Nat) : List UInt8 := l.map UInt8.ofNat
theorem nb_len (x : List UInt8) : (nb x).length = x.length := by simp [nb]
theorem nb_byte (x : List UInt8) : ∀ y ∈ nb x, y < 256 := by
  intro y hy
  obtain ⟨b, _, rfl⟩ := List.mem_map.1 hy
  exact b.toNat_lt
theorem bt_nb (x : List UInt8) : bt (nb x) = x := by
  unfold bt nb
  rw [List.map_map]
  have : (UInt8.ofNat ∘ UInt8.toNat) = id := by
    funext b
    simp
  rw [this, List.map_id]
def asideE (s : Dk) : Int := if readE s fN = 0 then renameE s fN oN else if readE s fN = 5 then 0 else readE s fN
def asideS (s : Dk) : Dk := if readE s fN = 0 then renameS s fN oN else s
def newS (s : Dk) (n : Int) : Dk := writeS s wN (nb (txt n))
def saveE (s : Dk) (n : Int) : Int := if okT n = false then 2 else if writeE s wN (txt n).length ≠ 0 then writeE s wN (txt n).length else
  if asideE (newS s n) ≠ 0 then asideE (newS s n) else renameE (asideS (newS s n)) wN fN
def saveS (s : Dk) (n : Int) : Dk := if okT n = false then s else if writeE s wN (txt n).length ≠ 0 then newS s n else
  if asideE (newS s n) ≠ 0 then asideS (newS s n) else renameS (asideS (newS s n)) wN fN
def rd1 (s : Dk) (a : List UInt8) : Int × Int := if readE s a ≠ 0 then (0, readE s a) else prs (bt (readD s a))
def load (s : Dk) : Int × Int := if (rd1 s fN).2 = 0 ∨ (rd1 s fN).2 = 50 then rd1 s fN else if (rd1 s oN).2 = 0 then rd1 s oN else (0, 5)
/-- the document's way. -/
def rload (s : Dk) : Int × Int :=
  if readE s fN = 50 then (0, 50) else if readE s fN = 0 ∧ (prs (bt (readD s fN))).2 = 0 then ((prs (bt (readD s fN))).1, 0) else
  if readE s oN = 50 then (0, 50) else if readE s oN = 0 ∧ (prs (bt (readD s oN))).2 = 0 then ((prs (bt (readD s oN))).1, 0) else (0, 5)
theorem prs_err (b : List UInt8) : (prs b).2 = 0 ∨ prs b = (0, 4) := by
  unfold prs
  split
  · exact .inl rfl
  · exact .inr rfl
theorem readE_of (s : Dk) {a : List UInt8} (ha : okN a = true) : (s.out = true ∧ readE s a = 50) ∨ (s.out = false ∧ get s.fs a = none ∧ readE s a = 5) ∨ (s.out = false ∧ ∃ d, get s.fs a = some d ∧ readE s a = 0 ∧ readD s a = d) := by
  unfold readE readD
  cases ho : s.out with
  | true => exact .inl ⟨rfl, rfl⟩
  | false =>
    cases hg : get s.fs a with
    | none => exact .inr (.inl ⟨rfl, rfl, by simp [ha]⟩)
    | some d => exact .inr (.inr ⟨rfl, d, rfl, by simp [ha], by simp [ha]⟩)
theorem okf : okN fN = true := by decide
theorem oko : okN oN = true := by decide
theorem okw : okN wN = true := by decide
theorem load_same (s : Dk) : rload s = load s := by
  have key : ∀ p : Int × Int, p.2 = 0 → p = (p.1, 0) := fun p h => by rw [← h]
  unfold rload load rd1
  rcases readE_of s okf with ⟨h, e⟩ | ⟨h, g, e⟩ | ⟨h, d, g, e, ed⟩
  · rw [e]; simp
  · rw [e]
    rcases readE_of s oko with ⟨h', e'⟩ | ⟨h', g', e'⟩ | ⟨h', d', g', e', ed'⟩
    · rw [h] at h'; cases h'
    · rw [e']; simp
    · rw [e', ed']
      rcases prs_err (bt d') with q | q
      · simp [q]
        exact (key _ q).symm
      · simp [q]
  · rw [e, ed]
    rcases prs_err (bt d) with q | q
    · simp [q]
      exact (key _ q).symm
    · rcases readE_of s oko with ⟨h', e'⟩ | ⟨h', g', e'⟩ | ⟨h', d', g', e', ed'⟩
      · rw [h] at h'; cases h'
      · rw [e']; simp [q]
      · rw [e', ed']
        rcases prs_err (bt d') with q' | q'
        · simp [q, q']
          exact (key _ q').symm
        · simp [q, q']
theorem save_len (s : Dk) (n : Int) : (saveS s n).fs.length ≤ s.fs.length + 3 := by
  have h1 : (newS s n).fs.length ≤ s.fs.length + 1 := len_write s wN (nb (txt n))
  have h2 : (asideS (newS s n)).fs.length ≤ (newS s n).fs.length + 1 := by
    unfold asideS
    split
    · exact len_rename _ _ _
    · omega
  have h3 := len_rename (asideS (newS s n)) wN fN
  unfold saveS
  repeat' split
  all_goals omega

/-- the files that hold hints: none, or a whole text. -/
def Has (s : Dk) (F O : Option Int) : Prop :=
  get s.fs fN = F.map (fun m => nb (txt m)) ∧ get s.fs oN = O.map (fun m => nb (txt m)) ∧ (∀ m, F = some m → okT m = true) ∧ (∀ m, O = some m → okT m = true)
def valO (F O : Option Int) : Option Int := match F with
  | some m => some m
  | none => O
def ansO : Option Int → Int × Int
  | some m => (clampI m, 0)
  | none => (0, 5)
theorem rd1_has {s : Dk} {a : List UInt8} {F : Option Int} (ha : okN a = true) (ho : s.out = false) (h : get s.fs a = F.map (fun m => nb (txt m))) (hk : ∀ m, F = some m → okT m = true) : rd1 s a = ansO F := by
  unfold rd1
  rcases readE_of s ha with ⟨h', e⟩ | ⟨h', g, e⟩ | ⟨h', d, g, e, ed⟩
  · rw [ho] at h'; cases h'
  · rw [e]
    rw [g] at h
    cases F with
    | none => rfl
    | some m => cases h
  · rw [e, ed]
    rw [g] at h
    cases F with
    | none => cases h
    | some m =>
      have : d = nb (txt m) := by simpa using h
      rw [this, bt_nb, prs_txt (hk m rfl)]
      rfl
theorem load_has {s : Dk} {F O : Option Int} (h : Has s F O) (ho : s.out = false) : load s = ansO (valO F O) := by
  unfold load
  rw [rd1_has okf ho h.1 h.2.2.1, rd1_has oko ho h.2.1 h.2.2.2]
  cases F with
  | some m => rfl
  | none =>
    cases O with
    | some m => rfl
    | none => rfl
theorem write_s (s : Dk) {a : List UInt8} {l : List Nat} (ho : s.out = false) (ha : okN a = true) (hl : l.length ≤ 65536) :
    writeE s a l.length = (if (chg s).out = true then 50 else 0) ∧ (writeS s a l).out = (chg s).out ∧ (∀ x, x ≠ a → get (writeS s a l).fs x = get s.fs x) ∧ ((chg s).out = false → get (writeS s a l).fs a = some l) := by
  have n1 : ¬ s.out = true := by rw [ho]; decide
  have n2 : ¬ okN a = false := by rw [ha]; decide
  have n3 : ¬ 65536 < l.length := by omega
  refine ⟨by unfold writeE; rw [if_neg n1, if_neg n2, if_neg n3], ?_⟩
  unfold writeS
  rw [if_neg n1, if_neg n2, if_neg n3]
  cases c : (chg s).out with
  | true =>
    rw [if_pos rfl]
    split
    · exact ⟨c, fun x hx => get_put_other _ hx _, fun q => by cases q⟩
    · exact ⟨c, fun x hx => by rw [chg_fs], fun q => by cases q⟩
  | false =>
    rw [if_neg (by decide)]
    exact ⟨c, fun x hx => get_put_other _ hx _, fun _ => get_put_same _ _ _⟩
theorem rename_s (s : Dk) {a b : List UInt8} {l : List Nat} (ho : s.out = false) (ha : okN a = true) (hb : okN b = true) (hab : a ≠ b) (hg : get s.fs a = some l) :
    renameE s a b = (if (chg s).out = true then 50 else 0) ∧ (renameS s a b).out = (chg s).out ∧
    (((renameS s a b).fs = s.fs ∧ (chg s).out = true) ∨ (get (renameS s a b).fs b = some l ∧ get (renameS s a b).fs a = none ∧ ∀ x, x ≠ a → x ≠ b → get (renameS s a b).fs x = get s.fs x)) := by
  have n1 : ¬ s.out = true := by rw [ho]; decide
  have n2 : ¬ (okN a = false ∨ okN b = false) := by rw [ha, hb]; decide
  refine ⟨by unfold renameE; rw [if_neg n1, if_neg n2, hg, if_neg (by simp)], ?_⟩
  unfold renameS
  rw [if_neg n1, if_neg n2, hg]
  dsimp only
  by_cases c : done s = true
  · rw [if_pos c]
    exact ⟨rfl, .inr ⟨get_put_same _ _ _, by rw [get_put_other _ hab, get_gone_same], fun x hx hy => by rw [get_put_other _ hy, get_gone_other hx]⟩⟩
  · rw [if_neg c]
    refine ⟨rfl, .inl ⟨chg_fs s, ?_⟩⟩
    unfold done at c
    simp at c
    exact c.1
theorem last_has {s : Dk} {F O : Option Int} {n : Int} (hn : okT n = true) (ho : s.out = false) (h : Has s F O) (hw : get s.fs wN = some (nb (txt n))) :
    ∃ F', Has (renameS s wN fN) F' O ∧ ((renameE s wN fN = 0 ∧ F' = some n) ∨ (renameE s wN fN = 50 ∧ (F' = F ∨ F' = some n))) := by
  obtain ⟨e1, e2, e3⟩ := rename_s s ho okw okf (by decide) hw
  have mv : get (renameS s wN fN).fs fN = some (nb (txt n)) → (∀ x, x ≠ wN → x ≠ fN → get (renameS s wN fN).fs x = get s.fs x) → Has (renameS s wN fN) (some n) O := fun g1 g2 =>
    ⟨g1, by rw [g2 oN (by decide) (by decide)]; exact h.2.1, fun m hm => by cases hm; exact hn, h.2.2.2⟩
  rcases e3 with ⟨q1, q2⟩ | ⟨q1, _, q3⟩
  · exact ⟨F, ⟨by rw [q1]; exact h.1, by rw [q1]; exact h.2.1, h.2.2.1, h.2.2.2⟩, .inr ⟨by rw [e1, q2]; rfl, .inl rfl⟩⟩
  · refine ⟨some n, mv q1 q3, ?_⟩
    cases c : (chg s).out with
    | true => exact .inr ⟨by rw [e1, c]; rfl, .inr rfl⟩
    | false => exact .inl ⟨by rw [e1, c]; rfl, rfl⟩
/-- a save, whatever the power does. -/
theorem save_has {s : Dk} {F O : Option Int} {n : Int} (hn : okT n = true) (ho : s.out = false) (h : Has s F O) :
    ∃ F' O', Has (saveS s n) F' O' ∧ ((saveE s n = 0 ∧ F' = some n) ∨ (saveE s n = 50 ∧ (valO F' O' = valO F O ∨ F' = some n))) := by
  have hl : (nb (txt n)).length ≤ 65536 := by
    rw [nb_len, txt_len]
    have := (itoa_len hn).1
    omega
  obtain ⟨w1, w2, w3, w4⟩ := write_s s ho okw hl
  rw [nb_len] at w1
  have n0 : ¬ okT n = false := by rw [hn]; decide
  unfold saveE saveS
  rw [if_neg n0, if_neg n0, w1]
  have H1 : Has (newS s n) F O := ⟨by rw [newS, w3 fN (by decide)]; exact h.1, by rw [newS, w3 oN (by decide)]; exact h.2.1, h.2.2.1, h.2.2.2⟩
  cases c : (chg s).out with
  | true => exact ⟨F, O, by simpa using H1, .inr ⟨by simp, .inl rfl⟩⟩
  | false =>
    have o1 : (newS s n).out = false := by rw [newS, w2]; exact c
    have g1 : get (newS s n).fs wN = some (nb (txt n)) := w4 c
    simp only [Bool.false_eq_true, if_false, ne_eq, not_true_eq_false]
    generalize newS s n = t at *
    rcases readE_of t okf with ⟨h', e⟩ | ⟨h', g, e⟩ | ⟨h', d, g, e, ed⟩
    · rw [o1] at h'; cases h'
    · have a1 : asideE t = 0 := by unfold asideE; rw [e]; rfl
      have a2 : asideS t = t := by unfold asideS; rw [e]; rfl
      have F0 : F = none := by
        have := H1.1
        rw [g] at this
        cases F with
        | none => rfl
        | some m => cases this
      rw [a1, a2]
      obtain ⟨F', p1, p2⟩ := last_has hn o1 H1 g1
      refine ⟨F', O, by simpa using p1, ?_⟩
      rcases p2 with ⟨q1, q2⟩ | ⟨q1, q2⟩
      · exact .inl ⟨by simpa using q1, q2⟩
      · exact .inr ⟨by simpa using q1, q2.elim (fun x => .inl (by rw [x])) .inr⟩
    · obtain ⟨m, rfl⟩ : ∃ m, F = some m := by
        have := H1.1
        rw [g] at this
        cases F with
        | none => cases this
        | some m => exact ⟨m, rfl⟩
      have gf : get t.fs fN = some (nb (txt m)) := H1.1
      obtain ⟨r1, r2, r3⟩ := rename_s t o1 okf oko (by decide) gf
      have a1 : asideE t = renameE t fN oN := by unfold asideE; rw [e]; rfl
      have a2 : asideS t = renameS t fN oN := by unfold asideS; rw [e]; rfl
      rw [a1, a2, r1]
      have km := h.2.2.1 m rfl
      have H2 : get (renameS t fN oN).fs oN = some (nb (txt m)) → get (renameS t fN oN).fs fN = none → Has (renameS t fN oN) none (some m) := fun x y => ⟨y, x, fun _ q => by (cases q), fun k q => by cases q; exact km⟩
      cases c2 : (chg t).out with
      | true =>
        rcases r3 with ⟨q1, q2⟩ | ⟨q1, q2, q3⟩
        · exact ⟨some m, O, by simpa using (show Has (renameS t fN oN) (some m) O from ⟨by rw [q1]; exact gf, by rw [q1]; exact H1.2.1, h.2.2.1, h.2.2.2⟩), .inr ⟨by simp, .inl rfl⟩⟩
        · exact ⟨none, some m, by simpa using H2 q1 q2, .inr ⟨by simp, .inl rfl⟩⟩
      | false =>
        rcases r3 with ⟨q1, q2⟩ | ⟨q1, q2, q3⟩
        · rw [c2] at q2; cases q2
        · obtain ⟨F', p1, p2⟩ := last_has hn (by rw [r2]; exact c2) (H2 q1 q2) (by rw [q3 wN (by decide) (by decide)]; exact g1)
          refine ⟨F', some m, by simpa using p1, ?_⟩
          rcases p2 with ⟨x1, x2⟩ | ⟨x1, x2⟩
          · exact .inl ⟨by simpa using x1, x2⟩
          · exact .inr ⟨by simpa using x1, x2.elim (fun z => .inl (by rw [z]; rfl)) .inr⟩
/-- with no cut to come a save comes through. -/
theorem chg_none {s : Dk} (h : s.left < 0) : chg s = s := by
  unfold chg
  rw [if_pos h]
theorem save_free {s : Dk} {n : Int} (hn : okT n = true) (ho : s.out = false) (hl : s.left < 0) : saveE s n = 0 ∧ (saveS s n).out = false := by
  have W : ∀ (t : Dk) (a : List UInt8) (l : List Nat), t.out = false → t.left < 0 → (writeS t a l).out = false ∧ (writeS t a l).left < 0 := by
    intro t a l h1 h2
    unfold writeS
    rw [chg_none h2]
    repeat' split
    all_goals exact ⟨h1, h2⟩
  have R : ∀ (t : Dk) (a b : List UInt8), t.out = false → t.left < 0 → (renameS t a b).out = false ∧ (renameS t a b).left < 0 := by
    intro t a b h1 h2
    unfold renameS
    rw [chg_none h2]
    repeat' split
    all_goals exact ⟨h1, h2⟩
  have hz : (nb (txt n)).length ≤ 65536 := by
    rw [nb_len, txt_len]
    have := (itoa_len hn).1
    omega
  obtain ⟨w1, w2, w3, w4⟩ := write_s s ho okw hz
  rw [nb_len, chg_none hl, ho] at w1
  have n0 : ¬ okT n = false := by rw [hn]; decide
  obtain ⟨o1, l1⟩ := W s wN (nb (txt n)) ho hl
  have g1 : get (newS s n).fs wN = some (nb (txt n)) := w4 (by rw [chg_none hl]; exact ho)
  unfold saveE saveS
  rw [if_neg n0, if_neg n0, w1]
  simp only [Bool.false_eq_true, if_false, ne_eq, not_true_eq_false]
  have o1' : (newS s n).out = false := o1
  have l1' : (newS s n).left < 0 := l1
  generalize newS s n = t at *
  have key : ∀ u : Dk, u.out = false → u.left < 0 → get u.fs wN = some (nb (txt n)) → renameE u wN fN = 0 ∧ (renameS u wN fN).out = false := fun u h1 h2 h3 => by
    refine ⟨?_, (R u wN fN h1 h2).1⟩
    rw [(rename_s u h1 okw okf (by decide) h3).1, chg_none h2, h1]
    rfl
  rcases readE_of t okf with ⟨h', e⟩ | ⟨h', g, e⟩ | ⟨h', d, g, e, ed⟩
  · rw [o1'] at h'; cases h'
  · have a1 : asideE t = 0 := by unfold asideE; rw [e]; rfl
    have a2 : asideS t = t := by unfold asideS; rw [e]; rfl
    rw [a1, a2, if_neg (by decide), if_neg (by decide)]
    exact key t o1' l1' g1
  · obtain ⟨r1, r2, r3⟩ := rename_s t o1' okf oko (by decide) g
    have a1 : asideE t = 0 := by unfold asideE; rw [e, r1, chg_none l1', o1']; rfl
    have a2 : asideS t = renameS t fN oN := by unfold asideS; rw [e]; rfl
    rw [a1, a2, if_neg (by decide), if_neg (by decide)]
    obtain ⟨q1, q2⟩ := R t fN oN o1' l1'
    refine key _ q1 q2 ?_
    rcases r3 with ⟨_, x⟩ | ⟨_, _, x⟩
    · rw [chg_none l1', o1'] at x; cases x
    · rw [x wN (by decide) (by decide)]
      exact g1
theorem has_restart {s : Dk} {F O : Option Int} (h : Has s F O) : Has (restart s) F O := h
theorem has_cut {s : Dk} {F O : Option Int} (h : Has s F O) (n k : Int) : Has (cutS s n k) F O := by
  unfold cutS
  repeat' split
  all_goals exact h
theorem has_new : Has new none none := ⟨rfl, rfl, fun _ q => by (cases q), fun _ q => by (cases q)⟩
theorem out_cut {s : Dk} (h : s.out = false) (n k : Int) : (cutS s n k).out = false := by
  unfold cutS
  repeat' split
  all_goals exact h
theorem len_cut (s : Dk) (n k : Int) : (cutS s n k).fs = s.fs := by
  unfold cutS
  repeat' split
  all_goals rfl
end Go.Proofs.YtkjolaoajbdomaaGreatDoor.Hi
