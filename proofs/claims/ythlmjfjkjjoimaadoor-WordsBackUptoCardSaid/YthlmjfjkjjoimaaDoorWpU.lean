/-
  Quoted texts are read back: the characters of a quoted text, and what they make.
-/
import Derived.Test.YthlmjfjkjjoimaaDoorWpT
namespace Go.Proofs.YthlmjfjkjjoimaaDoor.Wd
open Go.ChangeShapes Go.WideShapes Go.ChangeAt Go.RowKit Go.Joins By
set_option linter.unusedVariables false
set_option linter.unusedSimpArgs false

theorem okc_cons {c : ByteArray × Bool} {l : List (ByteArray × Bool)} (h : okc (c :: l) = true) : c.2 = false ∧ okc l = true := by
  unfold okc at h ⊢
  rw [List.all_cons, Bool.and_eq_true] at h
  exact ⟨by simpa using h.1, h.2⟩
theorem okc_app (l m : List (ByteArray × Bool)) : okc (l ++ m) = (okc l && okc m) := by simp [okc]
theorem chL_appV {a b : ByteArray} : ∀ g i f, i ≤ a.size → a.size ≤ i + g → (a ++ b).size ≤ i + f → okc (chL a g i) = true → chL (a ++ b) f i = chL a g i ++ chars b
  | 0, i, f, hi, hg, hf, _ => by
    obtain rfl : i = a.size := by omega
    have := chL_shift a b f 0
    rw [Nat.add_zero] at this
    rw [this, chL, List.nil_append]
    exact chL_fuel b f b.size 0 (by rw [ByteArray.size_append] at hf; omega) (by omega)
  | g + 1, i, f, hi, hg, hf, ho => by
    by_cases h : i < a.size
    · have hs : i < (a ++ b).size := by rw [ByteArray.size_append]; omega
      obtain ⟨f', rfl⟩ : ∃ f', f = f' + 1 := ⟨f - 1, by omega⟩
      rw [chL_at _ g i h] at ho
      obtain ⟨hw, ho'⟩ := okc_cons ho
      obtain ⟨r1, r2⟩ := dec_app (b := b) h (.inr hw)
      have wl := cw_le a i h
      have wp := cw_pos a i
      rw [chL_at _ f' i hs, chL_at _ g i h]
      have e1 : ct (a ++ b) i = ct a i := by
        unfold ct
        rw [r2, ext_in wl]
      have e2 : wr1 (a ++ b) i = wr1 a i := by unfold wr1; rw [r1, r2]
      rw [e1, e2, r2, chL_appV g (i + cw a i) f' wl (by omega) (by omega) ho']
      rfl
    · obtain rfl : i = a.size := by omega
      have := chL_shift a b f 0
      rw [Nat.add_zero] at this
      rw [this, chL_end _ _ _ h, List.nil_append]
      exact chL_fuel b f b.size 0 (by rw [ByteArray.size_append] at hf; omega) (by omega)
theorem chars_valid {a b : ByteArray} (h : okc (chars a) = true) : chars (a ++ b) = chars a ++ chars b :=
  chL_appV a.size 0 (a ++ b).size (Nat.zero_le _) (by omega) (by omega) h
theorem decN_cut {n k r b0 b1 b2 b3 c1 c2 c3 : Nat} (e : Lib.decodeN n b0 b1 b2 b3 = (r, k)) (hv : ¬ (r = 65533 ∧ k = 1)) (h1 : 1 < k → c1 = b1) (h2 : 2 < k → c2 = b2) (h3 : 3 < k → c3 = b3) : Lib.decodeN k b0 c1 c2 c3 = (r, k) := by
  rcases Lib.decodeN_shape n b0 b1 b2 b3 with ⟨d0, e'⟩ | ⟨d1, d2, d3, dv, e'⟩ | ⟨d1, d2, d3, d4, dv, ds, e'⟩ | ⟨d1, d2, d3, d4, d5, dv, dw, e'⟩ | e'
  all_goals
    rw [e'] at e
    simp only [Prod.mk.injEq] at e
    obtain ⟨e1, e2⟩ := e
  · subst e1 e2
    unfold Lib.decodeN
    rw [if_pos d0]
  · subst e2
    have q1 := h1 (by omega)
    subst q1
    unfold Lib.decodeN
    rw [if_neg (by omega), if_pos ⟨by omega, by omega, by omega⟩, if_pos (by omega), e1]
  · subst e2
    have q1 := h1 (by omega)
    have q2 := h2 (by omega)
    subst q1 q2
    unfold Lib.decodeN
    rw [if_neg (by omega), if_neg (by omega), if_pos ⟨by omega, ⟨by omega, by omega⟩, by omega, by omega⟩, if_pos ⟨by omega, by omega⟩, e1]
  · subst e2
    have q1 := h1 (by omega)
    have q2 := h2 (by omega)
    have q3 := h3 (by omega)
    subst q1 q2 q3
    unfold Lib.decodeN
    rw [if_neg (by omega), if_neg (by omega), if_neg (by omega), if_pos ⟨by omega, ⟨by omega, by omega⟩, ⟨by omega, by omega⟩, by omega, by omega⟩, if_pos ⟨by omega, by omega⟩, e1]
  · exact absurd ⟨e1.symm, e2.symm⟩ hv
/-- a character alone. -/
theorem chars_one {s : ByteArray} {p : Nat} (h : p < s.size) (hw : wr1 s p = false) : chars (ct s p) = [(ct s p, false)] := by
  have wl := cw_le s p h
  have wp := cw_pos s p
  have sz : (ct s p).size = cw s p := by unfold ct; rw [ByteArray.size_extract]; omega
  have gx : ∀ j, j < cw s p → (ct s p).get! j = s.get! (p + j) := fun j hj => by
    rw [← Lib.getD_get!', ← Lib.getD_get!']
    unfold ct
    rw [Lib.extract_data, List.getD_eq_getElem?_getD, List.getElem?_take_of_lt (by omega), List.getElem?_drop, ← List.getD_eq_getElem?_getD]
  have key : Utf8.decode (ct s p) 0 = (cr s p, cw s p) := by
    have d := Lib.decode_at s p
    rw [Lib.decode_at, Nat.sub_zero, sz, Nat.zero_add, Nat.zero_add, Nat.zero_add, gx 0 wp, Nat.add_zero]
    refine decN_cut (d.symm.trans rfl) ?_ (fun q => by rw [gx 1 q]) (fun q => by rw [gx 2 q]) (fun q => by rw [gx 3 q])
    rintro ⟨x, y⟩
    have : wr1 s p = true := by rw [wr1, decide_eq_true x, decide_eq_true y]; rfl
    rw [this] at hw; cases hw
  have r1 : cr (ct s p) 0 = cr s p := by unfold cr; rw [key]; rfl
  have r2 : cw (ct s p) 0 = cw s p := by unfold cw; rw [key]; rfl
  unfold chars
  obtain ⟨f, hf⟩ : ∃ f, (ct s p).size = f + 1 := ⟨(ct s p).size - 1, by omega⟩
  rw [hf, chL_at _ f 0 (by omega), r2, chL_end _ _ _ (by omega)]
  have e1 : ct (ct s p) 0 = ct s p := by
    have e : ct (ct s p) 0 = (ct s p).extract 0 (ct s p).size := by
      show (ct s p).extract 0 (0 + cw (ct s p) 0) = _
      rw [r2, sz, Nat.zero_add]
    rw [e, ext_all']
  have e2 : wr1 (ct s p) 0 = false := by
    have : wr1 (ct s p) 0 = wr1 s p := by unfold wr1; rw [r1, r2]
    rw [this, hw]
  rw [e1, e2]

/-- a text with a byte 92 ahead of each byte 34 and 92. -/
def esc (u : ByteArray) : ByteArray := bs8 ((bn u).flatMap qOne)
theorem bs8_app (l m : List Nat) : bs8 (l ++ m) = bs8 l ++ bs8 m := by
  apply ba_ext
  simp [bs8]
theorem esc_app (a b : ByteArray) : esc (a ++ b) = esc a ++ esc b := by
  unfold esc
  rw [bn_app, List.flatMap_append, bs8_app]
theorem esc_plain {u : ByteArray} (h : ∀ x ∈ bn u, x ≠ 34 ∧ x ≠ 92) : esc u = u := by
  have e : ∀ l : List Nat, (∀ x ∈ l, x ≠ 34 ∧ x ≠ 92) → l.flatMap qOne = l := fun l => by
    induction l with
    | nil => intro _; rfl
    | cons x l ih =>
      intro h
      have hx := h x (List.mem_cons_self ..)
      rw [List.flatMap_cons, ih (fun y hy => h y (List.mem_cons_of_mem _ hy)), qOne, if_neg (by omega)]
      rfl
  unfold esc
  rw [e _ h, bs8_bn]
def bs92 : ByteArray := ⟨#[92]⟩
theorem bn_gn (s : ByteArray) (k : Nat) (h : k < s.size) : (bn s)[k]? = some (gn s k) := by
  unfold bn gn
  rw [List.getElem?_map, List.getD_eq_getElem?_getD, List.getElem?_eq_getElem (by rw [len_data]; exact h)]
  rfl
theorem qL_flat (s : ByteArray) : ∀ k, k ≤ s.size → qL s k = ((bn s).take k).flatMap qOne
  | 0, _ => rfl
  | k + 1, h => by
    rw [qL, qL_flat s k (by omega), List.take_add_one, bn_gn s k (by omega), List.flatMap_append]
    simp
theorem quo_esc (s : ByteArray) : quo s = q1 ++ esc s ++ q1 := by
  unfold quo esc
  rw [qL_flat s s.size (Nat.le_refl _), List.take_of_length_le (by rw [bn_len]; exact Nat.le_refl _)]
  apply ba_ext
  simp [bs8, q1]
theorem t92 : bs92.toList = [92] := by rw [ByteArray.toList_eq]; rfl
theorem tq1 : q1.toList = [34] := by rw [ByteArray.toList_eq]; rfl
set_option maxRecDepth 100000 in
theorem chars_92 : chars bs92 = [(bs92, false)] := by kernel_rfl
set_option maxRecDepth 100000 in
theorem chars_q1 : chars q1 = [(q1, false)] := by kernel_rfl
theorem byte_hi {s : ByteArray} {p : Nat} (h : p < s.size) (hw : wr1 s p = false) : (∀ x ∈ bn (ct s p), 128 ≤ x) ∨ ∃ x, x < 128 ∧ bn (ct s p) = [x] := by
  have e := encZ (cr s p : Int)
  rw [rb_ct h hw] at e
  have c := cr_le s p
  by_cases a : cr s p < 128
  · right
    refine ⟨cr s p, a, ?_⟩
    rw [Lib.encodeRuneZ_one (by omega) (by omega)] at e
    have := map_one (f := fun (x : Nat) => (x : Int)) (fun (a b : Nat) (e : (a : Int) = (b : Int)) => by omega) (bn (ct s p)) [cr s p] e
    exact this
  · left
    intro x hx
    have hm : (x : Int) ∈ Lib.encodeRuneZ (cr s p : Int) := by rw [← e]; exact List.mem_map_of_mem hx
    unfold Lib.encodeRuneZ at hm
    split at hm
    · omega
    · split at hm
      · simp at hm; omega
      · split at hm
        · simp at hm; omega
        · split at hm <;> (simp at hm; omega)
/-- a character with its 92 ahead. -/
def escC (c : ByteArray × Bool) : List (ByteArray × Bool) := if c.1.toList = [34] ∨ c.1.toList = [92] then [(bs92, false), c] else [c]
theorem esc_ct {s : ByteArray} {p : Nat} (h : p < s.size) (hw : wr1 s p = false) : chars (esc (ct s p)) = escC (ct s p, false) := by
  have tb : (ct s p).toList = [34] ↔ bn (ct s p) = [34] := by
    rw [ByteArray.toList_eq]
    constructor
    · intro e; unfold bn; rw [e]; rfl
    · intro e
      exact map_one (f := UInt8.toNat) (fun a b e => UInt8.toNat_inj.1 e) _ [34] e
  have tb2 : (ct s p).toList = [92] ↔ bn (ct s p) = [92] := by
    rw [ByteArray.toList_eq]
    constructor
    · intro e; unfold bn; rw [e]; rfl
    · intro e
      exact map_one (f := UInt8.toNat) (fun a b e => UInt8.toNat_inj.1 e) _ [92] e
  unfold escC
  simp only
  rcases byte_hi h hw with hh | ⟨x, hx, hb⟩
  · rw [if_neg (by
      rintro (e | e)
      · have := hh 34 (by rw [tb.1 e]; exact List.mem_singleton_self _); omega
      · have := hh 92 (by rw [tb2.1 e]; exact List.mem_singleton_self _); omega), esc_plain (fun x hx => by have := hh x hx; omega)]
    exact chars_one h hw
  · by_cases e : x = 34 ∨ x = 92
    · have ee : esc (ct s p) = bs92 ++ ct s p := by
        have e1 : esc (ct s p) = bs8 (qOne x) := by unfold esc; rw [hb]; simp
        have e2 : bs92 ++ ct s p = bs8 [92] ++ bs8 (bn (ct s p)) := by rw [bs8_bn]; rfl
        rw [e1, e2, hb, ← bs8_app, qOne, if_pos e]
        rfl
      rw [if_pos (e.imp (fun q => tb.2 (by rw [hb, q])) (fun q => tb2.2 (by rw [hb, q]))), ee, chars_valid (by rw [chars_92]; rfl), chars_92, chars_one h hw]
      rfl
    · rw [if_neg (by
        rintro (e' | e')
        · have := tb.1 e'
          rw [hb] at this
          simp at this
          exact e (.inl this)
        · have := tb2.1 e'
          rw [hb] at this
          simp at this
          exact e (.inr this)), esc_plain (fun y hy => by
        rw [hb] at hy
        have := List.mem_singleton.1 hy
        omega)]
      exact chars_one h hw
theorem okc_escC (c : ByteArray × Bool) (h : c.2 = false) : okc (escC c) = true := by
  unfold escC
  split <;> simp [okc, h]
/-- the characters of a text with its 92s. -/
theorem chars_esc (s : ByteArray) : ∀ g p, p ≤ s.size → s.size ≤ p + g → okc (chL s g p) = true → chars (esc (s.extract p s.size)) = (chL s g p).flatMap escC
  | 0, p, hp, hg, _ => by
    obtain rfl : p = s.size := by omega
    have e : s.extract s.size s.size = ⟨#[]⟩ := by
      apply ba_ext
      rw [Lib.extract_data, Nat.sub_self, List.take_zero]
    rw [e]
    rfl
  | g + 1, p, hp, hg, ho => by
    by_cases h : p < s.size
    · rw [chL_at s g p h] at ho ⊢
      obtain ⟨hw, ho'⟩ := okc_cons ho
      have wl := cw_le s p h
      have wp := cw_pos s p
      have hw' : wr1 s p = false := hw
      have sp : s.extract p s.size = ct s p ++ s.extract (p + cw s p) s.size := by
        apply ba_ext
        rw [app_data]
        unfold ct
        rw [Lib.extract_data, Lib.extract_data, Lib.extract_data]
        rw [show p + cw s p - p = cw s p from by omega, show s.size - p = cw s p + (s.size - (p + cw s p)) from by omega, List.take_add, List.drop_drop]
      rw [sp, esc_app, chars_valid (by rw [esc_ct h hw']; exact okc_escC _ rfl), esc_ct h hw', chars_esc s g (p + cw s p) wl (by omega) ho', List.flatMap_cons, hw']
    · obtain rfl : p = s.size := by omega
      have e : s.extract s.size s.size = ⟨#[]⟩ := by
        apply ba_ext
        rw [Lib.extract_data, Nat.sub_self, List.take_zero]
      rw [chL_end s _ _ h, e]
      rfl
theorem okc_flat : ∀ l : List (ByteArray × Bool), okc l = true → okc (l.flatMap escC) = true
  | [], _ => rfl
  | c :: l, h => by
    obtain ⟨h1, h2⟩ := okc_cons h
    rw [List.flatMap_cons, okc_app, okc_escC c h1, okc_flat l h2]
    rfl
theorem chars_quo {s : ByteArray} (h : okc (chars s) = true) : chars (quo s) = (q1, false) :: ((chars s).flatMap escC ++ [(q1, false)]) ∧ okc (chars (quo s)) = true := by
  have ce := chars_esc s s.size 0 (Nat.zero_le _) (by omega) h
  rw [ext_all'] at ce
  have ok1 : okc (chars (q1 ++ esc s)) = true := by
    rw [chars_valid (by rw [chars_q1]; rfl), okc_app, chars_q1, ce]
    show (true && okc ((chL s s.size 0).flatMap escC)) = true
    rw [Bool.true_and]
    exact okc_flat _ h
  have e : chars (quo s) = (q1, false) :: ((chars s).flatMap escC ++ [(q1, false)]) := by
    rw [quo_esc, chars_valid ok1, chars_valid (by rw [chars_q1]; rfl), chars_q1, ce]
    rfl
  refine ⟨e, ?_⟩
  rw [e]
  show okc ([(q1, false)] ++ ((chars s).flatMap escC ++ [(q1, false)])) = true
  rw [okc_app, okc_app, okc_flat _ h]
  rfl
/-- the texts of some characters, one behind the other. -/
def cat : List (ByteArray × Bool) → ByteArray
  | [] => emp
  | c :: l => c.1 ++ cat l
theorem emp_app (a : ByteArray) : emp ++ a = a := by apply ba_ext; simp [emp]
theorem app_emp (a : ByteArray) : a ++ emp = a := by apply ba_ext; simp [emp]
theorem cat_chL (s : ByteArray) : ∀ g p, p ≤ s.size → s.size ≤ p + g → cat (chL s g p) = s.extract p s.size
  | 0, p, hp, hg => by
    obtain rfl : p = s.size := by omega
    apply ba_ext
    rw [Lib.extract_data, Nat.sub_self, List.take_zero]
    rfl
  | g + 1, p, hp, hg => by
    by_cases h : p < s.size
    · have wl := cw_le s p h
      have wp := cw_pos s p
      rw [chL_at s g p h, cat, cat_chL s g (p + cw s p) wl (by omega)]
      apply ba_ext
      rw [app_data]
      show (ct s p).data.toList ++ _ = _
      unfold ct
      rw [Lib.extract_data, Lib.extract_data, Lib.extract_data]
      rw [show p + cw s p - p = cw s p from by omega, show s.size - p = cw s p + (s.size - (p + cw s p)) from by omega, List.take_add, List.drop_drop]
    · obtain rfl : p = s.size := by omega
      rw [chL_end s _ _ h]
      apply ba_ext
      rw [Lib.extract_data, Nat.sub_self, List.take_zero]
      rfl
theorem cat_chars (s : ByteArray) : cat (chars s) = s := by
  have := cat_chL s s.size 0 (Nat.zero_le _) (by omega)
  rw [ext_all'] at this
  exact this
theorem run_body : ∀ (l : List (ByteArray × Bool)) (k : Nat) (S : CS), okc l = true → S.wh = 2 → run (l.flatMap escC) k S = .inr ⟨2, S.ws, S.wd, S.tx ++ cat l⟩
  | [], k, S, _, h => by
    obtain ⟨wh, ws, wd, tx⟩ := S
    obtain rfl : wh = 2 := h
    show Sum.inr _ = Sum.inr _
    rw [cat, app_emp]
  | c :: l, k, S, ho, h => by
    obtain ⟨hc, ho'⟩ := okc_cons ho
    obtain ⟨wh, ws, wd, tx⟩ := S
    obtain rfl : wh = 2 := h
    rw [List.flatMap_cons]
    have fin : ∀ k, run (l.flatMap escC) k ⟨2, ws, wd, tx ++ c.1⟩ = .inr ⟨2, ws, wd, tx ++ cat (c :: l)⟩ := fun k => by
      rw [run_body l k ⟨2, ws, wd, tx ++ c.1⟩ ho' rfl, cat]
      show Sum.inr (⟨2, ws, wd, tx ++ c.1 ++ cat l⟩ : CS) = _
      rw [show tx ++ c.1 ++ cat l = tx ++ (c.1 ++ cat l) from ba_ext (by simp)]
    unfold escC
    by_cases e : c.1.toList = [34] ∨ c.1.toList = [92]
    · rw [if_pos e]
      show run ((bs92, false) :: (c :: l.flatMap escC)) k _ = _
      rw [run, if_neg Bool.false_ne_true, stp_2 rfl]
      simp only [CS.quot]
      rw [if_pos t92, run, if_neg (by rw [hc]; exact Bool.false_ne_true), stp_3 rfl]
      exact fin _
    · rw [if_neg e]
      show run (c :: l.flatMap escC) k _ = _
      rw [run, if_neg (by rw [hc]; exact Bool.false_ne_true), stp_2 rfl]
      simp only [CS.quot]
      rw [if_neg (fun h => e (.inr h)), if_neg (fun h => e (.inl h))]
      exact fin _
theorem run_blanks : ∀ (l : List (ByteArray × Bool)) (k : Nat) (S : CS), (∀ c, c ∈ l → c.2 = false ∧ bl1 c.1 = true) → S.wh = 0 → run l k S = .inr S
  | [], _, _, _, _ => rfl
  | c :: l, k, S, h, h0 => by
    obtain ⟨h1, h2⟩ := h c (List.mem_cons_self ..)
    rw [run, if_neg (by rw [h1]; exact Bool.false_ne_true), stp_0 h0]
    simp only [CS.first]
    rw [if_pos h2]
    exact run_blanks l (k + 1) S (fun d hd => h d (List.mem_cons_of_mem _ hd)) h0
/-- a line of quoted texts so far. -/
structure Ln (T : ByteArray) (ws : List W3) : Prop where
  ok : okc (chars T) = true
  st : ∃ S, run (chars T) 0 cs0 = .inr S ∧ S.ws = ws ∧ S.tx = emp ∧ (S.wh = 0 ∨ S.wh = 4)
theorem Ln.nil : Ln emp [] := ⟨rfl, cs0, rfl, rfl, rfl, .inl rfl⟩
/-- blanks: a text of blanks alone. -/
structure Bk (b : ByteArray) : Prop where
  all : ∀ c, c ∈ chars b → c.2 = false ∧ bl1 c.1 = true
  pos : 0 < (chars b).length
theorem Bk.ok {b : ByteArray} (h : Bk b) : okc (chars b) = true := by
  unfold okc
  rw [List.all_eq_true]
  intro c hc
  rw [(h.all c hc).1]
  rfl
theorem Ln.next {T b s : ByteArray} {ws : List W3} (h : Ln T ws) (hb : Bk b) (hs : okc (chars s) = true) :
    Ln (T ++ b ++ quo s) (ws ++ [⟨s, ((chars T).length + (chars b).length : Nat), true⟩]) ∧ (chars (T ++ b)).length = (chars T).length + (chars b).length ∧ (chars (T ++ b ++ quo s)).length = (chars T).length + (chars b).length + (chars (quo s)).length := by
  obtain ⟨ok, S, hr, h1, h2, h3⟩ := h
  obtain ⟨cq, okq⟩ := chars_quo hs
  have c1 : chars (T ++ b) = chars T ++ chars b := chars_valid ok
  have ok1 : okc (chars (T ++ b)) = true := by rw [c1, okc_app, ok, hb.ok]; rfl
  have c2 : chars (T ++ b ++ quo s) = chars (T ++ b) ++ chars (quo s) := chars_valid ok1
  refine ⟨⟨by rw [c2, okc_app, ok1, okq]; rfl, ?_⟩, by rw [c1, List.length_append], by rw [c2, c1, List.length_append, List.length_append]⟩
  -- the blanks
  have rb : ∃ S0, run (chars b) (0 + (chars T).length) S = .inr S0 ∧ S0.ws = ws ∧ S0.tx = emp ∧ S0.wh = 0 := by
    rcases h3 with h3 | h3
    · exact ⟨S, run_blanks _ _ S hb.all h3, h1, h2, h3⟩
    · have hp := hb.pos
      have hall := hb.all
      cases hl : chars b with
      | nil => rw [hl] at hp; simp at hp
      | cons c l =>
        rw [hl] at hall
        obtain ⟨q1', q2'⟩ := hall c (List.mem_cons_self ..)
        refine ⟨S.to 0, ?_, h1, h2, rfl⟩
        rw [run, if_neg (by rw [q1']; exact Bool.false_ne_true), stp_4 h3, if_pos q2']
        exact run_blanks l _ (S.to 0) (fun d hd => hall d (List.mem_cons_of_mem _ hd)) rfl
  obtain ⟨S0, r0, w0, x0, z0⟩ := rb
  have R1 := run_app (chars T) (chars b) 0 cs0
  rw [hr] at R1
  simp only at R1
  rw [r0] at R1
  have R2 := run_app (chars (T ++ b)) (chars (quo s)) 0 cs0
  rw [c1, R1] at R2
  simp only at R2
  rw [← c1] at R2
  rw [c2, R2]
  have kl : 0 + (chars (T ++ b)).length = (chars T).length + (chars b).length := by rw [c1, List.length_append]; omega
  rw [kl, cq, run, if_neg Bool.false_ne_true, stp_0 z0]
  simp only [CS.first]
  rw [if_neg (by rw [bl_34 tq1]; decide), if_neg (by rw [tq1]; decide), if_pos tq1]
  have R3 := run_app ((chars s).flatMap escC) [(q1, false)] ((chars T).length + (chars b).length + 1) ((S0.beg ((chars T).length + (chars b).length) true).to 2)
  rw [run_body (chars s) _ _ hs rfl] at R3
  simp only at R3
  rw [R3, run, if_neg Bool.false_ne_true, stp_2 rfl]
  simp only [CS.quot]
  rw [if_neg (by rw [tq1]; decide), if_pos tq1]
  refine ⟨_, rfl, ?_, rfl, .inr rfl⟩
  show S0.ws ++ [⟨S0.tx ++ cat (chars s), _, true⟩] = _
  rw [w0, x0, cat_chars, emp_app]
  rfl
end Go.Proofs.YthlmjfjkjjoimaaDoor.Wd
