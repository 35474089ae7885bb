/-
  Lines of plain words: what Split makes of them.
  Conditions: none.
  The lines of a text that is put together of lines.
  Conditions: none.
  Decimal numerals: strconv.Itoa's text is the digits that words.Number reads; words of digits.
  Conditions: none.
-/
import Derived.Test.YtmehknhajoemgaaDoorWg
import Derived.Test.YtmehknhajoemgaaDoorWf
import Derived.Lib.ItoaNum
namespace Go.Proofs.YtmehknhajoemgaaDoor.Wd
open Go.ChangeShapes Go.WideShapes Go.ChangeAt Go.RowKit Go.Joins By
set_option linter.unusedVariables false
set_option linter.unusedSimpArgs false

/-- a word of digits and small letters. -/
structure Pw (s : ByteArray) : Prop where
  pos : 0 < s.size
  all : ∀ i, i < s.size → (48 ≤ gn s i ∧ gn s i ≤ 57) ∨ (97 ≤ gn s i ∧ gn s i ≤ 122)
theorem cr_low {s : ByteArray} {p : Nat} (h : p < s.size) (hg : gn s p < 128) : cw s p = 1 ∧ wr1 s p = false ∧ (ct s p).toList = [s.data.toList.getD p 0] := by
  have e : cr s p = gn s p ∧ cw s p = 1 := (cr_cases s p h).resolve_right (fun k => by omega)
  refine ⟨e.2, ?_, ?_⟩
  · rw [wr1, decide_eq_false (by omega)]
    rfl
  · rw [ByteArray.toList_eq, ct_data, tl_eq, e.2]
    have hl : p < s.data.toList.length := by rw [Array.length_toList]; exact h
    rw [List.drop_eq_getElem_cons hl, List.getD_eq_getElem?_getD, List.getElem?_eq_getElem hl]
    rfl
theorem low_byte {s : ByteArray} {p : Nat} (c : UInt8) (h : gn s p ≠ c.toNat) : ¬ ([s.data.toList.getD p 0] = [c]) := by
  intro e
  simp only [List.cons.injEq, and_true] at e
  exact h (by rw [gn, e])
theorem pw_ct {s : ByteArray} (h : Pw s) {p : Nat} (hp : p < s.size) : cw s p = 1 ∧ wr1 s p = false ∧ bl1 (ct s p) = false ∧ (ct s p).toList ≠ [34] ∧ (ct s p).toList ≠ [35] := by
  have g := h.all p hp
  obtain ⟨h1, h2, h3⟩ := cr_low hp (by omega)
  refine ⟨h1, h2, ?_, ?_, ?_⟩
  · rw [bl1, h3]
    have n1 : ¬ [s.data.toList.getD p 0] = [9] := low_byte 9 (by show _ ≠ 9; omega)
    have n2 : ¬ [s.data.toList.getD p 0] = [32] := low_byte 32 (by show _ ≠ 32; omega)
    simp only [Bool.or_eq_false_iff, beq_eq_false_iff_ne]
    exact ⟨⟨⟨n1, n2⟩, by simp⟩, by simp⟩
  · rw [h3]; exact low_byte 34 (by show _ ≠ 34; omega)
  · rw [h3]; exact low_byte 35 (by show _ ≠ 35; omega)
theorem ext_next (s : ByteArray) (p : Nat) (hp : p < s.size) : s.extract p (p + 1) ++ s.extract (p + 1) s.size = s.extract p s.size := by
  apply ba_ext
  rw [app_data, Lib.extract_data, Lib.extract_data, Lib.extract_data]
  have hl : s.data.toList.length = s.size := by rw [Array.length_toList]; rfl
  have e1 : (List.drop (p + 1) s.data.toList).take (s.size - (p + 1)) = List.drop (p + 1) s.data.toList := List.take_of_length_le (by rw [List.length_drop]; omega)
  have e2 : (List.drop p s.data.toList).take (s.size - p) = List.drop p s.data.toList := List.take_of_length_le (by rw [List.length_drop]; omega)
  rw [e1, e2, show p + 1 - p = 1 from by omega, ← List.drop_drop]
  exact List.take_append_drop 1 _
theorem app_end (a : ByteArray) (s : ByteArray) : a ++ s.extract s.size s.size = a := by
  apply ba_ext
  rw [app_data, Lib.extract_data]
  simp
theorem run_mid {s : ByteArray} (h : Pw s) : ∀ f p k (S : CS), S.wh = 1 → p ≤ s.size → s.size ≤ p + f → run (chL s f p) k S = .inr ⟨1, S.ws, S.wd, S.tx ++ s.extract p s.size⟩
  | 0, p, k, S, h1, hp, hf => by
    obtain rfl : p = s.size := by omega
    rw [chL, run, app_end]
    rw [← h1]
  | f + 1, p, k, S, h1, hp, hf => by
    by_cases hl : p < s.size
    · obtain ⟨c1, c2, c3, c4, c5⟩ := pw_ct h hl
      rw [chL_at s f p hl, run, if_neg (by rw [c2]; exact Bool.false_ne_true), stp_1 h1, if_neg c4]
      simp only [CS.plain]
      rw [if_neg (by rw [c3]; exact Bool.false_ne_true), c1]
      rw [run_mid h f (p + 1) (k + 1) (S.add (ct s p)) h1 hl (by omega)]
      have e : S.tx ++ ct s p ++ s.extract (p + 1) s.size = S.tx ++ s.extract p s.size := by
        rw [ct, c1, ← ext_next s p hl]
        apply ba_ext
        simp only [app_data, List.append_assoc]
      show Sum.inr (CS.mk 1 S.ws S.wd (S.tx ++ ct s p ++ s.extract (p + 1) s.size)) = _
      rw [e]
    · obtain rfl : p = s.size := by omega
      rw [chL_end s _ _ hl, run, app_end]
      rw [← h1]
theorem run_word {s : ByteArray} (h : Pw s) (k : Nat) {S : CS} (h0 : S.wh = 0) : run (chars s) k S = .inr ⟨1, S.ws, ⟨emp, k, false⟩, S.tx ++ s⟩ := by
  obtain ⟨f, hf⟩ : ∃ f, s.size = f + 1 := ⟨s.size - 1, by have := h.pos; omega⟩
  obtain ⟨c1, c2, c3, c4, c5⟩ := pw_ct h h.pos
  rw [chars, hf, chL_at s f 0 h.pos, run, if_neg (by rw [c2]; exact Bool.false_ne_true), stp_0 h0]
  simp only [CS.first]
  rw [if_neg (by rw [c3]; exact Bool.false_ne_true), if_neg c5, if_neg c4, c1]
  rw [run_mid h f (0 + 1) (k + 1) _ rfl (by omega) (by omega)]
  have e : S.tx ++ ct s 0 ++ s.extract (0 + 1) s.size = S.tx ++ s := by
    have := ext_next s 0 h.pos
    rw [ct, c1]
    apply ba_ext
    rw [app_data, app_data, List.append_assoc, ← app_data, this, app_data]
    congr 1
    rw [ext_all']
  show Sum.inr (CS.mk 1 S.ws ⟨emp, k, false⟩ (S.tx ++ ct s 0 ++ s.extract (0 + 1) s.size)) = _
  rw [e]
theorem pw_chL {s : ByteArray} (h : Pw s) : ∀ f p, p ≤ s.size → s.size ≤ p + f → (chL s f p).length = s.size - p
  | 0, p, hp, hf => by rw [chL]; simp; omega
  | f + 1, p, hp, hf => by
    by_cases hl : p < s.size
    · obtain ⟨c1, _⟩ := pw_ct h hl
      rw [chL_at s f p hl, List.length_cons, c1, pw_chL h f (p + 1) hl (by omega)]
      omega
    · rw [chL_end s _ _ hl]
      simp
      omega
theorem pw_len {s : ByteArray} (h : Pw s) : (chars s).length = s.size := pw_chL h s.size 0 (Nat.zero_le _) (by omega)
theorem pw_asc {s : ByteArray} (h : Pw s) : s.size = 0 ∨ (s.get! 0).toNat < 128 := by
  right
  have g := h.all 0 h.pos
  rw [gn_get s 0 h.pos]
  omega
set_option maxRecDepth 100000 in
theorem chars_spc : chars spc = [(spc, false)] := by kernel_rfl
theorem spc_asc : spc.size = 0 ∨ (spc.get! 0).toNat < 128 := .inr (by decide)
theorem bl_spc : bl1 spc = true := by rw [bl1, t32]; decide
theorem emp_left (a : ByteArray) : (⟨#[]⟩ : ByteArray) ++ a = a := by apply ba_ext; simp
theorem fin1 (ws : List W3) (wd : W3) (x : ByteArray) : (if (CS.mk 1 ws wd x).shut = true then (Sum.inr (CS.mk 1 ws wd x).last.ws : Int ⊕ List W3) else .inl wd.c) = .inr (ws ++ [⟨x, wd.c, wd.q⟩]) := by
  have e : (CS.mk 1 ws wd x).shut = true := rfl
  rw [if_pos e, CS.last, if_pos rfl]
  rfl
/-- one word behind a blank. -/
theorem sp_lead {s : ByteArray} (h : Pw s) : spR (spc ++ s) = .inr [⟨s, 1, false⟩] := by
  have c : chars (spc ++ s) = (spc, false) :: chars s := by rw [chars_ascii (pw_asc h), chars_spc]; rfl
  unfold spR
  rw [c, run, if_neg Bool.false_ne_true, stp_0 (show cs0.wh = 0 from rfl)]
  simp only [CS.first]
  rw [if_pos bl_spc, run_word h (0 + 1) (show cs0.wh = 0 from rfl)]
  refine (fin1 _ _ _).trans ?_
  show Sum.inr ([] ++ [W3.mk (emp ++ s) _ _]) = _
  rw [show emp ++ s = s from emp_left s]
  rfl
/-- two words with a blank between. -/
theorem sp_two {a b : ByteArray} (ha : Pw a) (hb : Pw b) : spR (a ++ spc ++ b) = .inr [⟨a, 0, false⟩, ⟨b, (a.size + 1 : Nat), false⟩] := by
  have c : chars (a ++ spc ++ b) = chars a ++ ((spc, false) :: chars b) := by
    rw [chars_ascii (pw_asc hb), chars_ascii spc_asc, chars_spc, List.append_assoc]
    rfl
  unfold spR
  rw [c, run_app, run_word ha 0 (show cs0.wh = 0 from rfl)]
  simp only
  rw [run, if_neg Bool.false_ne_true, stp_1 rfl, if_neg (by rw [t32]; decide)]
  simp only [CS.plain]
  rw [if_pos bl_spc, run_word hb _ rfl]
  refine (fin1 _ _ _).trans ?_
  show Sum.inr ([] ++ [W3.mk (emp ++ a) _ _] ++ [W3.mk (emp ++ b) _ _]) = _
  rw [show emp ++ a = a from emp_left a, show emp ++ b = b from emp_left b, pw_len ha]
  show Sum.inr [W3.mk a _ _, W3.mk b _ _] = _
  rw [show 0 + a.size + 1 = a.size + 1 from by omega]
  rfl
set_option maxRecDepth 100000 in
theorem sp_none : spR ⟨#[]⟩ = .inr [] := by kernel_rfl
set_option maxRecDepth 100000 in
theorem sp_rem : spR ⟨#[35, 32, 115, 111, 109, 101, 32, 114, 101, 109, 97, 114, 107]⟩ = .inr [] := by kernel_rfl
set_option maxRecDepth 100000 in
theorem sp_more : spR ⟨#[32, 32, 35, 32, 109, 111, 114, 101]⟩ = .inr [] := by kernel_rfl
end Go.Proofs.YtmehknhajoemgaaDoor.Wd
namespace Go.Proofs.YtmehknhajoemgaaDoor.Wd
open Go.ChangeShapes Go.WideShapes Go.ChangeAt Go.RowKit Go.Joins By
set_option linter.unusedVariables false
set_option linter.unusedSimpArgs false

def nl : ByteArray := ⟨#[10]⟩
theorem gn_nl : gn nl 0 = 10 := by decide
theorem cutB_lt {t : ByteArray} (h : t.size ≠ 0) : (cutB t 10).size + 1 ≤ t.size := by rw [cutB, ByteArray.size_extract]; omega
theorem lnsF_fuel : ∀ f g (t : ByteArray), t.size ≤ f → t.size ≤ g → lnsF f t = lnsF g t
  | 0, 0, t, _, _ => rfl
  | 0, g + 1, t, h, _ => by rw [lnsF, lnsF, if_pos (by omega)]
  | f + 1, 0, t, _, h => by rw [lnsF, lnsF, if_pos (by omega)]
  | f + 1, g + 1, t, h, h' => by
    rw [lnsF, lnsF]
    by_cases c : t.size = 0
    · rw [if_pos c, if_pos c]
    · have := cutB_lt c
      rw [if_neg c, if_neg c, lnsF_fuel f g (cutB t 10) (by omega) (by omega)]
theorem cut_at {x r : ByteArray} (h : ∀ i, i < x.size → gn x i ≠ 10) : cutA (x ++ nl ++ r) 10 = x ∧ cutB (x ++ nl ++ r) 10 = r := by
  have z : (x ++ nl ++ r).size = x.size + 1 + r.size := by rw [ByteArray.size_append, ByteArray.size_append]; rfl
  have z1 : (x ++ nl).size = x.size + 1 := by rw [ByteArray.size_append]; rfl
  have lo : ∀ i, i < x.size → gn (x ++ nl ++ r) i = gn x i := fun i hi => by
    rw [gn_left (by omega), gn_left hi]
  have at10 : gn (x ++ nl ++ r) x.size = 10 := by
    rw [gn_left (by omega)]
    have := gn_right x nl 0
    rw [Nat.add_zero] at this
    rw [this, gn_nl]
  have d : di (x ++ nl ++ r) 10 = x.size := by
    rcases di_spec (x ++ nl ++ r) 10 with ⟨_, _, k⟩ | ⟨_, d1, d2, d3⟩
    · exact absurd at10 (k x.size (by omega))
    · rcases Nat.lt_trichotomy (di (x ++ nl ++ r) 10) x.size with c | c | c
      · exact absurd ((lo _ c).symm.trans d2) (h _ c)
      · exact c
      · exact absurd at10 (d3 x.size c)
  rw [cutA, cutB, d, z]
  constructor
  · apply list_ba
    rw [Lib.extract_data, app_list, app_list]
    have := len_list x
    simp
  · apply list_ba
    rw [Lib.extract_data, app_list]
    have e1 : ((x ++ nl).data.toList ++ r.data.toList).drop (x.size + 1) = r.data.toList := by
      have : (x ++ nl).data.toList.length = x.size + 1 := by rw [len_list, z1]
      rw [← this, List.drop_left]
    rw [e1]
    exact List.take_of_length_le (by rw [len_list]; omega)
/-- the first line of a text. -/
theorem lines_cons {x r : ByteArray} (h : ∀ i, i < x.size → gn x i ≠ 10) : lines (x ++ nl ++ r) = trimR x :: lines r := by
  obtain ⟨e1, e2⟩ := cut_at (r := r) h
  have z : (x ++ nl ++ r).size = x.size + r.size + 1 := by rw [ByteArray.size_append, ByteArray.size_append]; show x.size + 1 + r.size = _; omega
  rw [← lines_all, ← lines_all, z, lnsF, if_neg (by omega), e1, e2]
  rw [lnsF_fuel (x.size + r.size) r.size r (by omega) (Nat.le_refl _)]
theorem lines_emp : lines ⟨#[]⟩ = [] := by kernel_rfl
/-- a line that ends in no byte 13 is itself. -/
theorem trimR_same {x : ByteArray} (h : 0 < x.size → gn x (x.size - 1) ≠ 13) : trimR x = x := by
  have e := trim_ext x 0 x.size (Nat.zero_le _) (Nat.le_refl _)
  have k := ext_left x ⟨#[]⟩
  have x0 : x ++ (⟨#[]⟩ : ByteArray) = x := by apply list_ba; simp
  rw [x0] at k
  rw [k, ln, lnE, if_neg (fun c => h c.1 c.2), k] at e
  exact e
/-- a text of lines, a byte 10 behind each. -/
def lnT : List ByteArray → ByteArray
  | [] => ⟨#[]⟩
  | x :: l => x ++ nl ++ lnT l
theorem lines_lnT : ∀ (l : List ByteArray) (r : ByteArray), (∀ x ∈ l, ∀ i, i < x.size → gn x i ≠ 10) → lines (lnT l ++ r) = l.map trimR ++ lines r
  | [], r, _ => by
    have : (⟨#[]⟩ : ByteArray) ++ r = r := by apply list_ba; simp
    rw [lnT, this]
    rfl
  | x :: l, r, h => by
    have e : x ++ nl ++ lnT l ++ r = x ++ nl ++ (lnT l ++ r) := by apply list_ba; simp
    rw [lnT, e, lines_cons (h x (List.mem_cons_self ..)), lines_lnT l r (fun y hy => h y (List.mem_cons_of_mem _ hy))]
    rfl
theorem lnT_app : ∀ (l m : List ByteArray), lnT (l ++ m) = lnT l ++ lnT m
  | [], m => by
    show lnT m = _
    apply list_ba
    simp [lnT]
  | x :: l, m => by
    show x ++ nl ++ lnT (l ++ m) = x ++ nl ++ lnT l ++ lnT m
    rw [lnT_app l m]
    apply list_ba
    simp
end Go.Proofs.YtmehknhajoemgaaDoor.Wd
namespace Go.Proofs.YtmehknhajoemgaaDoor.Wd
open Go.ChangeShapes Go.WideShapes Go.ChangeAt Go.RowKit Go.Joins By
set_option linter.unusedVariables false
set_option linter.unusedSimpArgs false

theorem Ds.pw {n m : Nat} {s : ByteArray} (D : Ds n s m) : Pw s :=
  ⟨D.pos, fun i hi => by
    have := D.dig i hi
    simp [Wd.dig] at this
    exact .inl this⟩
theorem bs8_one (x : Nat) : (bs8 [x]).data.toList = [UInt8.ofNat x] := rfl
theorem dec_eq : ∀ f n, n < 10 ^ (f + 1) → (dsF f n).data.toList = Lib.decDigits n
  | 0, n, h => by
    have h' : n < 10 := by simpa using h
    rw [dsF, bs8_one, Lib.decDigits_one h']
  | f + 1, n, h => by
    rw [dsF]
    by_cases c : n < 10
    · rw [if_pos c, bs8_one, Lib.decDigits_one c]
    · have hq : n / 10 < 10 ^ (f + 1) := by rw [Nat.pow_succ] at h; omega
      rw [if_neg c, app_list, dec_eq f (n / 10) hq, bs8_one, Lib.decDigits.eq_1 n, dif_neg c]
/-- the numeral of n, as a text. -/
def dec (n : Nat) : ByteArray := ⟨(Lib.decDigits n).toArray⟩
theorem dec_ds {f n : Nat} (h : n < 10 ^ (f + 1)) : dec n = dsF f n := by
  apply list_ba
  rw [dec_eq f n h, dec]
theorem ds_dec {n : Nat} (h : n < 10000000000) : Ds n (dec n) 10 := by
  rw [dec_ds (f := 9) (by simpa using h)]
  exact ds_spec 9 n (by simpa using h)
theorem wn_dec {n : Nat} (h : n < 10000000000) : wn (dec n) = true ∧ va (dec n) (dec n).size = n := ⟨(ds_dec h).wn (Nat.le_refl _), (ds_dec h).val⟩
theorem pw_dec {n : Nat} (h : n < 10000000000) : Pw (dec n) := (ds_dec h).pw
theorem dec_le {n : Nat} (h : n < 10000000000) : (dec n).size ≤ 10 := (ds_dec h).most
/-- no byte 10 and no byte 13 in a word. -/
theorem pw_nl {s : ByteArray} (h : Pw s) : ∀ i, i < s.size → gn s i ≠ 10 ∧ gn s i ≠ 13 := fun i hi => by
  have := h.all i hi
  omega
/-- a line of two words: it is one line, and no byte 13 ends it. -/
theorem two_line {a b : ByteArray} (ha : Pw a) (hb : Pw b) : (∀ i, i < (a ++ spc ++ b).size → gn (a ++ spc ++ b) i ≠ 10 ∧ gn (a ++ spc ++ b) i ≠ 13) ∧ trimR (a ++ spc ++ b) = a ++ spc ++ b := by
  have z : (a ++ spc).size = a.size + 1 := by rw [ByteArray.size_append]; rfl
  have z2 : (a ++ spc ++ b).size = a.size + 1 + b.size := by rw [ByteArray.size_append, z]
  have g32 : gn (a ++ spc) a.size = 32 := by
    have := gn_right a spc 0
    rw [Nat.add_zero] at this
    rw [this]
    decide
  have all : ∀ i, i < (a ++ spc ++ b).size → gn (a ++ spc ++ b) i ≠ 10 ∧ gn (a ++ spc ++ b) i ≠ 13 := by
    intro i hi
    by_cases c : i < a.size
    · rw [gn_left (by omega), gn_left c]
      exact pw_nl ha i c
    · by_cases d : i = a.size
      · subst d
        rw [gn_left (by omega), g32]
        decide
      · obtain ⟨j, rfl⟩ : ∃ j, i = (a ++ spc).size + j := ⟨i - (a ++ spc).size, by omega⟩
        rw [gn_right]
        exact pw_nl hb j (by omega)
  exact ⟨all, trimR_same fun h => (all _ (by omega)).2⟩
end Go.Proofs.YtmehknhajoemgaaDoor.Wd
