/-
  The list that says a table, line by line; the three texts that the law reads.
  Conditions: none.
-/
import Derived.Test.YtmehknhajoemgaaDoorLpV
import Derived.Test.YtmehknhajoemgaaDoorLb
import Derived.Test.YtmehknhajoemgaaDoorLpG
namespace Go.Proofs.YtmehknhajoemgaaDoor.Wd
open Go.ChangeShapes Go.WideShapes Go.ChangeAt Go.RowKit Go.Joins By
set_option linter.unusedVariables false
set_option linter.unusedSimpArgs false

/-- no byte 10 and no byte 13. -/
def okB (x : ByteArray) : Prop := ∀ i, i < x.size → gn x i ≠ 10 ∧ gn x i ≠ 13
theorem okB_app {a b : ByteArray} (ha : okB a) (hb : okB b) : okB (a ++ b) := fun i hi => by
  rw [ByteArray.size_append] at hi
  by_cases c : i < a.size
  · rw [gn_left c]; exact ha i c
  · obtain ⟨j, rfl⟩ : ∃ j, i = a.size + j := ⟨i - a.size, by omega⟩
    rw [gn_right]
    exact hb j (by omega)
theorem okB_pw {a : ByteArray} (h : Pw a) : okB a := pw_nl h
theorem okB_trim {x : ByteArray} (h : okB x) : trimR x = x := trimR_same fun q => (h _ (by omega)).2
theorem okB_mkE : okB mkE := by unfold okB; decide
theorem okB_mkH : okB mkH := by unfold okB; decide
theorem okB_spc : okB spc := by unfold okB; decide

theorem num_dec (n : Int) : num n = dec n.toNat := rfl
theorem num_pw {n : Int} (h : n < 10000000000) : Pw (num n) := pw_dec (by omega)
theorem num_wn {n : Int} (h0 : 0 ≤ n) (h : n < 10000000000) : wn (num n) = true ∧ va (num n) (num n).size = n.toNat := wn_dec (by omega)

/-- a digit of the base sixteen. -/
def hexd (x : Nat) : Prop := (48 ≤ x ∧ x ≤ 57) ∨ (97 ≤ x ∧ x ≤ 102)
theorem dg_hex {d : Nat} (h : d < 16) : hexd (Hs.dg d) := by unfold hexd Hs.dg; split <;> omega
theorem hxL_hex {f : Nat → Nat} (hf : ∀ i, f i < 256) : ∀ k, ∀ x ∈ Hs.hxL f k, hexd x
  | 0, x, h => by simp [Hs.hxL] at h
  | k + 1, x, h => by
    have := hf k
    simp only [Hs.hxL, List.mem_append, List.mem_cons, List.not_mem_nil, or_false] at h
    rcases h with h | rfl | rfl
    · exact hxL_hex hf k x h
    · exact dg_hex (by omega)
    · exact dg_hex (by omega)
theorem md5_get (f : Nat → Nat) (n i : Nat) : (Hs.md5 f n).getD i 0 < 256 := by
  rw [List.getD_eq_getElem?_getD]
  cases h : (Hs.md5 f n)[i]? with
  | none => simp
  | some x => exact Hs.ob_byte _ _ _ x (List.mem_of_getElem? h)
theorem gn_bs8 {l : List Nat} {i : Nat} (h : ∀ x ∈ l, x < 256) (hi : i < l.length) : gn (Hs.bs8 l) i ∈ l := by
  have hm : l[i] ∈ l := List.getElem_mem hi
  have := h _ hm
  have e : gn (Hs.bs8 l) i = l[i] := by
    simp [gn, Hs.bs8, List.getD_eq_getElem?_getD, hi]
    omega
  rw [e]; exact hm
theorem hash_hx (n : Nat) (a o : Nat → Int) (e : Int) : hx32 (hashT n a o e) := by
  refine ⟨hashT_size n a o e, fun i hi => ?_⟩
  have hl : (Hs.hxL (fun i => (Hs.md5 (gn (sayF a o e n)) (sayF a o e n).size).getD i 0) 16).length = 32 := Hs.hxL_len _ 16
  exact hxL_hex (fun i => md5_get _ _ i) 16 _ (gn_bs8 (Hs.hxL_byte (fun i => md5_get _ _ i) 16) (by omega))
theorem hash_pw (n : Nat) (a o : Nat → Int) (e : Int) : Pw (hashT n a o e) := by
  obtain ⟨h1, h2⟩ := hash_hx n a o e
  exact ⟨by omega, fun i hi => by have := h2 i (by omega); omega⟩

def hd2 (c : UInt8) : ByteArray := ⟨#[35, c]⟩
theorem mark_split (c : UInt8) (d : ByteArray) : (⟨#[35, c, 32]⟩ : ByteArray) ++ d = hd2 c ++ (spc ++ d) := by
  apply list_ba
  simp [hd2, spc]
theorem mark_rest (c : UInt8) (d : ByteArray) : ((⟨#[35, c, 32]⟩ : ByteArray) ++ d).extract 2 ((⟨#[35, c, 32]⟩ : ByteArray) ++ d).size = spc ++ d := by
  rw [mark_split]
  exact ext_right (hd2 c) (spc ++ d)
theorem mark_gn (c : UInt8) (d : ByteArray) : 2 ≤ ((⟨#[35, c, 32]⟩ : ByteArray) ++ d).size ∧ gn ((⟨#[35, c, 32]⟩ : ByteArray) ++ d) 0 = 35 ∧ gn ((⟨#[35, c, 32]⟩ : ByteArray) ++ d) 1 = c.toNat := by
  refine ⟨by rw [ByteArray.size_append]; show 2 ≤ 3 + _; omega, ?_, ?_⟩
  · rw [gn_left (show 0 < 3 by decide)]; rfl
  · rw [gn_left (show 1 < 3 by decide)]; rfl
theorem fkE (d : ByteArray) : fk (mkE ++ d) = 1 ∧ (mkE ++ d).extract 2 (mkE ++ d).size = spc ++ d := by
  obtain ⟨h1, h2, h3⟩ := mark_gn 64 d
  refine ⟨?_, mark_rest 64 d⟩
  unfold fk mkE
  rw [if_pos ⟨h1, h2, h3⟩]
theorem fkH (d : ByteArray) : fk (mkH ++ d) = 2 ∧ (mkH ++ d).extract 2 (mkH ++ d).size = spc ++ d := by
  obtain ⟨h1, h2, h3⟩ := mark_gn 104 d
  refine ⟨?_, mark_rest 104 d⟩
  unfold fk mkH
  rw [if_neg (fun q => by rw [h3] at q; exact absurd q.2.2 (by decide)), if_pos ⟨h1, h2, h3⟩]
theorem fk_word {a b : ByteArray} (h : Pw a) : fk (a ++ b) = 0 := fk_no fun q => by
  have := h.all 0 h.pos
  rw [gn_left h.pos] at q
  omega

/-- the lines of the list that says a table. -/
def lE (e : Int) : ByteArray := mkE ++ num (e / 1048576)
def lC (a o : Nat → Int) (k : Nat) : ByteArray := num (a k / 1048576) ++ spc ++ num (o k)
def lH (n : Nat) (a o : Nat → Int) (e : Int) : ByteArray := mkH ++ hashT n a o e
def xL (n : Nat) (a o : Nat → Int) (e : Int) (i : Nat) : ByteArray := if i = 0 then lE e else if i ≤ n then lC a o (i - 1) else lH n a o e
def LL (n : Nat) (a o : Nat → Int) (e : Int) : List ByteArray := (List.range (n + 2)).map (xL n a o e)
theorem LL_len (n : Nat) (a o : Nat → Int) (e : Int) : (LL n a o e).length = n + 2 := by simp [LL]
theorem LL_at {n : Nat} {a o : Nat → Int} {e : Int} {i : Nat} (h : i < n + 2) : (LL n a o e)[i]? = some (xL n a o e i) := by simp [LL, h]
theorem lnT_one (x : ByteArray) : lnT [x] = x ++ nl := by
  rw [lnT, lnT]
  apply list_ba
  simp
theorem fm_lines (n : Nat) (a o : Nat → Int) (e : Int) : ∀ k, k ≤ n → fmF a o e k = lnT ((List.range (k + 1)).map (xL n a o e))
  | 0, _ => by
    show mkE ++ num (e / 1048576) ++ bNl = lnT [lE e]
    rw [lnT_one]
    rfl
  | k + 1, hk => by
    rw [List.range_succ, List.map_append, lnT_app, ← fm_lines n a o e k (by omega)]
    show fmF a o e k ++ _ = fmF a o e k ++ lnT [xL n a o e (k + 1)]
    rw [lnT_one, xL, if_neg (by omega), if_pos hk]
    rfl
theorem fmt_lines (n : Nat) (a o : Nat → Int) (e : Int) : fmt n a o e = lnT (LL n a o e) := by
  have e1 : LL n a o e = (List.range (n + 1)).map (xL n a o e) ++ [xL n a o e (n + 1)] := by
    rw [LL, show n + 2 = n + 1 + 1 from rfl, List.range_succ, List.map_append]
    rfl
  rw [fmt, fm_lines n a o e n (Nat.le_refl _), e1, lnT_app, lnT_one, xL, if_neg (by omega), if_neg (by omega)]
  rfl

section
variable {n : Nat} {a o : Nat → Int} {e : Int}
theorem bd_a (h : Lp.Tb n a o e) {i : Nat} (hi : i < n) : 0 ≤ a i / 1048576 ∧ a i / 1048576 < 10000000000 ∧ a i / 1048576 * 1048576 = a i := by
  have h1 := (h.1.mo i hi).2.1
  have h0 := (h.1.mo i hi).1
  have h2 := h.1.le i hi
  omega
theorem bd_e (h : Lp.Tb n a o e) : 0 ≤ e / 1048576 ∧ e / 1048576 < 10000000000 ∧ e / 1048576 * 1048576 = e := by
  have h0 := h.2.1
  have h1 := h.2.2.1
  have h2 := h.2.2.2
  omega
theorem xL_ok (h : Lp.Tb n a o e) {i : Nat} (hi : i < n + 2) : okB (xL n a o e i) ∧ (xL n a o e i).size ≤ 100 := by
  unfold xL
  split
  · have p := num_pw (bd_e h).2.1
    have z := num_le (bd_e h).2.1
    exact ⟨okB_app okB_mkE (okB_pw p), by rw [lE, ByteArray.size_append]; show 3 + _ ≤ 100; omega⟩
  · split
    · obtain ⟨b0, b1, _⟩ := bd_a h (i := i - 1) (by omega)
      have c := h.1.ob (i - 1) (by omega)
      have z1 := num_le b1
      have z2 := num_le (n := o (i - 1)) (by omega)
      exact ⟨okB_app (okB_app (okB_pw (num_pw b1)) okB_spc) (okB_pw (num_pw (by omega))), by rw [lC, ByteArray.size_append, ByteArray.size_append]; show _ + 1 + _ ≤ 100; omega⟩
    · have z := hashT_size n a o e
      exact ⟨okB_app okB_mkH (okB_pw (hash_pw n a o e)), by rw [lH, ByteArray.size_append]; show 3 + _ ≤ 100; omega⟩
/-- what each line is, and what is said ahead of it. -/
def xK (n : Nat) (a o : Nat → Int) (e : Int) (i : Nat) : Kd :=
  if i = 0 then .ex (num (e / 1048576)) (e / 1048576).toNat else if i ≤ n then .ch (num (a (i - 1) / 1048576)) (num (o (i - 1))) (((num (a (i - 1) / 1048576)).size + 1 : Nat) : Int) (a (i - 1) / 1048576).toNat (o (i - 1)).toNat else .ha (hashT n a o e)
def chs (a o : Nat → Int) (k : Nat) : List (Int × Int) := (List.range k).map fun i => (a i, o i)
def xT (n : Nat) (a o : Nat → Int) (e : Int) (i : Nat) : St :=
  if i = 0 then ⟨[], 0, false, ⟨#[]⟩⟩ else if i ≤ n + 1 then ⟨chs a o (i - 1), e, true, ⟨#[]⟩⟩ else ⟨chs a o n, e, true, hashT n a o e⟩
theorem xK_kl (h : Lp.Tb n a o e) {i : Nat} (hi : i < n + 2) : Kl (xL n a o e i) (xK n a o e i) := by
  unfold xL xK
  split
  · obtain ⟨b0, b1, _⟩ := bd_e h
    have f := fkE (num (e / 1048576))
    refine ⟨f.1, ?_, num_wn b0 b1, by omega, ?_⟩
    · show spR ((mkE ++ num (e / 1048576)).extract 2 (mkE ++ num (e / 1048576)).size) = _
      rw [f.2]
      exact sp_lead (num_pw b1)
    · have := num_le b1
      omega
  · split
    · obtain ⟨b0, b1, _⟩ := bd_a h (i := i - 1) (by omega)
      have c := h.1.ob (i - 1) (by omega)
      have z1 := num_le b1
      have z2 := num_le (n := o (i - 1)) (by omega)
      refine ⟨?_, sp_two (num_pw b1) (num_pw (by omega)), num_wn b0 b1, by omega, num_wn c.1 (by omega), by omega, by omega, by omega⟩
      unfold lC
      rw [show num (a (i - 1) / 1048576) ++ spc ++ num (o (i - 1)) = num (a (i - 1) / 1048576) ++ (spc ++ num (o (i - 1))) from by apply list_ba; simp]
      exact fk_word (num_pw b1)
    · have f := fkH (hashT n a o e)
      refine ⟨f.1, ?_, hash_hx n a o e⟩
      show spR ((mkH ++ hashT n a o e).extract 2 (mkH ++ hashT n a o e).size) = _
      rw [f.2]
      exact sp_lead (hash_pw n a o e)
theorem chs_len (a o : Nat → Int) (k : Nat) : (chs a o k).length = k := by simp [chs]
theorem xT_yes (h : Lp.Tb n a o e) {i : Nat} (hi : i < n + 2) : Yes (xT n a o e i) (xK n a o e i) (xT n a o e (i + 1)) := by
  have nle := h.1.n_le
  by_cases c0 : i = 0
  · subst c0
    obtain ⟨b0, b1, b2⟩ := bd_e h
    show false = false ∧ _
    refine ⟨rfl, ?_⟩
    unfold xT
    rw [if_neg (by omega), if_pos (by omega)]
    show (⟨chs a o 0, e, true, ⟨#[]⟩⟩ : St) = ⟨[], ((e / 1048576).toNat : Int) * 1048576, true, ⟨#[]⟩⟩
    rw [show ((e / 1048576).toNat : Int) * 1048576 = e from by omega]
    rfl
  · by_cases c1 : i ≤ n
    · obtain ⟨j, rfl⟩ : ∃ j, i = j + 1 := ⟨i - 1, by omega⟩
      obtain ⟨b0, b1, b2⟩ := bd_a h (i := j) (by omega)
      have c := h.1.ob j (by omega)
      unfold xT xK
      rw [if_neg c0, if_neg c0, if_pos (by omega), if_pos c1, if_neg (by omega), if_pos (by omega)]
      show (chs a o j).length ≤ 1000000 ∧ _
      rw [chs_len]
      refine ⟨by omega, ?_⟩
      show (⟨chs a o (j + 1), e, true, ⟨#[]⟩⟩ : St) = ⟨chs a o j ++ [(((a j / 1048576).toNat : Int) * 1048576, ((o j).toNat : Int))], e, true, ⟨#[]⟩⟩
      rw [show ((a j / 1048576).toNat : Int) * 1048576 = a j from by omega, show ((o j).toNat : Int) = o j from by omega, chs, List.range_succ, List.map_append]
      rfl
    · obtain rfl : i = n + 1 := by omega
      unfold xT xK
      rw [if_neg c0, if_neg c0, if_pos (by omega), if_neg (by omega), if_neg (by omega), if_neg (by omega)]
      exact ⟨rfl, rfl⟩
end

/-- the list, read by itself. -/
theorem pr_one {n : Nat} {a o : Nat → Int} {e : Int} (h : Lp.Tb n a o e) : Pr (xL n a o e) (xK n a o e) (xT n a o e) (n + 2) :=
  ⟨rfl, fun k hk => Nat.le_trans (xL_ok h hk).2 (by omega), fun k hk => xK_kl h hk, fun k hk => xT_yes h hk⟩
theorem map_trim {l : List ByteArray} (h : ∀ x ∈ l, okB x) : l.map trimR = l := by
  induction l with
  | nil => rfl
  | cons x l ih => rw [List.map_cons, okB_trim (h x (List.mem_cons_self ..)), ih fun y hy => h y (List.mem_cons_of_mem _ hy)]
theorem LL_ok {n : Nat} {a o : Nat → Int} {e : Int} (h : Lp.Tb n a o e) : ∀ x ∈ LL n a o e, okB x := fun x hx => by
  simp only [LL, List.mem_map, List.mem_range] at hx
  obtain ⟨i, hi, rfl⟩ := hx
  exact (xL_ok h hi).1
theorem emp_end (a : ByteArray) : a ++ (⟨#[]⟩ : ByteArray) = a := by apply list_ba; simp
theorem lines_of {l : List ByteArray} (h : ∀ x ∈ l, ∀ i, i < x.size → gn x i ≠ 10) : lines (lnT l) = l.map trimR := by
  have := lines_lnT l ⟨#[]⟩ h
  rw [emp_end, lines_emp, List.append_nil] at this
  exact this
theorem lines_one {n : Nat} {a o : Nat → Int} {e : Int} (h : Lp.Tb n a o e) : lines (fmt n a o e) = LL n a o e := by
  rw [fmt_lines, lines_of fun x hx i hi => (LL_ok h x hx i hi).1, map_trim (LL_ok h)]

/-- the list, twice. -/
theorem lines_twice {n : Nat} {a o : Nat → Int} {e : Int} (h : Lp.Tb n a o e) : lines (fmt n a o e ++ fmt n a o e) = LL n a o e ++ LL n a o e := by
  have k : ∀ x ∈ LL n a o e ++ LL n a o e, okB x := fun x hx => (List.mem_append.1 hx).elim (LL_ok h x) (LL_ok h x)
  rw [fmt_lines, ← lnT_app, lines_of fun x hx i hi => (k x hx i hi).1, map_trim k]
def x2 (n : Nat) (a o : Nat → Int) (e : Int) (i : Nat) : ByteArray := if i < n + 2 then xL n a o e i else xL n a o e (i - (n + 2))
theorem pr_two {n : Nat} {a o : Nat → Int} {e : Int} (h : Lp.Tb n a o e) : Pr (x2 n a o e) (xK n a o e) (xT n a o e) (n + 2) := by
  obtain ⟨p1, p2, p3, p4⟩ := pr_one h
  have e2 : ∀ k, k < n + 2 → x2 n a o e k = xL n a o e k := fun k hk => by rw [x2, if_pos hk]
  exact ⟨p1, fun k hk => by rw [e2 k hk]; exact p2 k hk, fun k hk => by rw [e2 k hk]; exact p3 k hk, p4⟩
theorem twice_at {n : Nat} {a o : Nat → Int} {e : Int} {k : Nat} (hk : k < (LL n a o e ++ LL n a o e).length) : (LL n a o e ++ LL n a o e)[k]? = some (x2 n a o e k) := by
  rw [List.length_append, LL_len] at hk
  unfold x2
  split
  · rw [List.getElem?_append_left (by rw [LL_len]; omega), LL_at (by omega)]
  · rw [List.getElem?_append_right (by rw [LL_len]; omega), LL_len, LL_at (by omega)]

/-- the list, remarks about it. -/
def rem0 : ByteArray := ⟨#[35, 32, 115, 111, 109, 101, 32, 114, 101, 109, 97, 114, 107]⟩
def rem1 : ByteArray := ⟨#[32, 32, 35, 32, 109, 111, 114, 101]⟩
def rem1r : ByteArray := ⟨#[32, 32, 35, 32, 109, 111, 114, 101, 13]⟩
def tx0 : ByteArray := ⟨#[35, 32, 115, 111, 109, 101, 32, 114, 101, 109, 97, 114, 107, 10, 10]⟩
def tx1 : ByteArray := ⟨#[32, 32, 35, 32, 109, 111, 114, 101, 13, 10]⟩
def L3 (n : Nat) (a o : Nat → Int) (e : Int) : List ByteArray := [rem0, ⟨#[]⟩] ++ LL n a o e ++ [rem1]
theorem text3 (n : Nat) (a o : Nat → Int) (e : Int) : tx0 ++ fmt n a o e ++ tx1 = lnT ([rem0, ⟨#[]⟩] ++ LL n a o e ++ [rem1r]) := by
  rw [lnT_app, lnT_app, ← fmt_lines, lnT_one]
  have e0 : lnT [rem0, ⟨#[]⟩] = tx0 := by kernel_rfl
  have e1 : rem1r ++ nl = tx1 := by kernel_rfl
  rw [e0, e1]
theorem rem0_ok : okB rem0 := by unfold okB; decide
theorem emp_ok : okB ⟨#[]⟩ := fun i hi => absurd hi (Nat.not_lt_zero _)
theorem rem1r_ok : ∀ i, i < rem1r.size → gn rem1r i ≠ 10 := by decide
theorem rem1_trim : trimR rem1r = rem1 := by kernel_rfl
theorem lines_three {n : Nat} {a o : Nat → Int} {e : Int} (h : Lp.Tb n a o e) : lines (tx0 ++ fmt n a o e ++ tx1) = L3 n a o e := by
  rw [text3, lines_of fun x hx i hi => ?_, List.map_append, List.map_append, map_trim (LL_ok h), show [rem0, (⟨#[]⟩ : ByteArray)].map trimR = [rem0, ⟨#[]⟩] from by rw [List.map_cons, List.map_cons, okB_trim rem0_ok, okB_trim emp_ok]; rfl, show [rem1r].map trimR = [rem1] from by rw [List.map_cons, rem1_trim]; rfl]
  · rfl
  · simp only [List.mem_append, List.mem_cons, List.not_mem_nil, or_false] at hx
    rcases hx with ((rfl | rfl) | hx) | rfl
    · exact (rem0_ok i hi).1
    · exact (emp_ok i hi).1
    · exact (LL_ok h x hx i hi).1
    · exact rem1r_ok i hi
def x3 (n : Nat) (a o : Nat → Int) (e : Int) (i : Nat) : ByteArray := if i = 0 then rem0 else if i = 1 then ⟨#[]⟩ else if i < n + 4 then xL n a o e (i - 2) else rem1
def k3 (n : Nat) (a o : Nat → Int) (e : Int) (i : Nat) : Kd := if 2 ≤ i ∧ i < n + 4 then xK n a o e (i - 2) else .no
def t3 (n : Nat) (a o : Nat → Int) (e : Int) (i : Nat) : St := xT n a o e (min (i - 2) (n + 2))
theorem L3_len (n : Nat) (a o : Nat → Int) (e : Int) : (L3 n a o e).length = n + 5 := by simp [L3, LL_len]
theorem three_at {n : Nat} {a o : Nat → Int} {e : Int} {k : Nat} (hk : k < (L3 n a o e).length) : (L3 n a o e)[k]? = some (x3 n a o e k) := by
  rw [L3_len] at hk
  unfold L3 x3
  by_cases c : k < 2
  · rw [List.append_assoc, List.getElem?_append_left (by simpa using c)]
    match k, c with
    | 0, _ => rfl
    | 1, _ => rfl
  · rw [if_neg (by omega), if_neg (by omega)]
    by_cases d : k < n + 4
    · rw [if_pos d, List.getElem?_append_left (by simp [LL_len]; omega), List.getElem?_append_right (by simp; omega)]
      exact LL_at (by simp; omega)
    · rw [if_neg d, List.getElem?_append_right (by simp [LL_len]; omega)]
      have : k - ([rem0, (⟨#[]⟩ : ByteArray)] ++ LL n a o e).length = 0 := by simp [LL_len]; omega
      rw [this]
      rfl
theorem pr_three {n : Nat} {a o : Nat → Int} {e : Int} (h : Lp.Tb n a o e) : Pr (x3 n a o e) (k3 n a o e) (t3 n a o e) (n + 5) := by
  obtain ⟨p1, p2, p3, p4⟩ := pr_one h
  refine ⟨rfl, fun k hk => ?_, fun k hk => ?_, fun k hk => ?_⟩
  · unfold x3
    split
    · decide
    · split
      · exact Nat.zero_le _
      · split
        · exact p2 _ (by omega)
        · decide
  · unfold x3 k3
    by_cases c0 : k = 0
    · subst c0
      rw [if_pos rfl, if_neg (by omega)]
      exact ⟨by decide, sp_rem⟩
    · by_cases c1 : k = 1
      · subst c1
        rw [if_neg (by omega), if_pos rfl, if_neg (by omega)]
        exact ⟨by decide, sp_none⟩
      · by_cases d : k < n + 4
        · rw [if_neg c0, if_neg c1, if_pos d, if_pos ⟨by omega, d⟩]
          exact p3 _ (by omega)
        · rw [if_neg c0, if_neg c1, if_neg d, if_neg (fun q => d q.2)]
          exact ⟨by decide, sp_more⟩
  · unfold k3 t3
    by_cases d : 2 ≤ k ∧ k < n + 4
    · rw [if_pos d, show min (k - 2) (n + 2) = k - 2 from by omega, show min (k + 1 - 2) (n + 2) = k - 2 + 1 from by omega]
      exact p4 _ (by omega)
    · rw [if_neg d, show min (k + 1 - 2) (n + 2) = min (k - 2) (n + 2) from by omega]
      exact rfl

/-- the table that comes out is the one that went in. -/
theorem cA_chs {a o : Nat → Int} {n i : Nat} (h : i < n) : cA (chs a o n) i = a i ∧ cO (chs a o n) i = o i := by
  constructor <;> simp [cA, cO, chs, List.getD_eq_getElem?_getD, h]
theorem tb_congr {n : Nat} {a o a' o' : Nat → Int} {e : Int} (h : Lp.Tb n a o e) (k : ∀ i, i < n → a' i = a i ∧ o' i = o i) : Lp.Tb n a' o' e := by
  refine ⟨Lp.rt_iff.2 ⟨h.1.pos, fun i hi => ?_⟩, h.2⟩
  have := (Lp.rt_iff.1 h.1).2 i hi
  rw [(k i hi).1, (k i hi).2, (k (i - 1) (by omega)).1, (k (i - 1) (by omega)).2]
  exact this
theorem say_congr {a o a' o' : Nat → Int} {e : Int} : ∀ n, (∀ i, i < n → a' i = a i ∧ o' i = o i) → sayF a' o' e n = sayF a o e n
  | 0, _ => rfl
  | n + 1, k => by
    rw [sayF, sayF, say_congr n fun i hi => k i (by omega), (k n (by omega)).1, (k n (by omega)).2]
theorem hash_congr {n : Nat} {a o a' o' : Nat → Int} {e : Int} (k : ∀ i, i < n → a' i = a i ∧ o' i = o i) : hashT n a' o' e = hashT n a o e := by
  rw [hashT, hashT, say_congr n k]
theorem xT_end {n : Nat} {a o : Nat → Int} {e : Int} : xT n a o e (n + 2) = ⟨chs a o n, e, true, hashT n a o e⟩ := by
  rw [xT, if_neg (by omega), if_neg (by omega)]
theorem tb_end {n : Nat} {a o : Nat → Int} {e : Int} (h : Lp.Tb n a o e) : Lp.Tb (chs a o n).length (cA (chs a o n)) (cO (chs a o n)) e ∧ hashT n a o e = hashT (chs a o n).length (cA (chs a o n)) (cO (chs a o n)) e := by
  rw [chs_len]
  exact ⟨tb_congr h fun i hi => cA_chs hi, (hash_congr fun i hi => cA_chs hi).symm⟩
theorem sm_end {n : Nat} {a o : Nat → Int} {e : Int} : Lp.smC n (chs a o n).length a o (cA (chs a o n)) (cO (chs a o n)) e e = true := by
  rw [chs_len]
  exact Lp.smC_yes rfl rfl fun i hi => by rw [(cA_chs hi).1, (cA_chs hi).2]; simp
end Go.Proofs.YtmehknhajoemgaaDoor.Wd
