/-
  Packets and their bytes, in numbers: what is put into bytes comes out of them, and back.
  Conditions: none.
-/
import Derived.Test.YtmjbnbjkpimjmaaByB
namespace Go.Proofs.Ytmjbnbjkpimjmaa.Wi
open By
set_option linter.unusedVariables false
set_option linter.unusedSimpArgs false

/-- n in w bytes, the highest first. -/
def pt (n : Nat) : Nat → List Nat
  | 0 => []
  | w + 1 => n / 256 ^ w % 256 :: pt n w
/-- the number of w bytes from a on. -/
def gt (f : Nat → Nat) (a : Nat) : Nat → Nat
  | 0 => 0
  | w + 1 => gt f a w * 256 + f (a + w)
theorem pt_len (n : Nat) : ∀ w, (pt n w).length = w
  | 0 => rfl
  | w + 1 => by rw [pt, List.length_cons, pt_len n w]
theorem pt_byte (n : Nat) : ∀ w, ∀ x ∈ pt n w, x < 256
  | 0, x, h => by cases h
  | w + 1, x, h => by
    rw [pt] at h
    rcases List.mem_cons.1 h with rfl | h
    · omega
    · exact pt_byte n w x h
theorem pt_at (n : Nat) : ∀ w i, i < w → (pt n w).getD i 0 = n / 256 ^ (w - 1 - i) % 256
  | 0, i, h => absurd h (Nat.not_lt_zero _)
  | w + 1, 0, h => by rw [pt]; simp
  | w + 1, i + 1, h => by
    rw [pt]
    have := pt_at n w i (by omega)
    rw [List.getD_cons_succ, this]
    congr 3
    omega
theorem gt_lt {f : Nat → Nat} (hf : ∀ i, f i < 256) (a : Nat) : ∀ w, gt f a w < 256 ^ w
  | 0 => by simp [gt]
  | w + 1 => by
    have h1 := gt_lt hf a w
    have h2 := hf (a + w)
    rw [gt, Nat.pow_succ]
    omega
theorem gt_congr {f g : Nat → Nat} {a : Nat} : ∀ w, (∀ i, i < w → f (a + i) = g (a + i)) → gt f a w = gt g a w
  | 0, _ => rfl
  | w + 1, h => by rw [gt, gt, gt_congr w (fun i hi => h i (by omega)), h w (by omega)]
theorem gt_shift {f : Nat → Nat} {a : Nat} (c : Nat) : ∀ w, gt (fun i => f (c + i)) a w = gt f (c + a) w
  | 0 => rfl
  | w + 1 => by rw [gt, gt, gt_shift c w, Nat.add_assoc]
/-- the upper bytes. -/
theorem gt_up {f : Nat → Nat} (hf : ∀ i, f i < 256) (a k : Nat) : ∀ d, gt f a (k + d) / 256 ^ d = gt f a k
  | 0 => by simp
  | d + 1 => by
    have h := gt_up hf a k d
    have e : gt f a (k + (d + 1)) = gt f a (k + d) * 256 + f (a + (k + d)) := rfl
    rw [e, Nat.pow_succ, Nat.mul_comm (256 ^ d) 256, ← Nat.div_div_eq_div_mul]
    have := hf (a + (k + d))
    rw [show (gt f a (k + d) * 256 + f (a + (k + d))) / 256 = gt f a (k + d) by omega]
    exact h
theorem pt_gt {f : Nat → Nat} (hf : ∀ i, f i < 256) (a w : Nat) : pt (gt f a w) w = bl (fun i => f (a + i)) w := by
  apply List.ext_getElem?
  intro i
  by_cases h : i < w
  · have e := pt_at (gt f a w) w i h
    rw [List.getD_eq_getElem?_getD] at e
    have h1 : (pt (gt f a w) w)[i]? = some ((pt (gt f a w) w)[i]'(by rw [pt_len]; exact h)) := List.getElem?_eq_getElem _
    rw [h1] at e ⊢
    have u := gt_up hf a (i + 1) (w - 1 - i)
    rw [show i + 1 + (w - 1 - i) = w by omega] at u
    rw [Option.getD_some] at e
    rw [e, u]
    have e2 : gt f a (i + 1) = gt f a i * 256 + f (a + i) := rfl
    have := hf (a + i)
    rw [e2]
    simp [bl, h]
    omega
  · rw [List.getElem?_eq_none (by rw [pt_len]; omega), List.getElem?_eq_none (by rw [bl_len]; omega)]
/-- from a on, f spells l. -/
def Sp (f : Nat → Nat) (a : Nat) (l : List Nat) : Prop := ∀ i, i < l.length → f (a + i) = l.getD i 0
theorem Sp.left {f : Nat → Nat} {a : Nat} {l k : List Nat} (h : Sp f a (l ++ k)) : Sp f a l := fun i hi => by
  rw [h i (by rw [List.length_append]; omega), List.getD_eq_getElem?_getD, List.getElem?_append_left hi, ← List.getD_eq_getElem?_getD]
theorem Sp.right {f : Nat → Nat} {a : Nat} {l k : List Nat} (h : Sp f a (l ++ k)) : Sp f (a + l.length) k := fun i hi => by
  rw [Nat.add_assoc, h (l.length + i) (by rw [List.length_append]; omega), List.getD_eq_getElem?_getD, List.getElem?_append_right (by omega), Nat.add_sub_cancel_left, ← List.getD_eq_getElem?_getD]
theorem Sp.bl {f : Nat → Nat} {a : Nat} {l : List Nat} (h : Sp f a l) : By.bl (fun i => f (a + i)) l.length = l := by
  rw [← bl_getD l, bl_len]
  exact bl_congr fun i hi => h i hi
theorem sp_self (l : List Nat) : Sp (fun i => l.getD i 0) 0 l := fun i _ => by rw [Nat.zero_add]
theorem gt_pt {f : Nat → Nat} {a n w : Nat} (h : Sp f a (pt n w)) (hn : n < 256 ^ w) : gt f a w = n := by
  have key : ∀ k, k ≤ w → gt f a k = n / 256 ^ (w - k) := by
    intro k
    induction k with
    | zero => intro _; rw [gt, Nat.sub_zero, Nat.div_eq_of_lt hn]
    | succ k ih =>
      intro hk
      rw [gt, ih (by omega), h k (by rw [pt_len]; omega), pt_at n w k (by omega)]
      rw [show w - k = (w - (k + 1)) + 1 by omega, Nat.pow_succ, ← Nat.div_div_eq_div_mul, show w - 1 - k = w - (k + 1) by omega]
      omega
  have := key w (Nat.le_refl _)
  simpa using this

/-- a field as what it says: its type and its body. -/
abbrev Fd := Int × List Nat
structure Pk where
  leap : Int
  ver : Int
  mode : Int
  strat : Int
  poll : Int
  prec : Int
  rd : Nat
  rs : Nat
  rid : Nat
  tref : Nat
  torg : Nat
  trec : Nat
  txm : Nat
  fs : List Fd
  auth : Int
  key : Nat
  dig : List Nat
def pk0 : Pk := ⟨0, 0, 0, 0, 0, 0, 0, 0, 0, 0, 0, 0, 0, [], 0, 0, []⟩
instance : Inhabited Pk := ⟨pk0⟩
/-- the numbers are of their kinds, the bytes are bytes. -/
def Pk.kind (p : Pk) : Prop := p.rd < 4294967296 ∧ p.rs < 4294967296 ∧ p.rid < 4294967296 ∧ p.tref < 18446744073709551616 ∧ p.torg < 18446744073709551616 ∧ p.trec < 18446744073709551616 ∧ p.txm < 18446744073709551616 ∧ p.key < 4294967296 ∧ (∀ x ∈ p.dig, x < 256) ∧ ∀ f ∈ p.fs, ∀ x ∈ f.2, x < 256
def btw (n a b : Int) : Bool := decide (a ≤ n) && decide (n ≤ b)
def okH (p : Pk) : Bool := btw p.leap 0 3 && btw p.ver 1 4 && btw p.mode 0 7 && btw p.strat 0 255 && btw p.poll (-128) 127 && btw p.prec (-128) 127
/-- how many bytes the end has; none: it is none. -/
def tl (p : Pk) : Option Nat :=
  if p.auth = 0 then (if p.key = 0 ∧ p.dig.length = 0 then some 0 else none)
  else if p.auth = 1 then (if p.key = 0 ∧ p.dig.length = 0 then some 4 else none)
  else if p.auth = 2 then (if p.dig.length = 16 ∨ p.dig.length = 20 then some (4 + p.dig.length) else none)
  else none
def tot (n : Nat) : List Fd → Nat
  | [] => n
  | f :: r => f.2.length + 4 + tot n r
def okF (n : Nat) : List Fd → Bool
  | [] => true
  | f :: r => okF n r && btw f.1 0 65535 && decide (16 ≤ f.2.length + 4) && decide ((f.2.length + 4) % 4 = 0) && decide (24 < tot n (f :: r))
def rt (p : Pk) : Bool := okH p && match tl p with
  | none => false
  | some n => decide (p.fs.length ≤ 8) && okF n p.fs && decide (tot n p.fs + 48 ≤ 1024)
def fe (f : Fd) : List Nat := pt f.1.toNat 2 ++ (pt (f.2.length + 4) 2 ++ f.2)
def fes : List Fd → List Nat
  | [] => []
  | f :: r => fe f ++ fes r
def hb (p : Pk) : List Nat := [(p.leap * 64 + p.ver * 8 + p.mode).toNat, p.strat.toNat, (p.poll % 256).toNat, (p.prec % 256).toNat]
def he (p : Pk) : List Nat := hb p ++ (pt p.rd 4 ++ (pt p.rs 4 ++ (pt p.rid 4 ++ (pt p.tref 8 ++ (pt p.torg 8 ++ (pt p.trec 8 ++ pt p.txm 8))))))
def te (p : Pk) : List Nat := if p.auth = 0 then [] else pt p.key 4 ++ p.dig
/-- a packet's bytes. -/
def enc (p : Pk) : List Nat := he p ++ (fes p.fs ++ te p)
def sg (c : Nat) : Int := if 128 ≤ c then (c : Int) - 256 else c
def hd (f : Nat → Nat) : Pk := ⟨(f 0 / 64 : Nat), (f 0 / 8 % 8 : Nat), (f 0 % 8 : Nat), (f 1 : Nat), sg (f 2), sg (f 3), gt f 4 4, gt f 8 4, gt f 12 4, gt f 16 8, gt f 24 8, gt f 32 8, gt f 40 8, [], 0, 0, []⟩
/-- the fields from a on: none, if one isn't right; r: how many more there may be. -/
def cut (f : Nat → Nat) (n : Nat) : Nat → Nat → Option (List Fd × Nat)
  | 0, a => if n - a ≤ 24 then some ([], a) else none
  | r + 1, a => if n - a ≤ 24 then some ([], a) else
      if 16 ≤ gt f (a + 2) 2 ∧ gt f (a + 2) 2 % 4 = 0 ∧ gt f (a + 2) 2 ≤ n - a then
        (cut f n r (a + gt f (a + 2) 2)).map fun x => (((gt f a 2 : Nat), bl (fun i => f (a + 4 + i)) (gt f (a + 2) 2 - 4)) :: x.1, x.2)
      else none
/-- what stands at the end, from a on. -/
def fin (f : Nat → Nat) (n a : Nat) : Option (Int × Nat × List Nat) :=
  if n - a = 0 then some (0, 0, []) else
  if n - a = 4 ∧ gt f a 4 = 0 then some (1, 0, []) else
  if n - a = 20 ∨ n - a = 24 then some (2, gt f a 4, bl (fun i => f (a + 4 + i)) (n - (a + 4))) else none
structure Dc where
  e : Int
  p : Pk
  a : Nat
def bad (e : Int) : Dc := ⟨e, pk0, 0⟩
/-- the packet of n bytes: its error, it, and where the end begins. -/
def dec (f : Nat → Nat) (n : Nat) : Dc :=
  if n < 48 ∨ n % 4 ≠ 0 then bad 20 else
  if 1024 < n then bad 21 else
  if btw (hd f).ver 1 4 = false then bad 22 else
  match cut f n 8 48 with
  | none => bad 23
  | some x => match fin f n x.2 with
    | none => bad 23
    | some y => ⟨0, { hd f with fs := x.1, auth := y.1, key := y.2.1, dig := y.2.2 }, x.2⟩
theorem tot_add (n : Nat) : ∀ l : List Fd, tot n l = tot 0 l + n
  | [] => by simp [tot]
  | f :: r => by rw [tot, tot, tot_add n r]; omega
theorem fe_len (f : Fd) : (fe f).length = f.2.length + 4 := by simp [fe, pt_len]; omega
theorem fes_len : ∀ l : List Fd, (fes l).length = tot 0 l
  | [] => rfl
  | f :: r => by rw [fes, List.length_append, fe_len, fes_len r, tot]
theorem he_len (p : Pk) : (he p).length = 48 := by simp [he, hb, pt_len]
theorem te_len {p : Pk} {n : Nat} (h : tl p = some n) : (te p).length = n := by
  unfold tl at h
  unfold te
  split at h
  · rename_i e
    rw [if_pos e]
    split at h
    · cases h; rfl
    · cases h
  · rename_i e
    rw [if_neg e, List.length_append, pt_len]
    split at h
    · split at h
      · cases h; omega
      · cases h
    · split at h
      · split at h
        · cases h; rfl
        · cases h
      · cases h
theorem tl_le {p : Pk} {n : Nat} (h : tl p = some n) : n = 0 ∨ n = 4 ∨ n = 20 ∨ n = 24 := by
  unfold tl at h
  repeat' split at h
  all_goals first | (cases h; omega) | cases h
theorem enc_len {p : Pk} {n : Nat} (h : tl p = some n) : (enc p).length = 48 + tot n p.fs := by
  rw [enc, List.length_append, List.length_append, he_len, fes_len, te_len h, tot_add n]
/-- a packet that is put into bytes. -/
theorem rt_cut {p : Pk} (h : rt p = true) : okH p = true ∧ ∃ n, tl p = some n ∧ p.fs.length ≤ 8 ∧ okF n p.fs = true ∧ tot n p.fs + 48 ≤ 1024 := by
  unfold rt at h
  rw [Bool.and_eq_true] at h
  refine ⟨h.1, ?_⟩
  have h2 := h.2
  split at h2
  · cases h2
  · rename_i n e
    simp only [Bool.and_eq_true, decide_eq_true_eq] at h2
    exact ⟨n, e, h2.1.1, h2.1.2, h2.2⟩
theorem rt_join {p : Pk} {n : Nat} (h : okH p = true) (ht : tl p = some n) (h8 : p.fs.length ≤ 8) (hf : okF n p.fs = true) (hn : tot n p.fs + 48 ≤ 1024) : rt p = true := by
  unfold rt
  rw [h, ht]
  simp [h8, hf, hn]
theorem btw_iff {n a b : Int} : btw n a b = true ↔ a ≤ n ∧ n ≤ b := by simp [btw]
theorem okH_cut {p : Pk} (h : okH p = true) : (0 ≤ p.leap ∧ p.leap ≤ 3) ∧ (1 ≤ p.ver ∧ p.ver ≤ 4) ∧ (0 ≤ p.mode ∧ p.mode ≤ 7) ∧ (0 ≤ p.strat ∧ p.strat ≤ 255) ∧ (-128 ≤ p.poll ∧ p.poll ≤ 127) ∧ (-128 ≤ p.prec ∧ p.prec ≤ 127) := by
  simp only [okH, Bool.and_eq_true, btw_iff] at h
  exact ⟨h.1.1.1.1.1, h.1.1.1.1.2, h.1.1.1.2, h.1.1.2, h.1.2, h.2⟩
theorem okF_cut {n : Nat} {f : Fd} {r : List Fd} (h : okF n (f :: r) = true) : okF n r = true ∧ (0 ≤ f.1 ∧ f.1 ≤ 65535) ∧ 16 ≤ f.2.length + 4 ∧ (f.2.length + 4) % 4 = 0 ∧ 24 < tot n (f :: r) := by
  rw [okF] at h
  simp only [Bool.and_eq_true, btw_iff, decide_eq_true_eq] at h
  exact ⟨h.1.1.1.1, h.1.1.1.2, h.1.1.2, h.1.2, h.2⟩
theorem okF_join {n : Nat} {f : Fd} {r : List Fd} (h : okF n r = true) (h1 : 0 ≤ f.1 ∧ f.1 ≤ 65535) (h2 : 16 ≤ f.2.length + 4) (h3 : (f.2.length + 4) % 4 = 0) (h4 : 24 < tot n (f :: r)) : okF n (f :: r) = true := by
  rw [okF]
  simp only [Bool.and_eq_true, btw_iff, decide_eq_true_eq]
  exact ⟨⟨⟨⟨h, h1⟩, h2⟩, h3⟩, h4⟩
theorem tot_ge (n : Nat) (l : List Fd) : n ≤ tot n l := by rw [tot_add]; omega
theorem okF_byte {p : Pk} (h : p.kind) : ∀ x ∈ enc p, x < 256 → True := fun _ _ _ => trivial
/-- the fields come out of their bytes. -/
theorem cut_fes {f : Nat → Nat} {n e : Nat} (he : e ≤ 24) : ∀ (l : List Fd) (r a : Nat), l.length ≤ r → okF e l = true → Sp f a (fes l) → n = a + tot e l → tot e l < 65536 → cut f n r a = some (l, a + tot 0 l)
  | [], r, a, hr, hk, hs, hn, hl => by
    have h : n - a ≤ 24 := by rw [tot] at hn; omega
    cases r with
    | zero => rw [cut, if_pos h]; simp [tot]
    | succ r => rw [cut, if_pos h]; simp [tot]
  | x :: l, 0, a, hr, hk, hs, hn, hl => absurd hr (by simp)
  | x :: l, r + 1, a, hr, hk, hs, hn, hl => by
    obtain ⟨k1, k2, k3, k4, k5⟩ := okF_cut hk
    rw [fes] at hs
    have s1 := hs.left
    have s2 := hs.right
    rw [fe_len] at s2
    rw [fe] at s1
    have t1 := s1.left
    have t2 := s1.right.left
    have t3 := s1.right.right
    rw [pt_len] at t2 t3
    rw [pt_len] at t3
    have hl2 : tot e (x :: l) = x.2.length + 4 + tot e l := rfl
    have g1 : gt f a 2 = x.1.toNat := gt_pt t1 (by omega)
    have g2 : gt f (a + 2) 2 = x.2.length + 4 := gt_pt t2 (by omega)
    have hn2 : n - a = tot e (x :: l) := by omega
    have h3 : By.bl (fun i => f (a + 4 + i)) x.2.length = x.2 := by
      have := t3.bl
      rwa [show a + 2 + 2 = a + 4 by omega] at this
    rw [cut, if_neg (by omega), g2, if_pos (by omega), cut_fes he l r (a + (x.2.length + 4)) (by simpa using hr) k1 s2 (by omega) (by omega)]
    simp only [Option.map_some, Nat.add_sub_cancel, g1, h3]
    have e1 : ((x.1.toNat : Nat) : Int) = x.1 := Int.toNat_of_nonneg k2.1
    rw [e1]
    have e2 : a + (x.2.length + 4) + tot 0 l = a + tot 0 (x :: l) := by rw [tot]; omega
    rw [e2]
/-- fields that come out of bytes are their bytes. -/
theorem cut_back {f : Nat → Nat} {n : Nat} (hf : ∀ i, f i < 256) : ∀ (r a : Nat) (l : List Fd) (e : Nat), cut f n r a = some (l, e) → a ≤ n → l.length ≤ r ∧ a ≤ e ∧ e ≤ n ∧ n - e ≤ 24 ∧ okF (n - e) l = true ∧ tot (n - e) l = n - a ∧ fes l = By.bl (fun i => f (a + i)) (e - a) ∧ ∀ x ∈ l, ∀ y ∈ x.2, y < 256
  | 0, a, l, e, h, ha => by
    rw [cut] at h
    split at h
    · cases h
      rename_i h2
      exact ⟨Nat.le_refl _, Nat.le_refl _, ha, h2, rfl, rfl, by rw [Nat.sub_self]; rfl, fun x hx => by cases hx⟩
    · cases h
  | r + 1, a, l, e, h, ha => by
    rw [cut] at h
    split at h
    · cases h
      rename_i h2
      exact ⟨Nat.zero_le _, Nat.le_refl _, ha, h2, rfl, rfl, by rw [Nat.sub_self]; rfl, fun x hx => by cases hx⟩
    · rename_i h2
      split at h
      · rename_i h3
        generalize hg : gt f (a + 2) 2 = g at h h3
        cases hc : cut f n r (a + g) with
        | none => rw [hc] at h; cases h
        | some x =>
          obtain ⟨l2, e2⟩ := x
          rw [hc] at h
          simp only [Option.map_some, Option.some.injEq, Prod.mk.injEq] at h
          obtain ⟨rfl, rfl⟩ := h
          obtain ⟨i1, i2, i3, i4, i5, i6, i7, i8⟩ := cut_back hf r (a + g) l2 e2 hc (by omega)
          have hlen : (By.bl (fun i => f (a + 4 + i)) (g - 4)).length + 4 = g := by rw [bl_len]; omega
          have ht : tot (n - e2) (((gt f a 2 : Nat), By.bl (fun i => f (a + 4 + i)) (g - 4)) :: l2) = n - a := by
            rw [tot]
            show (By.bl (fun i => f (a + 4 + i)) (g - 4)).length + 4 + tot (n - e2) l2 = n - a
            omega
          have g1 := gt_lt hf a 2
          refine ⟨by simpa using i1, by omega, i3, i4, okF_join i5 ⟨by show (0 : Int) ≤ ((gt f a 2 : Nat) : Int); omega, by show ((gt f a 2 : Nat) : Int) ≤ 65535; omega⟩ (by show 16 ≤ (By.bl (fun i => f (a + 4 + i)) (g - 4)).length + 4; omega) (by show ((By.bl (fun i => f (a + 4 + i)) (g - 4)).length + 4) % 4 = 0; rw [hlen]; exact h3.2.1) (by omega), ht, ?_, ?_⟩
          · rw [fes, i7, fe]
            show (pt (((gt f a 2 : Nat) : Int).toNat) 2 ++ (pt ((By.bl (fun i => f (a + 4 + i)) (g - 4)).length + 4) 2 ++ By.bl (fun i => f (a + 4 + i)) (g - 4))) ++ _ = _
            rw [hlen, Int.toNat_natCast, pt_gt hf, ← hg, pt_gt hf, hg]
            rw [show e2 - a = 2 + (2 + ((g - 4) + (e2 - (a + g)))) by omega, bl_add, bl_add, bl_add]
            simp only [List.append_assoc]
            have c1 : ∀ i, a + (2 + i) = a + 2 + i := fun i => by omega
            have c2 : ∀ i, a + (2 + (2 + i)) = a + 4 + i := fun i => by omega
            have c3 : ∀ i, a + (2 + (2 + (g - 4 + i))) = a + g + i := fun i => by omega
            simp only [c3, c2, c1]
          · intro x hx y hy
            rcases List.mem_cons.1 hx with rfl | hx
            · simp only [By.bl, List.mem_map] at hy
              obtain ⟨i, _, rfl⟩ := hy
              exact hf _
            · exact i8 x hx y hy
      · cases h
/-- bytes behind the end don't matter to the fields. -/
theorem cut_congr {f g : Nat → Nat} {n : Nat} : ∀ (r a : Nat) (l : List Fd) (e : Nat), cut f n r a = some (l, e) → a ≤ n → (∀ i, i < e → f i = g i) → cut g n r a = some (l, e)
  | 0, a, l, e, h, ha, hg => by
    rw [cut] at h ⊢
    exact h
  | r + 1, a, l, e, h, ha, hg => by
    rw [cut] at h ⊢
    split at h
    · rename_i h2; rw [if_pos h2]; exact h
    · rename_i h2
      rw [if_neg h2]
      split at h
      · rename_i h3
        cases hc : cut f n r (a + gt f (a + 2) 2) with
        | none => rw [hc] at h; cases h
        | some x =>
          obtain ⟨l2, e2⟩ := x
          rw [hc] at h
          simp only [Option.map_some, Option.some.injEq, Prod.mk.injEq] at h
          obtain ⟨rfl, rfl⟩ := h
          have hle : a + gt f (a + 2) 2 ≤ e2 := by
            have key : ∀ (r a : Nat) (l : List Fd) (e : Nat), cut f n r a = some (l, e) → a ≤ e := by
              intro r
              induction r with
              | zero => intro a l e h; rw [cut] at h; split at h <;> cases h; exact Nat.le_refl _
              | succ r ih =>
                intro a l e h
                rw [cut] at h
                split at h
                · cases h; exact Nat.le_refl _
                · split at h
                  · cases hc : cut f n r (a + gt f (a + 2) 2) with
                    | none => rw [hc] at h; cases h
                    | some x =>
                      obtain ⟨l2, e2⟩ := x
                      rw [hc] at h
                      simp only [Option.map_some, Option.some.injEq, Prod.mk.injEq] at h
                      obtain ⟨_, rfl⟩ := h
                      have := ih _ _ _ hc
                      omega
                  · cases h
            exact key _ _ _ _ hc
          have q1 : gt g a 2 = gt f a 2 := gt_congr 2 fun i hi => (hg _ (by omega)).symm
          have q2 : gt g (a + 2) 2 = gt f (a + 2) 2 := gt_congr 2 fun i hi => (hg _ (by omega)).symm
          have q3 : By.bl (fun i => g (a + 4 + i)) (gt f (a + 2) 2 - 4) = By.bl (fun i => f (a + 4 + i)) (gt f (a + 2) 2 - 4) := bl_congr fun i hi => (hg _ (by omega)).symm
          rw [q1, q2, if_pos h3, cut_congr r _ _ _ hc (by omega) hg, q3]
          rfl
      · cases h
end Go.Proofs.Ytmjbnbjkpimjmaa.Wi
