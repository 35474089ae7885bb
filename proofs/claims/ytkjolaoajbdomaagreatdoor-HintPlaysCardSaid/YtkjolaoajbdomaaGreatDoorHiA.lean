/-
  A hint's text, in numbers: it is read back, and nothing else is read.
  Conditions: none.
-/
import Derived.Test.YtkjolaoajbdomaaGreatDoorHf
import Derived.Test.YtkjolaoajbdomaaGreatDoorHiS
import Derived.Lib.AtoiTie
import Derived.Lib.ItoaNum
namespace Go.Proofs.YtkjolaoajbdomaaGreatDoor.Hi
open Go.RowKit
set_option linter.unusedVariables false
set_option linter.unusedSimpArgs false

def drf : List UInt8 := [100, 114, 105, 102, 116, 32]
/-- what the sum is of. -/
def hd (n : Int) : List UInt8 := drf ++ Lib.itoa n
/-- the sum: eight digits of the digest. -/
def sm (l : List UInt8) : List UInt8 := ((Hs.hxL (fun i => (Hs.md5 (fun j => (l.getD j 0).toNat) l.length).getD i 0) 16).map UInt8.ofNat).take 8
/-- the text of a hint. -/
def txt (n : Int) : List UInt8 := hd n ++ 32 :: (sm (hd n) ++ [10])
def okT (n : Int) : Bool := decide (-1000000000 ≤ n) && decide (n ≤ 1000000000)
def clampI (n : Int) : Int := max (-500000) (min n 500000)
theorem okT_iff {n : Int} : okT n = true ↔ -1000000000 ≤ n ∧ n ≤ 1000000000 := by
  unfold okT
  simp [Bool.and_eq_true]
theorem okT_not {n : Int} : okT n = false ↔ n < -1000000000 ∨ 1000000000 < n := by
  unfold okT
  rw [Bool.and_eq_false_iff]
  simp only [decide_eq_false_iff_not]
  omega
theorem sm_len (l : List UInt8) : (sm l).length = 8 := by
  unfold sm
  rw [List.length_take, List.length_map, Hs.hxL_len]
  omega

/-- a digit of the base ten. -/
def isD (c : UInt8) : Prop := 48 ≤ c.toNat ∧ c.toNat ≤ 57
instance (c : UInt8) : Decidable (isD c) := inferInstanceAs (Decidable (_ ∧ _))
def fold (a : Nat) (l : List UInt8) : Nat := l.foldl (fun a c => a * 10 + (c.toNat - 48)) a
theorem dig48 {k : Nat} (h : k < 10) : isD (UInt8.ofNat (48 + k)) ∧ (UInt8.ofNat (48 + k)).toNat = 48 + k := by
  have e : (UInt8.ofNat (48 + k)).toNat = 48 + k := by
    rw [UInt8.toNat_ofNat']
    omega
  exact ⟨⟨by omega, by omega⟩, e⟩
theorem dec_dig (u : Nat) : ∀ c ∈ Lib.decDigits u, isD c := by
  induction u using Nat.strongRecOn with
  | _ u ih =>
    intro c hc
    by_cases h : u < 10
    · rw [Lib.decDigits, dif_pos h] at hc
      rw [List.mem_singleton.1 hc]
      exact (dig48 h).1
    · rw [Lib.decDigits, dif_neg h] at hc
      rcases List.mem_append.1 hc with hc | hc
      · exact ih (u / 10) (by omega) c hc
      · rw [List.mem_singleton.1 hc]
        exact (dig48 (Nat.mod_lt _ (by omega))).1
theorem dec_fold (u : Nat) : fold 0 (Lib.decDigits u) = u := by
  induction u using Nat.strongRecOn with
  | _ u ih =>
    by_cases h : u < 10
    · rw [Lib.decDigits, dif_pos h]
      show 0 * 10 + ((UInt8.ofNat (48 + u)).toNat - 48) = u
      rw [(dig48 h).2]
      omega
    · rw [Lib.decDigits, dif_neg h]
      unfold fold
      rw [List.foldl_append]
      have := ih (u / 10) (by omega)
      unfold fold at this
      rw [this]
      show u / 10 * 10 + ((UInt8.ofNat (48 + u % 10)).toNat - 48) = u
      rw [(dig48 (Nat.mod_lt _ (by omega))).2]
      omega
theorem dec_pos (u : Nat) : Lib.decDigits u ≠ [] := by
  by_cases h : u < 10
  · rw [Lib.decDigits, dif_pos h]; simp
  · rw [Lib.decDigits, dif_neg h]; simp
theorem dec_len : ∀ (k u : Nat), u < 10 ^ (k + 1) → (Lib.decDigits u).length ≤ k + 1
  | 0, u, h => by
    rw [Lib.decDigits, dif_pos (by simpa using h)]
    simp
  | k + 1, u, h => by
    by_cases c : u < 10
    · rw [Lib.decDigits, dif_pos c]
      simp
    · rw [Lib.decDigits, dif_neg c, List.length_append]
      have := dec_len k (u / 10) (by rw [Nat.pow_succ] at h; omega)
      simp
      omega
theorem decFrom_fold : ∀ (l : List UInt8) (a : Nat), (∀ c ∈ l, isD c) → Lib.decFrom a l = some (fold a l)
  | [], a, _ => rfl
  | c :: r, a, h => by
    have hc := h c List.mem_cons_self
    have ih := decFrom_fold r (a * 10 + (c.toNat - 48)) (fun x hx => h x (List.mem_cons_of_mem _ hx))
    simp only [Lib.decFrom, Lib.digitVal]
    rw [if_pos (show 48 ≤ c.toNat ∧ c.toNat ≤ 57 from hc)]
    exact ih
theorem decNat_dec (u : Nat) : Lib.decNat (Lib.decDigits u) = some u := by
  have h := decFrom_fold _ 0 (dec_dig u)
  rw [dec_fold] at h
  unfold Lib.decNat
  rw [if_neg (by have := dec_pos u; simpa using this)]
  exact h
theorem itoa_len {n : Int} (h : okT n = true) : (Lib.itoa n).length ≤ 11 ∧ 0 < (Lib.itoa n).length := by
  have h' := okT_iff.1 h
  unfold Lib.itoa
  split
  · have := dec_len 9 n.natAbs (by have : (10 : Nat) ^ (9 + 1) = 10000000000 := by decide
                                   omega)
    simp
    omega
  · have := dec_len 9 n.toNat (by have : (10 : Nat) ^ (9 + 1) = 10000000000 := by decide
                                  omega)
    have p := List.length_pos_iff.2 (dec_pos n.toNat)
    omega
theorem atoi_itoa {n : Int} (h : okT n = true) : Lib.atoiAll (Lib.itoa n) = .ok n := by
  have hl := (itoa_len h).1
  rw [Lib.atoiAll_short _ (by omega)]
  have e : Lib.atoi (Lib.itoa n) = some n := by
    unfold Lib.itoa
    split
    · rename_i c
      simp only [Lib.atoi, beq_self_eq_true, if_true]
      rw [decNat_dec]
      simp
      omega
    · rename_i c
      have hd := decNat_dec n.toNat
      have dd := dec_dig n.toNat
      cases e : Lib.decDigits n.toNat with
      | nil => exact absurd e (dec_pos _)
      | cons b r =>
        rw [e] at hd dd
        have hb := dd b List.mem_cons_self
        have h1 : (b == 45) = false := by
          rw [beq_eq_false_iff_ne]
          rintro rfl
          exact absurd hb (by decide)
        have h2 : (b == 43) = false := by
          rw [beq_eq_false_iff_ne]
          rintro rfl
          exact absurd hb (by decide)
        simp only [Lib.atoi, h1, h2]
        rw [hd]
        simp
        omega
  rw [e]
  rfl
theorem itoa_32 (n : Int) : ∀ c ∈ Lib.itoa n, c ≠ 32 := by
  intro c hc
  have H : ∀ u, ∀ c ∈ Lib.decDigits u, c ≠ 32 := fun u c hc e => by
    have := dec_dig u c hc
    rw [e] at this
    exact absurd this (by decide)
  unfold Lib.itoa at hc
  split at hc
  · rcases List.mem_cons.1 hc with rfl | hc
    · decide
    · exact H _ c hc
  · exact H _ c hc
theorem itoa_inj {n m : Int} (hn : okT n = true) (hm : okT m = true) (h : Lib.itoa n = Lib.itoa m) : n = m := by
  have a := atoi_itoa hn
  rw [h, atoi_itoa hm] at a
  injection a with a
  exact a.symm

/-- the document's reading of a number. -/
def rdF : Nat → Nat → List UInt8 → Nat
  | 0, a, _ => a
  | k + 1, a, [] => a
  | k + 1, a, c :: r => if isD c then rdF k (a * 10 + (c.toNat - 48)) r else a
def rdN (b : List UInt8) : Int := if b.getD 6 0 = 45 then -(rdF 10 0 (b.drop 7) : Int) else rdF 10 0 (b.drop 6)
theorem rdF_fold : ∀ (l : List UInt8) (k a : Nat) (r : List UInt8), (∀ c ∈ l, isD c) → l.length ≤ k → rdF k a (l ++ 32 :: r) = fold a l
  | [], 0, a, r, _, _ => rfl
  | [], k + 1, a, r, _, _ => by
    show (if isD 32 then _ else a) = a
    rw [if_neg (by decide)]
  | c :: l, 0, a, r, _, h => absurd h (by simp)
  | c :: l, k + 1, a, r, hd, h => by
    show (if isD c then rdF k (a * 10 + (c.toNat - 48)) (l ++ 32 :: r) else a) = _
    rw [if_pos (hd c List.mem_cons_self), rdF_fold l k _ r (fun x hx => hd x (List.mem_cons_of_mem _ hx)) (by simpa using h)]
    rfl
theorem rd_txt {n : Int} (h : okT n = true) (r : List UInt8) : rdN (hd n ++ 32 :: r) = n := by
  have h' := okT_iff.1 h
  have e6 : (hd n ++ 32 :: r).drop 6 = Lib.itoa n ++ 32 :: r := by simp [hd, drf]
  have e7 : (hd n ++ 32 :: r).drop 7 = (Lib.itoa n ++ 32 :: r).drop 1 := by simp [hd, drf]
  have g6 : (hd n ++ 32 :: r).getD 6 0 = (Lib.itoa n ++ 32 :: r).getD 0 0 := by simp [hd, drf]
  have p10 : (10 : Nat) ^ (9 + 1) = 10000000000 := by decide
  unfold rdN
  rw [e6, e7, g6]
  unfold Lib.itoa
  split
  · rename_i c
    rw [if_pos (by simp)]
    show -((rdF 10 0 (Lib.decDigits n.natAbs ++ 32 :: r) : Nat) : Int) = n
    rw [rdF_fold _ _ _ _ (dec_dig _) (dec_len 9 _ (by omega)), dec_fold]
    omega
  · rename_i c
    have H : ¬ (Lib.decDigits n.toNat ++ 32 :: r).getD 0 0 = 45 := by
      have dd := dec_dig n.toNat
      cases e : Lib.decDigits n.toNat with
      | nil => exact absurd e (dec_pos _)
      | cons b l =>
        rw [e] at dd
        simp
        rintro rfl
        exact absurd (dd 45 List.mem_cons_self) (by decide)
    rw [if_neg H, rdF_fold _ _ _ _ (dec_dig _) (dec_len 9 _ (by omega)), dec_fold]
    omega
/-- what is read of bytes. -/
def prs (b : List UInt8) : Int × Int := if okT (rdN b) = true ∧ txt (rdN b) = b then (clampI (rdN b), 0) else (0, 4)
theorem prs_txt {n : Int} (h : okT n = true) : prs (txt n) = (clampI n, 0) := by
  have e : rdN (txt n) = n := rd_txt h _
  unfold prs
  rw [e, if_pos ⟨h, rfl⟩]
theorem prs_not {b : List UInt8} (h : ∀ m, okT m = true → txt m ≠ b) : prs b = (0, 4) := by
  unfold prs
  rw [if_neg (fun q => h _ q.1 q.2)]
theorem prs_one {b : List UInt8} {v : Int} (h : ∀ m, okT m = true → txt m = b → m = v) : prs b = if okT v = true ∧ txt v = b then (clampI v, 0) else (0, 4) := by
  by_cases c : okT v = true ∧ txt v = b
  · rw [if_pos c, ← c.2, prs_txt c.1]
  · rw [if_neg c, prs_not]
    intro m hm e
    have := h m hm e
    subst this
    exact c ⟨hm, e⟩
theorem front_one {α : Type} {c : α} : ∀ {a b x y : List α}, (∀ z ∈ a, z ≠ c) → (∀ z ∈ b, z ≠ c) → a ++ c :: x = b ++ c :: y → a = b ∧ x = y
  | [], [], x, y, _, _, h => ⟨rfl, by simpa using h⟩
  | [], b :: l, x, y, _, hb, h => by
    have := (List.cons.inj h).1
    exact absurd this.symm (hb b List.mem_cons_self)
  | a :: l, [], x, y, ha, _, h => by
    have := (List.cons.inj h).1
    exact absurd this (ha a List.mem_cons_self)
  | a :: l, b :: k, x, y, ha, hb, h => by
    obtain ⟨e, h⟩ := List.cons.inj h
    obtain ⟨e2, e3⟩ := front_one (fun z hz => ha z (List.mem_cons_of_mem _ hz)) (fun z hz => hb z (List.mem_cons_of_mem _ hz)) h
    exact ⟨by rw [e, e2], e3⟩
/-- what begins as a hint's text is that one or none. -/
theorem txt_front {n m : Int} {r : List UInt8} (hn : okT n = true) (hm : okT m = true) (h : txt m = hd n ++ 32 :: r) : m = n ∧ r = sm (hd n) ++ [10] := by
  have h' : drf ++ (Lib.itoa m ++ 32 :: (sm (hd m) ++ [10])) = drf ++ (Lib.itoa n ++ 32 :: r) := by
    unfold txt hd at h
    rw [List.append_assoc, List.append_assoc] at h
    exact h
  obtain ⟨e1, e2⟩ := front_one (itoa_32 m) (itoa_32 n) (List.append_cancel_left h')
  have e := itoa_inj hm hn e1
  subst e
  exact ⟨rfl, e2.symm⟩
theorem prs_front {n : Int} {r : List UInt8} (hn : okT n = true) (h : r ≠ sm (hd n) ++ [10]) : prs (hd n ++ 32 :: r) = (0, 4) :=
  prs_not fun m hm e => h (txt_front hn hm e).2
theorem txt_len {n : Int} : (txt n).length = (Lib.itoa n).length + 16 := by
  unfold txt hd drf
  simp [sm_len]

/-- a string cut at the first byte c. -/
theorem cut_list {a r : List UInt8} {c : UInt8} (h : ∀ z ∈ a, z ≠ c) : cutA ⟨(a ++ c :: r).toArray⟩ c = ⟨a.toArray⟩ ∧ cutB ⟨(a ++ c :: r).toArray⟩ c = ⟨r.toArray⟩ := by
  have E : ∀ {a r : List UInt8}, (∀ z ∈ a, z ≠ c) → Lib.indexByte (a ++ c :: r) c = (a.length : Int) := by
    intro a
    induction a with
    | nil => intro r _; simp [Lib.indexByte]
    | cons x l ih =>
      intro r h
      have := ih (r := r) (fun z hz => h z (List.mem_cons_of_mem _ hz))
      have hx := h x List.mem_cons_self
      simp [Lib.indexByte, hx, this]
  have d : di ⟨(a ++ c :: r).toArray⟩ c = a.length := by
    unfold di
    have := E (r := r) h
    rw [show (⟨(a ++ c :: r).toArray⟩ : ByteArray).data.toList = a ++ c :: r from rfl, this, if_neg (by omega)]
    rfl
  have z : (⟨(a ++ c :: r).toArray⟩ : ByteArray).size = a.length + 1 + r.length := by
    show (a ++ c :: r).toArray.size = _
    simp
    omega
  constructor
  · unfold cutA
    rw [d]
    apply ByteArray.ext
    rw [ByteArray.data_extract]
    apply Array.toList_inj.1
    simp
  · unfold cutB
    rw [d, z]
    apply ByteArray.ext
    rw [ByteArray.data_extract]
    apply Array.toList_inj.1
    simp
/-- the number that the program cuts out of a text. -/
def cutN (s : ByteArray) : ByteArray := cutA (cutB s 32) 32
theorem cutN_txt (n : Int) : cutN ⟨(txt n).toArray⟩ = ⟨(Lib.itoa n).toArray⟩ := by
  have e : txt n = [100, 114, 105, 102, 116] ++ 32 :: (Lib.itoa n ++ 32 :: (sm (hd n) ++ [10])) := by
    simp [txt, hd, drf]
  unfold cutN
  rw [e, (cut_list (by decide)).2, (cut_list (itoa_32 n)).1]
/-- what is made of the number. -/
def prsE (b : List UInt8) : Lib.NumEnd Int → Int × Int
  | .ok v => if okT v = true ∧ txt v = b then (clampI v, 0) else (0, 4)
  | _ => (0, 4)
theorem prs_end {b : List UInt8} {x : Lib.NumEnd Int} (H : ∀ m, okT m = true → txt m = b → x = .ok m) : prs b = prsE b x := by
  cases x with
  | ok v => exact prs_one fun m hm q => (Lib.NumEnd.ok.inj (H m hm q)).symm
  | _ => exact prs_not fun m hm q => nomatch (H m hm q)
theorem prs_cut (s : ByteArray) : prs s.data.toList = prsE s.data.toList (Lib.atoiAll (cutN s).data.toList) := by
  refine prs_end fun m hm e => ?_
  have : s = ⟨(txt m).toArray⟩ := by
    apply ByteArray.ext
    rw [e]
  rw [this, cutN_txt]
  have z := atoi_itoa hm
  generalize Lib.itoa m = l at *
  show Lib.atoiAll l.toArray.toList = _
  rw [List.toList_toArray]
  exact z
end Go.Proofs.YtkjolaoajbdomaaGreatDoor.Hi
