/-
  NMEA lines that a statement puts together and turns a character of.
  Conditions: the body has no more than 2^60 bytes.
-/
import Derived.Test.YtoecgabdjpgleaaGreatDoorRdN
namespace Go.Proofs.YtoecgabdjpgleaaGreatDoor.Rd
open Go.RowKit Cv
set_option linter.unusedVariables false
set_option linter.unusedSimpArgs false

theorem NMEA_c (s : ByteArray) (w : World) (hs : s.size ≤ 2305843009213693952) :
    Calls Tryz.prog 6 #[.string s] w fun e w' => e = nmE s ∧ Below w.heap.size w w' := by
  unfold nmE
  by_cases h : okL s
  · rw [if_pos h]
    by_cases k : sumL s = sumT (bodyL s)
    · rw [if_pos k]
      exact NMEA_body s (bodyL s) w hs (Nat.le_trans (size_le _ _ _) hs) (by rw [bd_yes h, if_pos k, if_pos k])
    · rw [if_neg k]
      exact NMEA_bad s w hs 31 rfl (by rw [bd_yes h, if_neg k, if_neg k])
  · rw [if_neg h]
    exact NMEA_bad s w hs 4 rfl (bd_no h)
/-- the second result of what NMEA answers, as a number. -/
theorem nm_kind (s : ByteArray) : ∃ t e : Int, nmE s = .returned (.tuple #[.int .i64 t, .int .i64 e]) ∧ (okL s → sumL s = sumT (bodyL s) → e = 0 ∨ e = 5) ∧ (okL s → sumL s ≠ sumT (bodyL s) → e = 31) ∧ (¬ okL s → e = 4) := by
  unfold nmE
  by_cases h : okL s
  · rw [if_pos h]
    by_cases k : sumL s = sumT (bodyL s)
    · rw [if_pos k]
      unfold bdN
      refine ⟨_, _, rfl, fun _ _ => ?_, fun _ q => absurd k q, fun q => absurd h q⟩
      by_cases c : isT (bodyL s) = true
      · rw [if_pos c]; exact .inl rfl
      · rw [if_neg c]; exact .inr rfl
    · rw [if_neg k]
      exact ⟨_, _, rfl, fun _ q => absurd q k, fun _ _ => rfl, fun q => absurd h q⟩
  · rw [if_neg h]
    exact ⟨_, _, rfl, fun q => absurd q h, fun q => absurd q h, fun _ => rfl⟩
theorem app_list (a b : ByteArray) : (a ++ b).data.toList = a.data.toList ++ b.data.toList := by simp
theorem len_list (a : ByteArray) : a.data.toList.length = a.size := by rw [Array.length_toList]; rfl
theorem gn_left {a b : ByteArray} {i : Nat} (h : i < a.size) : Wd.gn (a ++ b) i = Wd.gn a i := by
  unfold Wd.gn
  rw [app_list, List.getD_eq_getElem?_getD, List.getElem?_append_left (by rw [len_list]; exact h), ← List.getD_eq_getElem?_getD]
theorem gn_right (a b : ByteArray) (i : Nat) : Wd.gn (a ++ b) (a.size + i) = Wd.gn b i := by
  unfold Wd.gn
  rw [app_list, List.getD_eq_getElem?_getD, List.getElem?_append_right (by rw [len_list]; omega), len_list, show a.size + i - a.size = i from by omega, ← List.getD_eq_getElem?_getD]
theorem ext_gn {a b : ByteArray} (h : a.size = b.size) (k : ∀ i, i < a.size → Wd.gn a i = Wd.gn b i) : a = b := by
  apply ByteArray.ext
  apply Array.toList_inj.1
  apply List.ext_getElem (by rw [len_list, len_list, h])
  intro i h1 h2
  have q := k i (by rw [len_list] at h1; exact h1)
  unfold Wd.gn at q
  rw [List.getD_eq_getElem?_getD, List.getD_eq_getElem?_getD, List.getElem?_eq_getElem h1, List.getElem?_eq_getElem h2] at q
  exact UInt8.toNat_inj.1 q
theorem dd_size (x : Nat) : (dd x).size = 2 := rfl
theorem dd_gn (x : Nat) (h : x < 256) : Wd.gn (dd x) 0 = cg (x / 16) ∧ Wd.gn (dd x) 1 = cg (x % 16) := by
  have a := cg_lt (k := x / 16) (by omega)
  have b := cg_lt (k := x % 16) (by omega)
  constructor
  · show (UInt8.ofNat (cg (x / 16))).toNat = _
    simp
    omega
  · show (UInt8.ofNat (cg (x % 16))).toNat = _
    simp
    omega
theorem cg_hx (k : Nat) (h : k < 16) : hxd (cg k) = true := by
  unfold cg hxd
  split <;> simp <;> omega
theorem cg_inj {a b : Nat} (ha : a < 16) (hb : b < 16) (h : cg a = cg b) : a = b := by
  unfold cg at h
  split at h <;> split at h <;> omega
theorem dd_inj {x y : Nat} (hx : x < 256) (hy : y < 256) (h : dd x = dd y) : x = y := by
  obtain ⟨a, b⟩ := dd_gn x hx
  obtain ⟨c, d⟩ := dd_gn y hy
  rw [h] at a b
  have e := cg_inj (by omega) (by omega) (a.symm.trans c)
  have f := cg_inj (by omega) (by omega) (b.symm.trans d)
  omega
/-- the line of a body. -/
def mkL (s : ByteArray) : ByteArray := ((⟨#[36]⟩ ++ s) ++ ⟨#[42]⟩) ++ sumT s
theorem mk_size (s : ByteArray) : (mkL s).size = s.size + 4 := by
  rw [mkL, ByteArray.size_append, ByteArray.size_append, ByteArray.size_append, sumT, dd_size]
  show 1 + s.size + 1 + 2 = _
  omega
theorem mk_gn (s : ByteArray) : Wd.gn (mkL s) 0 = 36 ∧ (∀ i, i < s.size → Wd.gn (mkL s) (i + 1) = Wd.gn s i) ∧ Wd.gn (mkL s) (s.size + 1) = 42 ∧ Wd.gn (mkL s) (s.size + 2) = Wd.gn (sumT s) 0 ∧ Wd.gn (mkL s) (s.size + 3) = Wd.gn (sumT s) 1 := by
  have z1 : (⟨#[36]⟩ ++ s : ByteArray).size = 1 + s.size := by rw [ByteArray.size_append]; rfl
  have z2 : ((⟨#[36]⟩ ++ s) ++ ⟨#[42]⟩ : ByteArray).size = s.size + 2 := by rw [ByteArray.size_append, z1]; show 1 + s.size + 1 = _; omega
  refine ⟨?_, fun i hi => ?_, ?_, ?_, ?_⟩
  · rw [mkL, gn_left (by omega), gn_left (by omega), gn_left (by decide)]
    decide
  · rw [mkL, gn_left (by omega), gn_left (by omega), show i + 1 = (⟨#[36]⟩ : ByteArray).size + i by show i + 1 = 1 + i; omega, gn_right]
  · rw [mkL, gn_left (by omega), show s.size + 1 = (⟨#[36]⟩ ++ s : ByteArray).size + 0 by omega, gn_right]
    decide
  · rw [mkL, show s.size + 2 = ((⟨#[36]⟩ ++ s) ++ ⟨#[42]⟩ : ByteArray).size + 0 by omega, gn_right]
  · rw [mkL, show s.size + 3 = ((⟨#[36]⟩ ++ s) ++ ⟨#[42]⟩ : ByteArray).size + 1 by omega, gn_right]
/-- the line of a body is never told a wrong sum. -/
theorem mk_right (s : ByteArray) : sumL (mkL s) = sumT (bodyL (mkL s)) := by
  obtain ⟨g0, g1, g2, g3, g4⟩ := mk_gn s
  have z := mk_size s
  have eb : bodyL (mkL s) = s := by
    apply ext_gn
    · rw [bodyL, size_ext _ _ _ (by omega)]; omega
    · intro i hi
      rw [bodyL, size_ext _ _ _ (by omega)] at hi
      rw [bodyL, gn_ext (by omega), Nat.add_comm, g1 i (by omega)]
  have es : sumL (mkL s) = sumT s := by
    apply ext_gn
    · rw [sumL, size_ext _ _ _ (by omega), sumT, dd_size]; omega
    · intro i hi
      rw [sumL, size_ext _ _ _ (by omega)] at hi
      rw [sumL, gn_ext (by omega)]
      have : i = 0 ∨ i = 1 := by omega
      rcases this with e | e
      · subst e; rw [show (mkL s).size - 2 + 0 = s.size + 2 by omega]; exact g3
      · subst e; rw [show (mkL s).size - 2 + 1 = s.size + 3 by omega]; exact g4
  rw [es, eb]
theorem xs_turn {s r : ByteArray} {i t : Nat} (h : ∀ j, Wd.gn r j = if j = i then Wd.gn s j ^^^ t else Wd.gn s j) : ∀ k, xs r k = if i < k then xs s k ^^^ t else xs s k
  | 0 => rfl
  | k + 1 => by
    have ih := xs_turn h k
    rw [xs, xs, ih, h k]
    by_cases c : i < k
    · rw [if_pos c, if_neg (by omega), if_pos (by omega), Nat.xor_assoc, Nat.xor_comm t, ← Nat.xor_assoc]
    · rw [if_neg c]
      by_cases d : k = i
      · rw [if_pos d, if_pos (by omega), Nat.xor_assoc]
      · rw [if_neg d, if_neg (by omega)]
theorem xor_ne (a q : Nat) : a ^^^ (q + 1) ≠ a := fun e => by
  have : a ^^^ (q + 1) ^^^ a = 0 := by rw [e, Nat.xor_self]
  rw [Nat.xor_comm (a ^^^ (q + 1)) a, ← Nat.xor_assoc, Nat.xor_self, Nat.zero_xor] at this
  omega
/-- a line with one character of its body turned is none, or its sum is wrong. -/
theorem mk_turned {s r : ByteArray} {i t : Nat} (hi : i < s.size) (hz : r.size = s.size + 4) (h : ∀ j, j < r.size → Wd.gn r j = if j = i + 1 then Wd.gn (mkL s) j ^^^ (t + 1) else Wd.gn (mkL s) j) (k : okL r) : sumL r ≠ sumT (bodyL r) := by
  obtain ⟨g0, g1, g2, g3, g4⟩ := mk_gn s
  have es : sumL r = sumT s := by
    apply ext_gn
    · rw [sumL, size_ext _ _ _ (by omega), sumT, dd_size]; omega
    · intro j hj
      rw [sumL, size_ext _ _ _ (by omega)] at hj
      rw [sumL, gn_ext (by omega), h _ (by omega), if_neg (by omega)]
      have : j = 0 ∨ j = 1 := by omega
      rcases this with e | e
      · subst e; rw [show r.size - 2 + 0 = s.size + 2 by omega]; exact g3
      · subst e; rw [show r.size - 2 + 1 = s.size + 3 by omega]; exact g4
  have bz : (bodyL r).size = s.size := by rw [bodyL, size_ext _ _ _ (by omega)]; omega
  have bg : ∀ j, Wd.gn (bodyL r) j = if j = i then Wd.gn s j ^^^ (t + 1) else Wd.gn s j := fun j => by
    by_cases c : j < s.size
    · rw [bodyL, gn_ext (by omega), Nat.add_comm, h _ (by omega), g1 j c]
      by_cases d : j = i
      · rw [if_pos (by omega), if_pos d]
      · rw [if_neg (by omega), if_neg d]
    · have a : Wd.gn (bodyL r) j = 0 := by
        unfold Wd.gn
        rw [List.getD_eq_getElem?_getD, List.getElem?_eq_none (by rw [len_list]; omega)]
        rfl
      have b : Wd.gn s j = 0 := by
        unfold Wd.gn
        rw [List.getD_eq_getElem?_getD, List.getElem?_eq_none (by rw [len_list]; omega)]
        rfl
      rw [a, b, if_neg (by omega)]
  intro q
  rw [es, sumT, sumT, bz] at q
  have e := dd_inj (xs_lt _ _) (xs_lt _ _) q
  rw [xs_turn bg, if_pos hi] at e
  exact xor_ne _ _ e.symm
/-- a string's bytes in memory, one of them turned, as a string again. -/
def tuS (s : ByteArray) (i y : Nat) : ByteArray := By.bs8 (By.bl (fun j => if j = i then y else Wd.gn s j) s.size)
theorem bs8_gn (f : Nat → Nat) (n j : Nat) (hj : j < n) (hf : f j < 256) : Wd.gn (By.bs8 (By.bl f n)) j = f j := by
  have e : (By.bs8 (By.bl f n)).data.toList = (By.bl f n).map UInt8.ofNat := rfl
  unfold Wd.gn
  rw [e, List.getD_eq_getElem?_getD, List.getElem?_map, By.bl, List.getElem?_map, List.getElem?_range hj]
  simp
  omega
theorem bs8_size (f : Nat → Nat) (n : Nat) : (By.bs8 (By.bl f n)).size = n := by
  have e : (By.bs8 (By.bl f n)).data.toList = (By.bl f n).map UInt8.ofNat := rfl
  rw [← len_list, e, List.length_map, By.bl, List.length_map, List.length_range]
theorem conv_str (w : World) (s : ByteArray) : (convert 9 31 (.string s)).run Tryz.prog w = .ok (.slice (some ⟨w.heap.size, 0, none⟩) s.size (grownCap w s.size 0 5)) (Lib.bytesWorld w 5 s) :=
  Lib.run_convert_string_bytes w 9 31 5 s Tryz.underlying9 Tryz.underlying31 Tryz.underlying5
theorem conv_below (w : World) (s : ByteArray) : Below w.heap.size w (Lib.bytesWorld w 5 s) :=
  ⟨rfl, rfl, rfl, by rw [Lib.bytesWorld_size]; omega, fun j hj => Lib.bytesWorld_at_old w _ s j hj⟩
/-- a block of bytes that may be written. -/
def Bw (w : World) (b n : Nat) (f : Nat → Nat) : Prop := b < w.heap.size ∧ ∀ i, i < n → w.cell? ⟨b, i, none⟩ = some (.int .u8 (f i)) ∧ w.frozen? ⟨b, i, none⟩ = false
theorem conv_bw (w : World) (s : ByteArray) : Bw (Lib.bytesWorld w 5 s) w.heap.size s.size (Wd.gn s) := by
  have hg := grownCap_ge w s.size 0 5
  have hz : (Lib.bytesCells w 5 s).size = grownCap w s.size 0 5 := by
    unfold Lib.bytesCells
    rw [Array.size_append, Array.size_map, Array.size_replicate]
    show s.size + _ = _
    omega
  refine ⟨by rw [Lib.bytesWorld_size]; omega, fun i hi => ⟨Lib.bytesWorld_cell w _ _ i hi, ?_⟩⟩
  simp only [World.frozen?, Lib.bytesWorld_at_new]
  rw [hz]
  simp
  omega
theorem Bw.below {w w' : World} {b n : Nat} {f : Nat → Nat} (h : Bw w b n f) (k : Below w.heap.size w w') : Bw w' b n f :=
  ⟨Nat.lt_of_lt_of_le h.1 k.size, fun i hi => ⟨(k.cell (p := ⟨b, i, none⟩) h.1).trans (h.2 i hi).1, (k.frozen (p := ⟨b, i, none⟩) h.1).trans (h.2 i hi).2⟩⟩
theorem Bw.set {w : World} {b n : Nat} {f : Nat → Nat} (h : Bw w b n f) {i : Nat} (hi : i < n) (y : Nat) : Bw (w.setCell ⟨b, i, none⟩ (.int .u8 (y : Int))) b n (fun j => if j = i then y else f j) := by
  refine ⟨by simpa using h.1, fun j hj => ⟨?_, by rw [World.frozen?_setCell]; exact (h.2 j hj).2⟩⟩
  show (w.setCell ⟨b, i, none⟩ (.int .u8 (y : Int))).cell? ⟨b, j, none⟩ = some (.int .u8 ((if j = i then y else f j : Nat) : Int))
  by_cases c : j = i
  · subst c
    rw [if_pos rfl]
    exact World.cell?_setCell_same _ _ _ (h.2 j hj).1
  · rw [if_neg c]
    exact (World.cell?_setCell_other _ _ _ _ (by first | (simp; done) | (simp; omega))).trans (h.2 j hj).1
theorem Bw.conv {w : World} {b n : Nat} {f : Nat → Nat} (h : Bw w b n f) (hf : ∀ i, f i < 256) (cap : Nat) : (convert 31 9 (.slice (some ⟨b, 0, none⟩) n cap)).run Tryz.prog w = .ok (.string (By.bs8 (By.bl f n))) w :=
  By.conv_bs ⟨h.1, hf, fun i hi => by rw [Nat.zero_add]; exact (h.2 i hi).1⟩ cap
end Go.Proofs.YtoecgabdjpgleaaGreatDoor.Rd
