/-
  Blanks and quoted words: the contracts of sundialref07.blank and quoted.
-/
import Derived.Test.YtoecgabdjpgleaaGreatDoorWdE
namespace Go.Proofs.YtoecgabdjpgleaaGreatDoor.Wd
open Go.ChangeShapes Go.WideShapes Go.ChangeAt Go.RowKit Go.Joins By
set_option linter.unusedVariables false
set_option linter.unusedSimpArgs false

set_option maxRecDepth 100000 in
set_option maxHeartbeats 4000000 in
theorem rblank_c (s : ByteArray) (w : World) :
    Calls Tryz.prog 57 #[.string s] w fun e w' => e = .returned (.bool (bl1 s)) ∧ w' = w := by
  go_enter Tryz.func57, Tryz.ntmps57
  go_wp2_with fail
  all_goals
    go_ret
    simp_all [bl1]

/-- v is a slice, and its cells hold these characters. -/
def Rc (w : World) (v : Value) (L : List (ByteArray × Bool)) : Prop :=
  ∃ a cap, v = .slice a L.length cap ∧ L.length ≤ cap ∧ cap ≤ 9223372036854775807 ∧ (0 < L.length → ∃ b off, a = some ⟨b, off, none⟩ ∧ b < w.heap.size ∧ ∀ j x, L[j]? = some x → w.cell? ⟨b, off + j * 2, none⟩ = some (.string x.1) ∧ w.cell? ⟨b, off + j * 2 + 1, none⟩ = some (.bool x.2))
theorem Rc.below {w w' : World} {v : Value} {L : List (ByteArray × Bool)} (h : Rc w v L) (q : Below w.heap.size w w') : Rc w' v L := by
  obtain ⟨a, cap, e, h1, h2, h3⟩ := h
  exact ⟨a, cap, e, h1, h2, fun hn => by obtain ⟨b, off, ea, hb, B⟩ := h3 hn; exact ⟨b, off, ea, Nat.lt_of_lt_of_le hb q.size, fun j x hj => ⟨(q.cell (p := ⟨b, _, none⟩) hb).trans (B j x hj).1, (q.cell (p := ⟨b, _, none⟩) hb).trans (B j x hj).2⟩⟩⟩
theorem cc_at : ∀ (L : List (ByteArray × Bool)) (j : Nat) (x : ByteArray × Bool), L[j]? = some x → (cc L)[j * 2]? = some (.string x.1) ∧ (cc L)[j * 2 + 1]? = some (.bool x.2)
  | [], j, x, h => by simp at h
  | y :: L, 0, x, h => by simp at h; subst h; simp [cc]
  | y :: L, j + 1, x, h => by
    have := cc_at L j x (by simpa using h)
    rw [show (j + 1) * 2 = j * 2 + 1 + 1 from by omega]
    simpa [cc] using this
theorem OwnC.rc {w : World} {base : Nat} {v : Value} {L : List (ByteArray × Bool)} (h : OwnC w base v L) : Rc w v L := by
  obtain ⟨h1, h2⟩ := h
  rcases h2 with ⟨rfl, h0⟩ | ⟨g, cap, cur, rfl, hb, hh, hc, hm, hs, ht⟩
  · exact ⟨none, 0, by rw [h0], by omega, by omega, fun hn => by omega⟩
  · refine ⟨_, cap, rfl, hc, by unfold maxLen at hm; omega, fun hn => ⟨g, 0, rfl, (Array.getElem?_eq_some_iff.1 hh).1, fun j x hj => ?_⟩⟩
    have hl : j < L.length := (List.getElem?_eq_some_iff.1 hj).1
    have := cc_at L j x hj
    rw [← ht, List.getElem?_take_of_lt (by omega), List.getElem?_take_of_lt (by omega)] at this
    simp only [Array.getElem?_toList] at this
    simp [World.cell?, hh, this]

/-- the text at i. -/
def tx (L : List (ByteArray × Bool)) (i : Nat) : ByteArray := (L.getD i (⟨#[]⟩, false)).1
/-- the bytes from i on. -/
def szs (L : List (ByteArray × Bool)) (i : Nat) : Nat := ((L.drop i).map fun x => x.1.size).sum
/-- a quoted word: its text, and the place behind its closing quote. -/
def qt (L : List (ByteArray × Bool)) : Nat → Nat → ByteArray → Option (ByteArray × Nat)
  | 0, _, _ => none
  | f + 1, i, s => if i < L.length then (if (tx L i).toList = [34] then some (s, i + 1) else if (tx L i).toList = [92] then (if i + 1 = L.length then none else qt L f (i + 2) (s ++ tx L (i + 1))) else qt L f (i + 1) (s ++ tx L i)) else none
def qR (at' : Nat) : Option (ByteArray × Nat) → Value
  | none => .tuple #[.string ⟨#[]⟩, .int .i64 at', .bool false]
  | some (s, k) => .tuple #[.string s, .int .i64 k, .bool true]
theorem szs_step (L : List (ByteArray × Bool)) (i : Nat) (h : i < L.length) : szs L i = (tx L i).size + szs L (i + 1) := by
  unfold szs tx
  rw [List.drop_eq_getElem_cons h, List.getD_eq_getElem?_getD, List.getElem?_eq_getElem h, List.map_cons, List.sum_cons]
  rfl
theorem szs_le (L : List (ByteArray × Bool)) : ∀ i, szs L i ≤ szs L 0
  | 0 => Nat.le_refl _
  | i + 1 => by
    have := szs_le L i
    by_cases h : i < L.length
    · have := szs_step L i h
      omega
    · have : szs L (i + 1) = 0 := by unfold szs; rw [List.drop_eq_nil_of_le (by omega)]; rfl
      omega
theorem tx_at (L : List (ByteArray × Bool)) (i : Nat) (h : i < L.length) : L[i]? = some (tx L i, (L.getD i (⟨#[]⟩, false)).2) := by
  unfold tx
  rw [List.getD_eq_getElem?_getD, List.getElem?_eq_getElem h]
  rfl

set_option maxRecDepth 100000 in
set_option maxHeartbeats 4000000 in
theorem rquoted_c {w : World} {v : Value} {L : List (ByteArray × Bool)} (R : Rc w v L) (p : Nat) (hp : p < L.length) (hs : szs L 0 ≤ 1099511627776) :
    Calls Tryz.prog 58 #[v, .int .i64 p] w fun e w' => e = .returned (qR p (qt L L.length (p + 1) ⟨#[]⟩)) ∧ w' = w := by
  obtain ⟨a, cap, rfl, h1, h2, h3⟩ := R
  obtain ⟨b, off, rfl, hbl, hK⟩ := h3 (by omega)
  have KK := Lib.hid hK
  have p0 : (p : Int) < 9223372036854775807 := by omega
  clear h3 hK
  go_enter Tryz.func58, Tryz.ntmps58
  go_wp2_with fail
  go_loopw [7, 8] (fun sv iv wr => ∃ k : Nat, ∃ s : ByteArray, ∃ f, k ≤ L.length ∧ iv = .int .i64 k ∧ sv = .string s ∧ L.length ≤ k + f ∧ s.size + szs L k ≤ 1099511627776 ∧ qt L L.length (p + 1) ⟨#[]⟩ = qt L f k s ∧ wr = w) (fun _ iv _ => L.length - (intOf iv).toNat)
  case atStart => exact ⟨p + 1, ⟨#[]⟩, L.length, hp, by go_num, rfl, by omega, by have := szs_le L (p + 1); show 0 + _ ≤ _; omega, rfl, rfl⟩
  case round =>
    obtain ⟨k, s, f, hk, rfl, rfl, hf, hz, hq, rfl⟩ := hrel
    by_cases c : k < L.length
    · have f1 : decide ((k : Int) < (L.length : Int)) = true := by rw [decide_eq_true_iff]; omega
      obtain ⟨f', rfl⟩ : ∃ f', f = f' + 1 := ⟨f - 1, by omega⟩
      have k1 : (k : Int) < (L.length : Int) := by omega
      obtain ⟨g1, g2⟩ := KK.out k _ (tx_at L k c)
      have Z := szs_step L k c
      by_cases x1 : (tx L k).toList = [34]
      · have x1b : ((tx L k).toList == [34]) = true := by rw [x1]; rfl
        go_wp2_with fail
        exact bodyPost_ret (v := .tuple #[.string s, .int .i64 ((k : Int) + 1), .bool true]) (by simp [results, Tryz.results58, go_sem]) rfl ⟨by rw [qt, if_pos c, if_pos x1]; simp [qR], rfl⟩
      · have x1b : ((tx L k).toList == [34]) = false := by rw [beq_eq_false_iff_ne]; exact x1
        by_cases x2 : (tx L k).toList = [92]
        · have x2b : ((tx L k).toList == [92]) = true := by rw [x2]; rfl
          by_cases c2 : k + 1 = L.length
          · have HQ : Hid (qt L (f' + 1) k s = none) := Lib.hid (by rw [qt, if_pos c, if_neg x1, if_pos x2, if_pos c2])
            have f2 : ((k : Int) + 1 == (L.length : Int)) = true := by rw [beq_iff_eq]; omega
            have HE := Lib.hid (hq.trans HQ.out)
            clear hq
            go_wp2_with fail
            exact bodyPost_ret (v := .tuple #[.string ⟨#[]⟩, .int .i64 p, .bool false]) (by simp [results, Tryz.results58, go_sem]) rfl ⟨by rw [HE.out]; rfl, rfl⟩
          · have c3 : k + 1 < L.length := by omega
            have HQ : Hid (qt L (f' + 1) k s = qt L f' (k + 2) (s ++ tx L (k + 1))) := Lib.hid (by rw [qt, if_pos c, if_neg x1, if_pos x2, if_neg c2])
            have f2 : ((k : Int) + 1 == (L.length : Int)) = false := by rw [beq_eq_false_iff_ne]; omega
            have k2 : (k : Int) + 1 < (L.length : Int) := by omega
            have kn : ((k : Int) + 1).toNat = k + 1 := by omega
            obtain ⟨m1, m2⟩ := KK.out (k + 1) _ (tx_at L (k + 1) c3)
            have Z2 : szs L (k + 1) = (tx L (k + 1)).size + szs L (k + 2) := szs_step L (k + 1) c3
            have HE := Lib.hid (hq.trans HQ.out)
            clear hq
            go_wp2_with fail
            go_roundw
            case rel => exact ⟨k + 2, s ++ tx L (k + 1), f', by omega, by go_num, rfl, by omega, by rw [ByteArray.size_append]; omega, HE.out, trivial⟩
            case measure => simp [intOf]; omega
        · have x2b : ((tx L k).toList == [92]) = false := by rw [beq_eq_false_iff_ne]; exact x2
          have HQ : Hid (qt L (f' + 1) k s = qt L f' (k + 1) (s ++ tx L k)) := Lib.hid (by rw [qt, if_pos c, if_neg x1, if_neg x2])
          have HE := Lib.hid (hq.trans HQ.out)
          clear hq
          go_wp2_with fail
          go_roundw
          case rel => exact ⟨k + 1, s ++ tx L k, f', by omega, by go_num, rfl, by omega, by rw [ByteArray.size_append]; omega, HE.out, trivial⟩
          case measure => simp [intOf]; omega
    · have f1 : decide ((k : Int) < (L.length : Int)) = false := by rw [decide_eq_false_iff_not]; omega
      have HQ : Hid (qt L f k s = none) := Lib.hid (by
        cases f with
        | zero => rfl
        | succ f => rw [qt, if_neg c])
      have HE := Lib.hid (hq.trans HQ.out)
      clear hq
      go_wp2_with fail
      exact bodyPost_ret (v := .tuple #[.string ⟨#[]⟩, .int .i64 p, .bool false]) (by simp [results, Tryz.results58, go_sem]) rfl ⟨by rw [HE.out]; rfl, rfl⟩
end Go.Proofs.YtoecgabdjpgleaaGreatDoor.Wd
