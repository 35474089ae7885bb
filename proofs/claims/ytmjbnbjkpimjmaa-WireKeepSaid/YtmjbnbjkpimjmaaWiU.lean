/-
  Decode of both sides, of whatever bytes.
  Conditions: none.
-/
import Derived.Test.YtmjbnbjkpimjmaaWiT
namespace Go.Proofs.Ytmjbnbjkpimjmaa.Wi
open Go.RowKit Go.ChangeShapes Go.WideShapes Go.ChangeAt Go.Joins By
set_option linter.unusedVariables false
set_option linter.unusedSimpArgs false

/-- what wire.Decode answers. -/
def PDec (D : Dc) (w : World) (e : Ending) (w' : World) : Prop := (∃ fv dv row, e = .returned (.tuple #[PV D.p fv dv, .int .i64 D.e]) ∧ Rowd w' w.heap.size fv row D.p.fs ∧ By.Own w' w.heap.size dv D.p.dig) ∧ Below w.heap.size w w'
theorem dec_is0 {f : Nat → Nat} {n : Nat} (h : (dec f n).e = 0) : ∃ q a, dec f n = ⟨0, q, a⟩ := by
  generalize dec f n = D at h
  obtain ⟨e, q, a⟩ := D
  simp only at h
  subst h
  exact ⟨q, a, rfl⟩
theorem Decode_any {w : World} {v : Value} {n : Nat} {f : Nat → Nat} (S : Sb w v n f) (hn : n ≤ 140737488351232) : Calls Try.prog 13 #[v] w fun e w' => PDec (dec f n) w e w' := by
  obtain ⟨a, cap, rfl, h1, h2, h3, h4, h5⟩ := S
  have E : ∀ err : Int, err ≠ 0 → dec f n = bad err → (∀ z, Below w.heap.size w z → Calls Try.prog 27 #[.slice a n cap] z fun e w' => e = .returned (.tuple #[pz, .int .i64 err]) ∧ Below z.heap.size z w') → Calls Try.prog 13 #[.slice a n cap] w fun e w' => PDec (dec f n) w e w' := fun err he hd HC => (Decode_err a n cap err he (Lib.hid HC)).mono fun e w' h => by
    obtain ⟨rfl, hb⟩ := h
    rw [hd]
    exact ⟨⟨.slice none 0 0, .slice none 0 0, [], rfl, Rowd.nil _ _, By.Own.nil _ _⟩, hb⟩
  by_cases c1 : n < 48 ∨ n % 4 ≠ 0
  · exact E 20 (by decide) (by rw [dec, if_pos c1]) fun z _ => cut_short a n cap c1 hn z
  obtain ⟨b, o, rfl, B⟩ := h4 (by omega)
  by_cases c2 : 1024 < n
  · exact E 21 (by decide) (by rw [dec, if_neg c1, if_pos c2]) fun z _ => cut_long _ n cap c1 c2 hn z
  by_cases c3 : btw (hd f).ver 1 4 = false
  · exact E 22 (by decide) (by rw [dec, if_neg c1, if_neg c2, if_pos c3]) fun z k => cut_ver (B.below k) c1 c2 c3
  have c4 : btw (hd f).ver 1 4 = true := by simpa using c3
  rcases dec_err f n with h0 | ⟨hk, hb⟩
  · obtain ⟨q, a, hd⟩ := dec_is0 h0
    rw [hd]
    exact Decode_ok B h1 h2 hd
  · refine E (dec f n).e (by omega) hb fun z k => (cut_c (B.below k) h1 h2 c1 c2 c4).mono fun e w' h => ?_
    rcases h.1 with ⟨d, r⟩ | ⟨l, a, fv, ad, _, d, _⟩
    · rw [d]; exact ⟨r, h.2⟩
    · rw [d] at hk; simp at hk
set_option maxRecDepth 100000 in
set_option maxHeartbeats 4000000 in
theorem rDecode_s1 {w : World} (a : Option Addr) (n cap : Nat) (hn : n ≤ 140737488351232) (h : n < 48) :
    Calls Try.prog 14 #[.slice a n cap] w fun e w' => RDec (bad 20) w e w' := by
  have q : (n : Int).tmod 4 = (n : Int) % 4 := Int.tmod_eq_emod_of_nonneg (by omega)
  have q0 : (0 : Int) ≤ (n : Int) := by omega
  have e1 : decide ((n : Int) < 48) = true := decide_eq_true (by omega)
  have NR := Lib.hid ((Blk.new' w #[.int .i64 0, .int .i64 0, .int .i64 0, .int .i64 0, .int .i64 0, .int .i64 0, .int .u32 0, .int .u32 0, .int .u32 0, .int .u64 0, .int .u64 0, .int .u64 0, .int .u64 0, .slice none 0 0, .int .i64 0, .int .u32 0, .slice none 0 0] 30).below (balloc (brefl _) (.cells #[.int .i64 0, .int .i64 0, .int .i64 0, .int .i64 0, .int .i64 0, .int .i64 0, .int .u32 0, .int .u32 0, .int .u32 0, .int .u64 0, .int .u64 0, .int .u64 0, .int .u64 0, .slice none 0 0, .int .i64 0, .int .u32 0, .slice none 0 0] 30)))
  have NP := Lib.hid (Blk.new' (w.alloc (.cells #[.int .i64 0, .int .i64 0, .int .i64 0, .int .i64 0, .int .i64 0, .int .i64 0, .int .u32 0, .int .u32 0, .int .u32 0, .int .u64 0, .int .u64 0, .int .u64 0, .int .u64 0, .slice none 0 0, .int .i64 0, .int .u32 0, .slice none 0 0] 30)) #[.int .i64 0, .int .i64 0, .int .i64 0, .int .i64 0, .int .i64 0, .int .i64 0, .int .u32 0, .int .u32 0, .int .u32 0, .int .u64 0, .int .u64 0, .int .u64 0, .int .u64 0, .slice none 0 0, .int .i64 0, .int .u32 0, .slice none 0 0] 30)
  have BB := Lib.hid (balloc (balloc (brefl w) (.cells #[.int .i64 0, .int .i64 0, .int .i64 0, .int .i64 0, .int .i64 0, .int .i64 0, .int .u32 0, .int .u32 0, .int .u32 0, .int .u64 0, .int .u64 0, .int .u64 0, .int .u64 0, .slice none 0 0, .int .i64 0, .int .u32 0, .slice none 0 0] 30)) (.cells #[.int .i64 0, .int .i64 0, .int .i64 0, .int .i64 0, .int .i64 0, .int .i64 0, .int .u32 0, .int .u32 0, .int .u32 0, .int .u64 0, .int .u64 0, .int .u64 0, .int .u64 0, .slice none 0 0, .int .i64 0, .int .u32 0, .slice none 0 0] 30))
  rw [show (w.alloc (.cells #[.int .i64 0, .int .i64 0, .int .i64 0, .int .i64 0, .int .i64 0, .int .i64 0, .int .u32 0, .int .u32 0, .int .u32 0, .int .u64 0, .int .u64 0, .int .u64 0, .int .u64 0, .slice none 0 0, .int .i64 0, .int .u32 0, .slice none 0 0] 30)).heap.size = w.heap.size + 1 by simp] at NP
  go_enter Try.func14, Try.ntmps14
  go_upto_region 3 with fail
  generalize (w.alloc (.cells #[.int .i64 0, .int .i64 0, .int .i64 0, .int .i64 0, .int .i64 0, .int .i64 0, .int .u32 0, .int .u32 0, .int .u32 0, .int .u64 0, .int .u64 0, .int .u64 0, .int .u64 0, .slice none 0 0, .int .i64 0, .int .u32 0, .slice none 0 0] 30)).alloc (.cells #[.int .i64 0, .int .i64 0, .int .i64 0, .int .i64 0, .int .i64 0, .int .i64 0, .int .u32 0, .int .u32 0, .int .u32 0, .int .u64 0, .int .u64 0, .int .u64 0, .int .u64 0, .slice none 0 0, .int .i64 0, .int .u32 0, .slice none 0 0] 30) = w2 at *
  have NF := Lib.hid (Blk.over NR.out (pvs pk0 (.slice none 0 0) (.slice none 0 0)) rfl)
  have BF := Lib.hid (below_over (Nat.le_refl _) (pvs pk0 (.slice none 0 0) (.slice none 0 0)) 0 BB.out)
  go_wp2_with (first | (refine wpList_load_mid rfl 30 _ rfl _ 0 rfl (pvs pk0 (.slice none 0 0) (.slice none 0 0)) _ NP.out.range Try.underlying30 rfl (by exact info_pk) ?_) | (refine wpList_store_mid rfl 30 _ _ rfl _ 0 (pvs pk0 (.slice none 0 0) (.slice none 0 0)).toArray rfl rfl NR.out.there (by exact info_pk) (all_oneCell_toArray (pvs_one _ _ _ rfl rfl)) ?_))
  exact bodyPost_ret (v := .tuple #[.agg (pvs pk0 (.slice none 0 0) (.slice none 0 0)).toArray, .int .i64 0, .int .i64 20]) (results_cell_slots rfl _ _ w.heap.size _ _ _ _ rfl rfl rfl NF.out.range Try.underlying30 rfl (by rw [pvs_len]; exact info_pk)) rfl ⟨⟨.slice none 0 0, .slice none 0 0, [], rfl, Rowd.nil _ _, By.Own.nil _ _⟩, BF.out⟩
set_option maxRecDepth 100000 in
set_option maxHeartbeats 4000000 in
theorem rDecode_s2 {w : World} (a : Option Addr) (n cap : Nat) (hn : n ≤ 140737488351232) (h : ¬ n < 48) (h2 : n % 4 ≠ 0) :
    Calls Try.prog 14 #[.slice a n cap] w fun e w' => RDec (bad 20) w e w' := by
  have q : (n : Int).tmod 4 = (n : Int) % 4 := Int.tmod_eq_emod_of_nonneg (by omega)
  have q0 : (0 : Int) ≤ (n : Int) := by omega
  have e1 : decide ((n : Int) < 48) = false := decide_eq_false (by omega)
  have e2 : ((n : Int) % 4 != 0) = true := by simp; omega
  have NR := Lib.hid ((Blk.new' w #[.int .i64 0, .int .i64 0, .int .i64 0, .int .i64 0, .int .i64 0, .int .i64 0, .int .u32 0, .int .u32 0, .int .u32 0, .int .u64 0, .int .u64 0, .int .u64 0, .int .u64 0, .slice none 0 0, .int .i64 0, .int .u32 0, .slice none 0 0] 30).below (balloc (brefl _) (.cells #[.int .i64 0, .int .i64 0, .int .i64 0, .int .i64 0, .int .i64 0, .int .i64 0, .int .u32 0, .int .u32 0, .int .u32 0, .int .u64 0, .int .u64 0, .int .u64 0, .int .u64 0, .slice none 0 0, .int .i64 0, .int .u32 0, .slice none 0 0] 30)))
  have NP := Lib.hid (Blk.new' (w.alloc (.cells #[.int .i64 0, .int .i64 0, .int .i64 0, .int .i64 0, .int .i64 0, .int .i64 0, .int .u32 0, .int .u32 0, .int .u32 0, .int .u64 0, .int .u64 0, .int .u64 0, .int .u64 0, .slice none 0 0, .int .i64 0, .int .u32 0, .slice none 0 0] 30)) #[.int .i64 0, .int .i64 0, .int .i64 0, .int .i64 0, .int .i64 0, .int .i64 0, .int .u32 0, .int .u32 0, .int .u32 0, .int .u64 0, .int .u64 0, .int .u64 0, .int .u64 0, .slice none 0 0, .int .i64 0, .int .u32 0, .slice none 0 0] 30)
  have BB := Lib.hid (balloc (balloc (brefl w) (.cells #[.int .i64 0, .int .i64 0, .int .i64 0, .int .i64 0, .int .i64 0, .int .i64 0, .int .u32 0, .int .u32 0, .int .u32 0, .int .u64 0, .int .u64 0, .int .u64 0, .int .u64 0, .slice none 0 0, .int .i64 0, .int .u32 0, .slice none 0 0] 30)) (.cells #[.int .i64 0, .int .i64 0, .int .i64 0, .int .i64 0, .int .i64 0, .int .i64 0, .int .u32 0, .int .u32 0, .int .u32 0, .int .u64 0, .int .u64 0, .int .u64 0, .int .u64 0, .slice none 0 0, .int .i64 0, .int .u32 0, .slice none 0 0] 30))
  rw [show (w.alloc (.cells #[.int .i64 0, .int .i64 0, .int .i64 0, .int .i64 0, .int .i64 0, .int .i64 0, .int .u32 0, .int .u32 0, .int .u32 0, .int .u64 0, .int .u64 0, .int .u64 0, .int .u64 0, .slice none 0 0, .int .i64 0, .int .u32 0, .slice none 0 0] 30)).heap.size = w.heap.size + 1 by simp] at NP
  go_enter Try.func14, Try.ntmps14
  go_upto_region 3 with fail
  generalize (w.alloc (.cells #[.int .i64 0, .int .i64 0, .int .i64 0, .int .i64 0, .int .i64 0, .int .i64 0, .int .u32 0, .int .u32 0, .int .u32 0, .int .u64 0, .int .u64 0, .int .u64 0, .int .u64 0, .slice none 0 0, .int .i64 0, .int .u32 0, .slice none 0 0] 30)).alloc (.cells #[.int .i64 0, .int .i64 0, .int .i64 0, .int .i64 0, .int .i64 0, .int .i64 0, .int .u32 0, .int .u32 0, .int .u32 0, .int .u64 0, .int .u64 0, .int .u64 0, .int .u64 0, .slice none 0 0, .int .i64 0, .int .u32 0, .slice none 0 0] 30) = w2 at *
  have NF := Lib.hid (Blk.over NR.out (pvs pk0 (.slice none 0 0) (.slice none 0 0)) rfl)
  have BF := Lib.hid (below_over (Nat.le_refl _) (pvs pk0 (.slice none 0 0) (.slice none 0 0)) 0 BB.out)
  go_wp2_with (first | (refine wpList_load_mid rfl 30 _ rfl _ 0 rfl (pvs pk0 (.slice none 0 0) (.slice none 0 0)) _ NP.out.range Try.underlying30 rfl (by exact info_pk) ?_) | (refine wpList_store_mid rfl 30 _ _ rfl _ 0 (pvs pk0 (.slice none 0 0) (.slice none 0 0)).toArray rfl rfl NR.out.there (by exact info_pk) (all_oneCell_toArray (pvs_one _ _ _ rfl rfl)) ?_))
  exact bodyPost_ret (v := .tuple #[.agg (pvs pk0 (.slice none 0 0) (.slice none 0 0)).toArray, .int .i64 0, .int .i64 20]) (results_cell_slots rfl _ _ w.heap.size _ _ _ _ rfl rfl rfl NF.out.range Try.underlying30 rfl (by rw [pvs_len]; exact info_pk)) rfl ⟨⟨.slice none 0 0, .slice none 0 0, [], rfl, Rowd.nil _ _, By.Own.nil _ _⟩, BF.out⟩
set_option maxRecDepth 100000 in
set_option maxHeartbeats 4000000 in
theorem rDecode_l {w : World} (a : Option Addr) (n cap : Nat) (hn : n ≤ 140737488351232) (h : ¬ (n < 48 ∨ n % 4 ≠ 0)) (h2 : 1024 < n) :
    Calls Try.prog 14 #[.slice a n cap] w fun e w' => RDec (bad 21) w e w' := by
  have q : (n : Int).tmod 4 = (n : Int) % 4 := Int.tmod_eq_emod_of_nonneg (by omega)
  have q0 : (0 : Int) ≤ (n : Int) := by omega
  have e1 : decide ((n : Int) < 48) = false := decide_eq_false (by omega)
  have e2 : ((n : Int) % 4 != 0) = false := by simp; omega
  have e3 : decide ((1024 : Int) < (n : Int)) = true := decide_eq_true (by omega)
  clear h
  have NR := Lib.hid ((Blk.new' w #[.int .i64 0, .int .i64 0, .int .i64 0, .int .i64 0, .int .i64 0, .int .i64 0, .int .u32 0, .int .u32 0, .int .u32 0, .int .u64 0, .int .u64 0, .int .u64 0, .int .u64 0, .slice none 0 0, .int .i64 0, .int .u32 0, .slice none 0 0] 30).below (balloc (brefl _) (.cells #[.int .i64 0, .int .i64 0, .int .i64 0, .int .i64 0, .int .i64 0, .int .i64 0, .int .u32 0, .int .u32 0, .int .u32 0, .int .u64 0, .int .u64 0, .int .u64 0, .int .u64 0, .slice none 0 0, .int .i64 0, .int .u32 0, .slice none 0 0] 30)))
  have NP := Lib.hid (Blk.new' (w.alloc (.cells #[.int .i64 0, .int .i64 0, .int .i64 0, .int .i64 0, .int .i64 0, .int .i64 0, .int .u32 0, .int .u32 0, .int .u32 0, .int .u64 0, .int .u64 0, .int .u64 0, .int .u64 0, .slice none 0 0, .int .i64 0, .int .u32 0, .slice none 0 0] 30)) #[.int .i64 0, .int .i64 0, .int .i64 0, .int .i64 0, .int .i64 0, .int .i64 0, .int .u32 0, .int .u32 0, .int .u32 0, .int .u64 0, .int .u64 0, .int .u64 0, .int .u64 0, .slice none 0 0, .int .i64 0, .int .u32 0, .slice none 0 0] 30)
  have BB := Lib.hid (balloc (balloc (brefl w) (.cells #[.int .i64 0, .int .i64 0, .int .i64 0, .int .i64 0, .int .i64 0, .int .i64 0, .int .u32 0, .int .u32 0, .int .u32 0, .int .u64 0, .int .u64 0, .int .u64 0, .int .u64 0, .slice none 0 0, .int .i64 0, .int .u32 0, .slice none 0 0] 30)) (.cells #[.int .i64 0, .int .i64 0, .int .i64 0, .int .i64 0, .int .i64 0, .int .i64 0, .int .u32 0, .int .u32 0, .int .u32 0, .int .u64 0, .int .u64 0, .int .u64 0, .int .u64 0, .slice none 0 0, .int .i64 0, .int .u32 0, .slice none 0 0] 30))
  rw [show (w.alloc (.cells #[.int .i64 0, .int .i64 0, .int .i64 0, .int .i64 0, .int .i64 0, .int .i64 0, .int .u32 0, .int .u32 0, .int .u32 0, .int .u64 0, .int .u64 0, .int .u64 0, .int .u64 0, .slice none 0 0, .int .i64 0, .int .u32 0, .slice none 0 0] 30)).heap.size = w.heap.size + 1 by simp] at NP
  go_enter Try.func14, Try.ntmps14
  go_upto_region 5 with fail
  generalize (w.alloc (.cells #[.int .i64 0, .int .i64 0, .int .i64 0, .int .i64 0, .int .i64 0, .int .i64 0, .int .u32 0, .int .u32 0, .int .u32 0, .int .u64 0, .int .u64 0, .int .u64 0, .int .u64 0, .slice none 0 0, .int .i64 0, .int .u32 0, .slice none 0 0] 30)).alloc (.cells #[.int .i64 0, .int .i64 0, .int .i64 0, .int .i64 0, .int .i64 0, .int .i64 0, .int .u32 0, .int .u32 0, .int .u32 0, .int .u64 0, .int .u64 0, .int .u64 0, .int .u64 0, .slice none 0 0, .int .i64 0, .int .u32 0, .slice none 0 0] 30) = w2 at *
  have NF := Lib.hid (Blk.over NR.out (pvs pk0 (.slice none 0 0) (.slice none 0 0)) rfl)
  have BF := Lib.hid (below_over (Nat.le_refl _) (pvs pk0 (.slice none 0 0) (.slice none 0 0)) 0 BB.out)
  go_wp2_with (first | (refine wpList_load_mid rfl 30 _ rfl _ 0 rfl (pvs pk0 (.slice none 0 0) (.slice none 0 0)) _ NP.out.range Try.underlying30 rfl (by exact info_pk) ?_) | (refine wpList_store_mid rfl 30 _ _ rfl _ 0 (pvs pk0 (.slice none 0 0) (.slice none 0 0)).toArray rfl rfl NR.out.there (by exact info_pk) (all_oneCell_toArray (pvs_one _ _ _ rfl rfl)) ?_))
  exact bodyPost_ret (v := .tuple #[.agg (pvs pk0 (.slice none 0 0) (.slice none 0 0)).toArray, .int .i64 0, .int .i64 21]) (results_cell_slots rfl _ _ w.heap.size _ _ _ _ rfl rfl rfl NF.out.range Try.underlying30 rfl (by rw [pvs_len]; exact info_pk)) rfl ⟨⟨.slice none 0 0, .slice none 0 0, [], rfl, Rowd.nil _ _, By.Own.nil _ _⟩, BF.out⟩
theorem rDecode_any {w : World} {v : Value} {n : Nat} {f : Nat → Nat} (S : Sb w v n f) (hn : n ≤ 140737488351232) : Calls Try.prog 14 #[v] w fun e w' => RDec (dec f n) w e w' := by
  obtain ⟨a, cap, rfl, h1, h2, h3, h4, h5⟩ := S
  by_cases c1 : n < 48 ∨ n % 4 ≠ 0
  · rw [show dec f n = bad 20 by rw [dec, if_pos c1]]
    by_cases c : n < 48
    · exact rDecode_s1 a n cap hn c
    · exact rDecode_s2 a n cap hn c (c1.resolve_left c)
  by_cases c2 : 1024 < n
  · rw [show dec f n = bad 21 by rw [dec, if_neg c1, if_pos c2]]
    exact rDecode_l a n cap hn c1 c2
  obtain ⟨b, o, rfl, B⟩ := h4 (by omega)
  exact rDecode_c B h1 h2 c1 c2
end Go.Proofs.Ytmjbnbjkpimjmaa.Wi
