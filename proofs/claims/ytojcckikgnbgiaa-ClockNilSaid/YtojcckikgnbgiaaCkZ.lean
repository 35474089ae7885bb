/-
  The program's clock is what a clock is to be: New, Read, Update, Freq, Spiking, and of a clock that isn't there.
  Conditions: none but that the clock lies in memory and is in order.
-/
import Derived.Test.YtojcckikgnbgiaaCkX
namespace Go.Proofs.Ytojcckikgnbgiaa.Ck
open Go.RowKit Go.ChangeShapes Go.WideShapes Go.ChangeAt Go.Joins Fl
set_option linter.unusedVariables false
set_option linter.unusedSimpArgs false

theorem tk_of {c : Clk} {r o : Int} (q : rdO c r) (h : ¬ (o < -68719476736 ∨ 68719476736 < o)) : upd c r o = ((tk c r (rdV c r) o).1, (tk c r (rdV c r) o).2, 0) := by
  unfold upd tk
  rw [if_neg (fun z => z q), if_neg h]
  split
  · rfl
  · split
    · rfl
    · split
      · rfl
      · split <;> rfl
/-- the program's clock in a block. -/
def Pk (w : World) (b : Nat) (c : Clk) : Prop := Blk w b (pvs c.base c.at' c.freq c.phase (stV c)) ∧ (c.state = 0 ∨ c.last = c.at')
theorem take_c {w : World} {b k : Nat} {c : Clk} (h : Pk w b c) (hk : k ≤ 1000) (hi : In k c) (r o : Int) (hr : -9223372036854775808 ≤ r ∧ r ≤ 9223372036854775807) (q : rdO c r) (ho : -68719476736 ≤ o ∧ o ≤ 68719476736) :
    Calls Try.prog 18 #[.pointer (some ⟨b, 0, none⟩), .int .i64 r, .int .i64 (rdV c r), .int .i64 o] w fun e w' => e = .returned (.int .i64 (tk c r (rdV c r) o).2) ∧ Pk w' b (tk c r (rdV c r) o).1 ∧ Tu (Td b) w w' := by
  have rd := hi.read q
  have rl : c.at' ≤ r ∧ r ≤ 2305843009213693952 ∧ 0 ≤ r ∧ 0 ≤ c.at' := by
    obtain ⟨_, _, h3, _⟩ := hi
    unfold rdO at q
    omega
  obtain ⟨hb, hl⟩ := h
  have st := hi.2.2.2.2.2.1
  have sn := hi.2.2.2.2.2.2.2
  unfold tk
  rcases st with s0 | s1 | ⟨s2, _⟩
  · rw [if_pos s0]
    rw [stV0 s0] at hb
    refine (take_0 (s := 0) hb r (rdV c r) o (by omega) ho).mono ?_
    rintro e w2 ⟨rfl, h2, ht⟩
    exact ⟨rfl, ⟨h2, .inr rfl⟩, ht⟩
  · have l1 : c.last = c.at' := hl.resolve_left (by omega)
    rw [if_neg (by omega)]
    rw [stV1 s1] at hb
    by_cases z : -134217 ≤ o ∧ o ≤ 134217
    · rw [if_pos z]
      refine (take_s1 (s := 0) hb r (rdV c r) o hi.1 ⟨rl.2.2.2, rl.1⟩ rl.2.1 z (frq c r o) (by unfold frq; rw [l1])).mono ?_
      rintro e w2 ⟨rfl, h2, ht⟩
      exact ⟨rfl, ⟨h2, .inr rfl⟩, ht⟩
    · rw [if_neg z, if_pos s1]
      refine (take_1 (s := 0) hb r (rdV c r) o (by omega)).mono ?_
      rintro e w2 ⟨rfl, h2, ht⟩
      exact ⟨rfl, ⟨h2, .inr l1⟩, ht⟩
  · have l1 : c.last = c.at' := hl.resolve_left (by omega)
    rw [if_neg (by omega)]
    have hb' := hb
    rw [stV2 s2] at hb
    by_cases z : -134217 ≤ o ∧ o ≤ 134217
    · rw [if_pos z]
      refine (take_s2 hb r (rdV c r) o hi.1 ⟨rl.2.2.2, rl.1⟩ rl.2.1 z (frq c r o) (by unfold frq; rw [l1])).mono ?_
      rintro e w2 ⟨rfl, h2, ht⟩
      exact ⟨rfl, ⟨h2, .inr rfl⟩, ht⟩
    · rw [if_neg z, if_neg (by omega)]
      by_cases p : r - c.since < 314572800
      · rw [if_pos p]
        refine (take_2 hb r (rdV c r) o (by omega) (by omega) p).mono ?_
        rintro e w2 ⟨rfl, h2, ht⟩
        exact ⟨rfl, ⟨by rw [stV2 s2]; exact h2, .inr l1⟩, ht⟩
      · rw [if_neg p]
        refine (take_3 hb r (rdV c r) o (by omega) (by omega) p (by omega) ho).mono ?_
        rintro e w2 ⟨rfl, h2, ht⟩
        exact ⟨rfl, ⟨h2, .inr rfl⟩, ht⟩
theorem Pk.below {w w' : World} {b : Nat} {c : Clk} (h : Pk w b c) (q : Below w.heap.size w w') : Pk w' b c := ⟨h.1.below q, h.2⟩
set_option maxRecDepth 100000 in
set_option maxHeartbeats 4000000 in
theorem Update_c {w : World} {b k : Nat} {c : Clk} (h : Pk w b c) (hk : k ≤ 1000) (hi : In k c) (r o : Int) (hr : -9223372036854775808 ≤ r ∧ r ≤ 9223372036854775807) (ho : -9223372036854775808 ≤ o ∧ o ≤ 9223372036854775807) :
    Calls Try.prog 12 #[.pointer (some ⟨b, 0, none⟩), .int .i64 r, .int .i64 o] w fun e w' => e = udE c r o ∧ Pk w' b (upd c r o).1 ∧ Tu (Td b) w w' := by
  have RC := Lib.hid (Read_c h.1 hk hi r hr)
  have HB := Lib.hid h
  have UD : Hid (∀ c' m e, upd c r o = (c', m, e) → ∀ W, Pk W b c' → Tu (Td b) w W → (Ending.returned (.tuple #[.int .i64 m, .int .i64 e]) = udE c r o ∧ Pk W b (upd c r o).1 ∧ Tu (Td b) w W)) := Lib.hid fun c' m e q W h1 h2 => by
    unfold udE
    rw [q]
    exact ⟨rfl, h1, h2⟩
  unfold rdE rdA at RC
  by_cases q : rdO c r
  · rw [if_pos q] at RC
    have TC := Lib.hid (fun (W : World) (hw : Pk W b c) (h1 : -68719476736 ≤ o ∧ o ≤ 68719476736) => take_c hw hk hi r o hr q h1)
    have U0 : Hid ((o < -68719476736 ∨ 68719476736 < o) → upd c r o = (c, 0, 2)) := Lib.hid (fun z => by unfold upd; rw [if_neg (fun z => z q), if_pos z])
    have U1 := Lib.hid (fun z => tk_of (o := o) q z)
    generalize rdV c r = now at *
    by_cases c1 : o < -68719476736
    · have e1 := decide_eq_true c1
      have UE := Lib.hid (UD.out _ _ _ (U0.out (.inl c1)))
      go_enter Try.func12, Try.ntmps12
      go_wp2_with fail
      refine RC.out.mono ?_
      rintro e w1 ⟨rfl, hb⟩
      have B1 := Lib.hid hb
      clear hb RC
      go_wp2_with fail
      go_ret2
      exact UE.out w1 (HB.out.below B1.out) (tu_below B1.out)
    have e1 := decide_eq_false c1
    by_cases c2 : 68719476736 < o
    · have e2 := decide_eq_true c2
      have UE := Lib.hid (UD.out _ _ _ (U0.out (.inr c2)))
      go_enter Try.func12, Try.ntmps12
      go_wp2_with fail
      refine RC.out.mono ?_
      rintro e w1 ⟨rfl, hb⟩
      have B1 := Lib.hid hb
      clear hb RC
      go_wp2_with fail
      go_ret2
      exact UE.out w1 (HB.out.below B1.out) (tu_below B1.out)
    have e2 := decide_eq_false c2
    have UE := Lib.hid (UD.out _ _ _ (U1.out (by omega)))
    have TC2 := Lib.hid (fun W hw => TC.out W hw (by omega))
    clear TC U0 U1 UD
    obtain ⟨m, hm⟩ : ∃ m, (tk c r now o).2 = m := ⟨_, rfl⟩
    obtain ⟨c', hc'⟩ : ∃ m, (tk c r now o).1 = m := ⟨_, rfl⟩
    rw [hm, hc'] at UE TC2
    clear hm hc'
    go_enter Try.func12, Try.ntmps12
    go_wp2_with fail
    refine RC.out.mono ?_
    rintro e w1 ⟨rfl, hb⟩
    have B1 := Lib.hid hb
    clear hb RC
    go_wp2_with fail
    refine (TC2.out w1 (HB.out.below B1.out)).mono ?_
    rintro e w2 ⟨rfl, hb, ht⟩
    have FI := Lib.hid (UE.out w2 hb (tu_world B1.out ht))
    clear hb ht
    go_wp2_with fail
    go_ret2
    exact FI.out
  · rw [if_neg q] at RC
    have UE := Lib.hid (UD.out c 0 2 (by unfold upd; rw [if_pos q]))
    clear q
    go_enter Try.func12, Try.ntmps12
    go_wp2_with fail
    refine RC.out.mono ?_
    rintro e w1 ⟨rfl, hb⟩
    have B1 := Lib.hid hb
    clear hb RC
    go_wp2_with fail
    go_ret2
    exact UE.out w1 (HB.out.below B1.out) (tu_below B1.out)
theorem Freq_c {w : World} {b : Nat} {c : Clk} (h : Pk w b c) : Calls Try.prog 14 #[.pointer (some ⟨b, 0, none⟩)] w fun e w' => e = .returned (.int .i64 c.freq) ∧ Below w.heap.size w w' := by
  obtain ⟨z0, z1, z2, z3, z4⟩ := blk5 h.1 (brefl w)
  go_enter Try.func14, Try.ntmps14
  go_wp2_with fail
  go_ret
  exact ⟨rfl, brefl w⟩
set_option maxHeartbeats 2000000 in
theorem Spiking_c {w : World} {b k : Nat} {c : Clk} (h : Pk w b c) (hi : In k c) : Calls Try.prog 15 #[.pointer (some ⟨b, 0, none⟩)] w fun e w' => e = .returned (.bool (decide (c.state = 2))) ∧ Below w.heap.size w w' := by
  obtain ⟨z0, z1, z2, z3, z4⟩ := blk5 h.1 (brefl w)
  have hn := fun v => Lib.hid (balloc (brefl w) (.cells #[.int .i64 v] 61))
  have st := hi.2.2.2.2.2.1
  clear hi h
  rcases st with s0 | s1 | ⟨s2, _⟩
  · rw [stV0 s0] at z4
    rw [show decide (c.state = 2) = false from decide_eq_false (by omega)]
    have t1 := ta_up
    have f0 := (Blk.new' w #[.int .i64 0] 61).2 0 _ rfl
    have BB := hn 0
    obtain ⟨f0, f1⟩ := f0
    clear hn
    go_enter Try.func15, Try.ntmps15
    go_wp2_with fail
    go_ret
    exact ⟨rfl, BB.out⟩
  · rw [stV1 s1] at z4
    rw [show decide (c.state = 2) = false from decide_eq_false (by omega)]
    have t1 := ta_sp
    have f0 := (Blk.new' w #[.int .i64 0] 61).2 0 _ rfl
    have BB := hn 0
    obtain ⟨f0, f1⟩ := f0
    clear hn
    go_enter Try.func15, Try.ntmps15
    go_wp2_with fail
    go_ret
    exact ⟨rfl, BB.out⟩
  · rw [stV2 s2] at z4
    rw [decide_eq_true s2]
    have t1 := ta_pp c.since
    have f0 := (Blk.new' w #[.int .i64 0] 61).2 0 _ rfl
    have BB := hn c.since
    obtain ⟨f0, f1⟩ := f0
    clear hn
    go_enter Try.func15, Try.ntmps15
    go_wp2_with fail
    go_ret
    exact ⟨rfl, BB.out⟩
theorem Read_nil (w : World) (r : Int) : Calls Try.prog 10 #[.pointer none, .int .i64 r] w fun e w' => e = .returned (.tuple #[.int .i64 0, .int .i64 1]) ∧ Below w.heap.size w w' := by
  go_enter Try.func10, Try.ntmps10
  go_wp2_with fail
  go_ret2
  exact ⟨rfl, brefl w⟩
theorem Update_nil (w : World) (r o : Int) : Calls Try.prog 12 #[.pointer none, .int .i64 r, .int .i64 o] w fun e w' => e = .returned (.tuple #[.int .i64 0, .int .i64 1]) ∧ Below w.heap.size w w' := by
  have RN := Lib.hid (Read_nil w r)
  go_enter Try.func12, Try.ntmps12
  go_wp2_with fail
  refine RN.out.mono ?_
  rintro e w1 ⟨rfl, hb⟩
  have B1 := Lib.hid hb
  clear hb RN
  go_wp2_with fail
  go_ret2
  exact ⟨rfl, B1.out⟩
theorem Freq_nil (w : World) : Calls Try.prog 14 #[.pointer none] w fun e w' => e = .returned (.int .i64 0) ∧ Below w.heap.size w w' := by
  go_enter Try.func14, Try.ntmps14
  go_wp2_with fail
  go_ret
  exact ⟨rfl, brefl w⟩
theorem Spiking_nil (w : World) : Calls Try.prog 15 #[.pointer none] w fun e w' => e = .returned (.bool false) ∧ Below w.heap.size w w' := by
  go_enter Try.func15, Try.ntmps15
  go_wp2_with fail
  go_ret
  exact ⟨rfl, brefl w⟩
theorem pc : PC Kz where
  keep := by
    rintro w w' a X Y c ⟨b, rfl, rfl, hb, hl⟩ ht hX
    exact ⟨b, rfl, rfl, blk_keep hb (ht.block b hb.1 (hX b rfl)) ht.size, hl⟩
  size := by
    rintro w a X c ⟨b, rfl, rfl, hb, hl⟩ i hi
    exact Nat.lt_of_le_of_lt (Nat.le_of_eq hi) hb.1
  new := New_ok
  bad := New_no
  read := by
    rintro w a X c k r ⟨b, rfl, rfl, hb, hl⟩ hk hi hr
    exact Read_c hb hk hi r hr
  upd := by
    rintro w a X c k r o ⟨b, rfl, rfl, hb, hl⟩ hk hi hr ho
    refine (Update_c ⟨hb, hl⟩ hk hi r o hr ho).mono ?_
    rintro e w' ⟨rfl, h2, ht⟩
    exact ⟨⟨rfl, _, ⟨b, rfl, rfl, h2.1, h2.2⟩, fun i hi => .inl hi⟩, ht⟩
  freq := by
    rintro w a X c ⟨b, rfl, rfl, hb, hl⟩
    exact Freq_c ⟨hb, hl⟩
  spik := by
    rintro w a X c k ⟨b, rfl, rfl, hb, hl⟩ hi
    exact Spiking_c ⟨hb, hl⟩ hi
  nread := Read_nil
  nupd := Update_nil
  nfreq := Freq_nil
  nspik := Spiking_nil
end Go.Proofs.Ytojcckikgnbgiaa.Ck
