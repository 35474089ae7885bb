/-
  Signed of both sides, of whatever bytes.
  Conditions: none.
-/
import Derived.Test.YtmjbnbjkpimjmaaWiU
namespace Go.Proofs.Ytmjbnbjkpimjmaa.Wi
open Go.RowKit Go.ChangeShapes Go.WideShapes Go.ChangeAt Go.Joins By
set_option linter.unusedVariables false
set_option linter.unusedSimpArgs false

/-- what Signed answers. -/
def PSig (f : Nat → Nat) (D : Dc) (w : World) (e : Ending) (w' : World) : Prop := (∃ v, e = .returned (.tuple #[v, .int .i64 D.e]) ∧ By.Own w' w.heap.size v (if D.e = 0 then bl f D.a else [])) ∧ Below w.heap.size w w'
set_option maxRecDepth 100000 in
set_option maxHeartbeats 4000000 in
theorem Signed_err {w : World} (a : Option Addr) (n cap : Nat) (err : Int) (he : err ≠ 0) (HC : Hid (∀ z, Below w.heap.size w z → Calls Try.prog 27 #[.slice a n cap] z fun e w' => e = .returned (.tuple #[pz, .int .i64 err]) ∧ Below z.heap.size z w')) :
    Calls Try.prog 15 #[.slice a n cap] w fun e w' => e = .returned (.tuple #[.slice none 0 0, .int .i64 err]) ∧ Below w.heap.size w w' := by
  have e1 : (err != 0) = true := by simpa using he
  clear he
  unfold pz at HC
  go_enter Try.func15, Try.ntmps15
  go_wp2_with fail
  refine (HC.out _ (brefl w)).mono ?_
  rintro e w2 ⟨rfl, hb⟩
  have B2 := Lib.hid hb
  clear HC hb
  go_wp2_with fail
  go_ret2
  exact ⟨rfl, balloc B2.out _⟩
set_option maxRecDepth 100000 in
set_option maxHeartbeats 4000000 in
theorem Signed_ok {B o n cap : Nat} {f : Nat → Nat} {w : World} (H : Bs w B o n f) (hc : n ≤ cap) (hc2 : cap ≤ 9223372036854775807) {q : Pk} {a : Nat} (HD : dec f n = ⟨0, q, a⟩) :
    Calls Try.prog 15 #[.slice (some ⟨B, o, none⟩) n cap] w fun e w' => (∃ v, e = .returned (.tuple #[v, .int .i64 0]) ∧ By.Own w' w.heap.size v (bl f a)) ∧ Below w.heap.size w w' := by
  obtain ⟨h0, h1, h2, h3, _⟩ := dec_zero HD
  have CC := Lib.hid (cut_c H hc hc2 (by omega) (by omega) h3)
  have HX := Lib.hid H
  have n48 : 48 ≤ n := h0
  have n1024 : n ≤ 1024 := h2
  clear H h0 h1 h2 h3
  go_enter Try.func15, Try.ntmps15
  go_wp2_with fail
  refine CC.out.mono ?_
  rintro e w2 ⟨hcp, hb⟩
  rcases hcp with ⟨hd1, _⟩ | ⟨l, a', pfv, ad, hcut, hdec, rfl, own, had⟩
  · rw [HD] at hd1; cases hd1
  obtain ⟨rfl, rfl⟩ : q = pkAt f n l a' ∧ a = a' := by
    rw [HD] at hdec
    cases hdec
    exact ⟨rfl, rfl⟩
  obtain ⟨fa, fc, ef⟩ := ownP_form own
  rw [vsl_len] at ef
  subst ef
  obtain ⟨i1, i2, _⟩ := cutp_in 8 48 l a hcut n48
  have B2 := Lib.hid hb
  clear CC HD hdec hcut hb had own
  have B3 := Lib.hid (balloc B2.out (.cells #[.slice (some ⟨B, o, none⟩) 48 cap, .slice fa l.length fc, .slice ad (n - a) (cap - a), .int .i64 (au (n - a))] 63))
  have HS := part_sl (HX.out.below B3.out) (x := 0) (y := a) (c := cap) (by omega) (by omega) (by omega) (by omega) hc2
  simp only [Nat.add_zero, Nat.sub_zero, Nat.zero_add] at HS
  have HC := Lib.hid (Clone_c HS)
  clear HS
  have k0 : (0 : Int) ≤ (a : Int) := by omega
  have k1 : (a : Int) ≤ (n : Int) := by omega
  have k2 : (n : Int) ≤ (cap : Int) := by omega
  have k3 : (cap : Int) ≤ 9223372036854775807 := by omega
  have k4 : (n : Int) - ((n - a : Nat) : Int) = (a : Int) := by omega
  have k5 : (a : Int) ≤ (cap : Int) := by omega
  have W1 : IntKind.i64.wrap ((n : Int) - ((n - a : Nat) : Int)) = (a : Int) := by rw [k4]; exact wrap_i64 (by omega) (by omega)
  have c2 := ((Blk.new' w2 #[.slice (some ⟨B, o, none⟩) 48 cap, .slice fa l.length fc, .slice ad (n - a) (cap - a), .int .i64 (au (n - a))] 63).2 2 _ rfl).1
  go_upto_region 4 with fail
  generalize w2.alloc (.cells #[.slice (some ⟨B, o, none⟩) 48 cap, .slice fa l.length fc, .slice ad (n - a) (cap - a), .int .i64 (au (n - a))] 63) = w3 at *
  go_wp2_with fail
  refine HC.out.mono ?_
  rintro e w4 ⟨⟨v, rfl, ho⟩, hb⟩
  have OV := Lib.hid ho
  have BV := Lib.hid (bstep B3.out hb)
  have z3 := B3.out.size
  clear ho hb
  go_wp2_with fail
  go_ret2
  exact ⟨⟨v, rfl, row_le OV.out z3⟩, BV.out⟩
theorem Signed_any {w : World} {v : Value} {n : Nat} {f : Nat → Nat} (S : Sb w v n f) (hn : n ≤ 140737488351232) : Calls Try.prog 15 #[v] w fun e w' => PSig f (dec f n) w e w' := by
  obtain ⟨a, cap, rfl, h1, h2, h3, h4, h5⟩ := S
  have E : ∀ err : Int, err ≠ 0 → dec f n = bad err → (∀ z, Below w.heap.size w z → Calls Try.prog 27 #[.slice a n cap] z fun e w' => e = .returned (.tuple #[pz, .int .i64 err]) ∧ Below z.heap.size z w') → Calls Try.prog 15 #[.slice a n cap] w fun e w' => PSig f (dec f n) w e w' := fun err he hd HC => (Signed_err a n cap err he (Lib.hid HC)).mono fun e w' h => by
    obtain ⟨rfl, hb⟩ := h
    rw [hd]
    refine ⟨⟨.slice none 0 0, rfl, ?_⟩, hb⟩
    show By.Own _ _ _ (if err = 0 then _ else _)
    rw [if_neg he]
    exact By.Own.nil _ _
  by_cases c1 : n < 48 ∨ n % 4 ≠ 0
  · exact E 20 (by decide) (by rw [dec, if_pos c1]) fun z _ => cut_short a n cap c1 hn z
  obtain ⟨b, o, rfl, B⟩ := h4 (by omega)
  by_cases c2 : 1024 < n
  · exact E 21 (by decide) (by rw [dec, if_neg c1, if_pos c2]) fun z _ => cut_long _ n cap c1 c2 hn z
  by_cases c3 : btw (hd f).ver 1 4 = false
  · exact E 22 (by decide) (by rw [dec, if_neg c1, if_neg c2, if_pos c3]) fun z k => cut_ver (B.below k) c1 c2 c3
  have c4 : btw (hd f).ver 1 4 = true := by simpa using c3
  rcases dec_err f n with h0 | ⟨hk, hb⟩
  · obtain ⟨q, a, hd⟩ := dec_is0 h0
    rw [hd]
    exact Signed_ok B h1 h2 hd
  · refine E (dec f n).e (by omega) hb fun z k => (cut_c (B.below k) h1 h2 c1 c2 c4).mono fun e w' h => ?_
    rcases h.1 with ⟨d, r⟩ | ⟨l, a, fv, ad, _, d, _⟩
    · rw [d]; exact ⟨r, h.2⟩
    · rw [d] at hk; simp at hk
set_option maxRecDepth 100000 in
set_option maxHeartbeats 4000000 in
theorem rSigned_any {w : World} {v : Value} {n : Nat} {f : Nat → Nat} (S : Sb w v n f) (hn : n ≤ 140737488351232) : Calls Try.prog 16 #[v] w fun e w' => PSig f (dec f n) w e w' := by
  have HD := Lib.hid (rDecode_any S hn)
  have HS := Lib.hid S
  have HI : Hid ((dec f n).e = 0 → 48 ≤ n ∧ (dec f n).a ≤ n) := Lib.hid fun h => by
    obtain ⟨q, a, hd⟩ := dec_is0 h
    have := (enc_dec S.choose_spec.choose_spec.2.2.2.1 hd)
    rw [hd]
    exact ⟨this.2.2.2.2.2.1, this.2.2.2.1⟩
  obtain ⟨sa, cap, rfl⟩ := S.form
  clear S
  generalize dec f n = D at *
  go_enter Try.func16, Try.ntmps16
  go_wp2_with fail
  refine HD.out.mono ?_
  rintro e w2 ⟨⟨fv, dv, row, rfl, rw0, od⟩, hb⟩
  obtain ⟨fa, fc, ef⟩ := ownF_form rw0.2.1
  obtain ⟨da, dc, ed⟩ := own_form od
  subst ef ed
  have B2 := Lib.hid hb
  clear HD hb rw0 od
  generalize row.length = m1
  generalize D.p.dig.length = m2
  by_cases h0 : D.e = 0
  · obtain ⟨i1, i2⟩ := HI.out h0
    obtain ⟨a', cap', e', h1, h2, h3, h4, h5⟩ := HS.out
    cases e'
    obtain ⟨b, o, rfl, B⟩ := h4 (by omega)
    have HX := Lib.hid B
    have HC := Lib.hid (fun z (k : Below w.heap.size w z) => part_c (cap := cap) (HX.out.below k) hn h1 h2 (x := 0) (y := D.a) (Nat.zero_le _) i2)
    simp only [Nat.zero_add, Nat.sub_zero] at HC
    clear B HS h1 h2 h3 h4 h5 i1 i2 HI
    have e1 : (D.e != 0) = false := by simpa using h0
    have H0 := Lib.hid h0
    clear h0
    go_upto_region 4 with fail
    have B3 := Lib.hid (balloc B2.out (.cells #[.int .i64 D.p.leap, .int .i64 D.p.ver, .int .i64 D.p.mode, .int .i64 D.p.strat, .int .i64 D.p.poll, .int .i64 D.p.prec, .int .u32 (D.p.rd : Nat), .int .u32 (D.p.rs : Nat), .int .u32 (D.p.rid : Nat), .int .u64 (D.p.tref : Nat), .int .u64 (D.p.torg : Nat), .int .u64 (D.p.trec : Nat), .int .u64 (D.p.txm : Nat), .slice fa m1 fc, .int .i64 D.p.auth, .int .u32 (D.p.key : Nat), .slice da m2 dc] 30))
    go_wp2_with fail
    refine (HC.out _ B3.out).mono ?_
    rintro e w4 ⟨⟨v, rfl, ho⟩, hb⟩
    have OV := Lib.hid ho
    have BV := Lib.hid (bstep B3.out hb)
    have z3 := B3.out.size
    clear ho hb
    go_wp2_with fail
    go_ret2
    exact ⟨⟨v, by rw [H0.out]; rfl, by rw [if_pos H0.out]; exact row_le OV.out z3⟩, BV.out⟩
  · have e1 : (D.e != 0) = true := by simpa using h0
    have H0 := Lib.hid h0
    clear h0
    go_wp2_with fail
    go_ret2
    exact ⟨⟨_, rfl, by rw [if_neg H0.out]; exact By.Own.nil _ _⟩, balloc B2.out _⟩
end Go.Proofs.Ytmjbnbjkpimjmaa.Wi
