/-
  WireSigned: What is signed hangs on nothing that stands at the end, and the end and it are the whole. The law returns true for every input, and the input reads as it did.
  Conditions: none.
-/
import Derived.Test.YtmjbnbjkpimjmaaRows
import Derived.Test.YtmjbnbjkpimjmaaWjH
import Derived.SizedLaws
import Derived.Lib.SmallJoins
namespace Go.Proofs.Ytmjbnbjkpimjmaa.wireSigned
open Go.ChangeShapes Go.WideShapes Go.ChangeAt Go.RowKit Go.Joins By Wi
set_option linter.unusedVariables false
set_option linter.unusedSimpArgs false

theorem own : ownKnob Try.prog.godebug = none := by kernel_rfl
theorem laidOut : laidOutB Try.prog = true := by kernel_rfl
/-- what is there behind Decode and Signed. -/
theorem auth_of {q : Pk} (h : rt q = true) : q.auth = 0 ∨ q.auth = 1 ∨ q.auth = 2 := by
  obtain ⟨_, m, ht, _⟩ := rt_cut h
  unfold tl at ht
  by_cases a : q.auth = 0
  · exact .inl a
  · by_cases b : q.auth = 1
    · exact .inr (.inl b)
    · by_cases c : q.auth = 2
      · exact .inr (.inr c)
      · simp [a, b, c] at ht
set_option maxRecDepth 100000 in
set_option maxHeartbeats 16000000 in
theorem walk_no (v : Value) (n : Nat) (f : Nat → Nat) (u : Value) (w : World) (A : Arg w v n f) (d : ¬ (dec f n).e = 0) :
    Calls Try.prog 6 #[v, u] w fun e w' => e = .returned (.bool true) ∧ Below w.heap.size w w' := by
  have S0 := A.sb
  have hf : ∀ i, f i < 256 := by obtain ⟨_, _, _, _, _, h, _⟩ := A; exact h
  have hn : n ≤ 140737488351232 := by obtain ⟨_, _, _, h1, h2, _⟩ := A; omega
  obtain ⟨sa, sc, rfl⟩ := S0.form
  have S := Lib.hid S0
  have AW := fun z => Lib.hid (awake9_c z)
  have HD := Lib.hid (fun z (k : Below w.heap.size w z) => Decode_any (S0.below k) hn)
  have HS := Lib.hid (fun z (k : Below w.heap.size w z) => Signed_any (S0.below k) hn)
  unfold PSig at HS
  rw [if_neg d] at HS
  have hd : dec f n = bad (dec f n).e := by
    rcases dec_err f n with h | ⟨_, h⟩
    · exact absurd h d
    · exact h
  have ed : ((dec f n).e != 0) = true := by simpa using d
  generalize (dec f n).e = er at *
  rw [hd] at HD
  clear hd d A S0 S hf hn
  go_enter Try.func6, Try.ntmps6
  go_wp2_with fail
  refine (AW w).out.mono ?_
  rintro e w1 ⟨rfl, hb⟩
  have B1 := Lib.hid hb
  clear AW hb
  go_wp2_with fail
  refine (HD.out _ B1.out).mono ?_
  rintro e w2 ⟨⟨fv, dv, row, rfl, r1, o1⟩, hb⟩
  obtain ⟨fb, m3, gc, ef⟩ : ∃ a m c, fv = .slice a m c := (ownF_form r1.2.1).elim fun a h => h.elim fun c h => ⟨a, _, c, h⟩
  obtain ⟨db, m4, hc, ed2⟩ : ∃ a m c, dv = .slice a m c := (own_form o1).elim fun a h => h.elim fun c h => ⟨a, _, c, h⟩
  subst ef ed2
  have B2 := Lib.hid (bstep B1.out hb)
  clear HD B1 r1 o1 hb
  have ed : ((bad er).e != 0) = true := ed
  go_upto_region 4 with fail
  have B3 := Lib.hid (balloc B2.out (.cells #[.int .i64 (bad er).p.leap, .int .i64 (bad er).p.ver, .int .i64 (bad er).p.mode, .int .i64 (bad er).p.strat, .int .i64 (bad er).p.poll, .int .i64 (bad er).p.prec, .int .u32 ((bad er).p.rd : Nat), .int .u32 ((bad er).p.rs : Nat), .int .u32 ((bad er).p.rid : Nat), .int .u64 ((bad er).p.tref : Nat), .int .u64 ((bad er).p.torg : Nat), .int .u64 ((bad er).p.trec : Nat), .int .u64 ((bad er).p.txm : Nat), .slice fb m3 gc, .int .i64 (bad er).p.auth, .int .u32 ((bad er).p.key : Nat), .slice db m4 hc] 30))
  clear B2
  generalize w2.alloc (.cells #[.int .i64 (bad er).p.leap, .int .i64 (bad er).p.ver, .int .i64 (bad er).p.mode, .int .i64 (bad er).p.strat, .int .i64 (bad er).p.poll, .int .i64 (bad er).p.prec, .int .u32 ((bad er).p.rd : Nat), .int .u32 ((bad er).p.rs : Nat), .int .u32 ((bad er).p.rid : Nat), .int .u64 ((bad er).p.tref : Nat), .int .u64 ((bad er).p.torg : Nat), .int .u64 ((bad er).p.trec : Nat), .int .u64 ((bad er).p.txm : Nat), .slice fb m3 gc, .int .i64 (bad er).p.auth, .int .u32 ((bad er).p.key : Nat), .slice db m4 hc] 30) = w3 at *
  generalize w2.heap.size = b1 at *
  go_wp2_with fail
  refine (HS.out _ B3.out).mono ?_
  rintro e w4 ⟨⟨v1, rfl, o1⟩, hb⟩
  obtain ⟨a1, c1, e1⟩ : ∃ a c, v1 = .slice a 0 c := own_form o1
  subst e1
  have B4 := Lib.hid (bstep B3.out hb)
  clear HS B3 o1 hb
  go_wp2_with fail
  go_ret
  exact ⟨rfl, B4.out⟩
theorem sb_front {w : World} {p : Option Addr} {n c : Nat} {f : Nat → Nat} (h : Sb w (.slice p n c) n f) {a : Nat} (ha : a ≤ n) : Sb w (.slice p a c) a f := by
  obtain ⟨a', cap, e, h1, h2, h3, h4, h5⟩ := h
  cases e
  exact ⟨p, c, rfl, by omega, h2, h3, fun q => by obtain ⟨b, off, ea, B⟩ := h4 (by omega); exact ⟨b, off, ea, by have := B.part 0 a (by omega); simpa using this⟩, h5⟩
set_option maxRecDepth 100000 in
set_option maxHeartbeats 16000000 in
theorem walk_none (v : Value) (n : Nat) (f : Nat → Nat) (u : Value) (w : World) (A : Arg w v n f) (d : (dec f n).e = 0) (hauth : (dec f n).p.auth = 0) :
    Calls Try.prog 6 #[v, u] w fun e w' => e = .returned (.bool true) ∧ Below w.heap.size w w' := by
  have S0 := A.sb
  have hf : ∀ i, f i < 256 := by obtain ⟨_, _, _, _, _, h, _⟩ := A; exact h
  have hn : n ≤ 140737488351232 := by obtain ⟨_, _, _, h1, h2, _⟩ := A; omega
  obtain ⟨sa, sc, rfl⟩ := S0.form
  have S := Lib.hid S0
  have AW := fun z => Lib.hid (awake9_c z)
  obtain ⟨q, a, hd⟩ := dec_is0 d
  obtain ⟨g1, g2, g3, ga, gn, g48, g1024⟩ := enc_dec hf hd
  have HD := Lib.hid (fun z (k : Below w.heap.size w z) => Decode_any (S0.below k) hn)
  have HS := Lib.hid (fun z (k : Below w.heap.size w z) => Signed_any (S0.below k) hn)
  unfold PSig at HS
  rw [if_pos d] at HS
  rw [hd] at HD HS hauth
  have BY := Lib.hid (fun x (h : x ∈ bl f a) => bl_byte (fun i _ => hf i) x h)
  have GN := Lib.hid gn
  have hm4 : q.dig.length ≤ 1024 := by have := (dec_kind hf n).2.2; rwa [hd] at this
  simp only at hauth
  have HA := Lib.hid hauth
  clear d A S0 gn g1 g2 g3 hauth
  go_enter Try.func6, Try.ntmps6
  go_wp2_with fail
  refine (AW w).out.mono ?_
  rintro e w1 ⟨rfl, hb⟩
  have B1 := Lib.hid hb
  clear AW hb
  go_wp2_with fail
  refine (HD.out _ B1.out).mono ?_
  rintro e w2 ⟨⟨fv, dv, row, rfl, r1, o1⟩, hb⟩
  obtain ⟨fb, m3, gc, ef⟩ : ∃ a m c, fv = .slice a m c := (ownF_form r1.2.1).elim fun a h => h.elim fun c h => ⟨a, _, c, h⟩
  obtain ⟨db, hc, ed2⟩ : ∃ a c, dv = .slice a q.dig.length c := own_form o1
  subst ef ed2
  have B2 := Lib.hid (bstep B1.out hb)
  clear HD B1 r1 o1 hb
  generalize q.dig.length = m4 at *
  go_upto_region 4 with fail
  have N3 : Hid (Blk (w2.alloc (.cells #[.int .i64 q.leap, .int .i64 q.ver, .int .i64 q.mode, .int .i64 q.strat, .int .i64 q.poll, .int .i64 q.prec, .int .u32 (q.rd : Nat), .int .u32 (q.rs : Nat), .int .u32 (q.rid : Nat), .int .u64 (q.tref : Nat), .int .u64 (q.torg : Nat), .int .u64 (q.trec : Nat), .int .u64 (q.txm : Nat), .slice fb m3 gc, .int .i64 q.auth, .int .u32 (q.key : Nat), .slice db m4 hc] 30)) w2.heap.size (pvs q (.slice fb m3 gc) (.slice db m4 hc))) := Lib.hid (Blk.new' w2 #[.int .i64 q.leap, .int .i64 q.ver, .int .i64 q.mode, .int .i64 q.strat, .int .i64 q.poll, .int .i64 q.prec, .int .u32 (q.rd : Nat), .int .u32 (q.rs : Nat), .int .u32 (q.rid : Nat), .int .u64 (q.tref : Nat), .int .u64 (q.torg : Nat), .int .u64 (q.trec : Nat), .int .u64 (q.txm : Nat), .slice fb m3 gc, .int .i64 q.auth, .int .u32 (q.key : Nat), .slice db m4 hc] 30)
  have B3 := Lib.hid (balloc B2.out (.cells #[.int .i64 q.leap, .int .i64 q.ver, .int .i64 q.mode, .int .i64 q.strat, .int .i64 q.poll, .int .i64 q.prec, .int .u32 (q.rd : Nat), .int .u32 (q.rs : Nat), .int .u32 (q.rid : Nat), .int .u64 (q.tref : Nat), .int .u64 (q.torg : Nat), .int .u64 (q.trec : Nat), .int .u64 (q.txm : Nat), .slice fb m3 gc, .int .i64 q.auth, .int .u32 (q.key : Nat), .slice db m4 hc] 30))
  clear B2
  generalize w2.alloc (.cells #[.int .i64 q.leap, .int .i64 q.ver, .int .i64 q.mode, .int .i64 q.strat, .int .i64 q.poll, .int .i64 q.prec, .int .u32 (q.rd : Nat), .int .u32 (q.rs : Nat), .int .u32 (q.rid : Nat), .int .u64 (q.tref : Nat), .int .u64 (q.torg : Nat), .int .u64 (q.trec : Nat), .int .u64 (q.txm : Nat), .slice fb m3 gc, .int .i64 q.auth, .int .u32 (q.key : Nat), .slice db m4 hc] 30) = w3 at *
  generalize w2.heap.size = b1 at *
  go_wp2_with fail
  refine (HS.out _ B3.out).mono ?_
  rintro e w4 ⟨⟨v1, rfl, o1⟩, hb⟩
  obtain ⟨a1, c1, e1⟩ : ∃ p c, v1 = .slice p a c := by have := own_form o1; rwa [bl_len] at this
  subst e1
  have B4 := Lib.hid (bstep B3.out hb)
  have O0 := (own_out o1 BY.out).sb
  rw [bl_len] at O0
  have N4 := N3.out.below hb
  have y14 : w4.cell? ⟨b1, 14, none⟩ = some (.int .i64 q.auth) := (N4.2 14 _ rfl).1
  have y16 : w4.cell? ⟨b1, 16, none⟩ = some (.slice db m4 hc) := (N4.2 16 _ rfl).1
  have lb1 : b1 < w4.heap.size := N4.1
  have C1 : ∀ j, (convert 28 9 (.slice a1 a c1)).run Try.prog (w4.drewN j) = .ok (.string (bs8 (bl f a))) (w4.drewN j) := fun j => by
    have h := O0.conv (bdrew (brefl w4) j)
    rwa [show bl (fun i => (bl f a).getD i 0) a = bl f a from by have := bl_getD (bl f a); rwa [bl_len] at this] at h
  have C2 : ∀ j, (convert 28 9 (.slice sa a sc)).run Try.prog (w4.drewN j) = .ok (.string (bs8 (bl f a))) (w4.drewN j) := fun j => (sb_front S.out ga).conv (bdrew B4.out j)
  have O4 := Lib.hid O0
  clear HS B3 N3 N4 O0 o1 hb
  have i1 : (0 : Int) ≤ (a : Int) := by omega
  have i2 : (a : Int) ≤ (n : Int) := by omega
  have i3 : (n : Int) ≤ (sc : Int) := by obtain ⟨_, _, e, h, _⟩ := S.out; cases e; omega
  have i4 : (sc : Int) ≤ 9223372036854775807 := by obtain ⟨_, _, e, h, h', _⟩ := S.out; cases e; omega
  have i5 : (m4 : Int) ≤ 1024 := by omega
  have i6 : (0 : Int) ≤ (m4 : Int) := by omega
  have i7 : (n : Int) ≤ 1024 := by omega
  obtain ⟨SB, hSB⟩ : ∃ s, bs8 (bl f a) = s := ⟨_, rfl⟩
  rw [hSB] at C1 C2
  obtain rfl : a = n := by have := GN.out; rw [if_pos HA.out] at this; omega
  rw [HA.out] at y14
  go_upto_region 10 with fail
  go_quiet (fail)
  clear C1 C2
  have BQ := bdrew (brefl w4) nq
  have y14' : (w4.drewN nq).cell? ⟨b1, 14, none⟩ = some (.int .i64 0) := (BQ.cell (p := ⟨b1, 14, none⟩) lb1).trans y14
  have O5 := Lib.hid (O4.out.below BQ)
  have B5 := Lib.hid (bstep B4.out BQ)
  clear B4 O4 BQ y14 y16
  generalize w4.drewN nq = w5 at *
  have C1 : ∀ j, (convert 28 9 (.slice a1 a c1)).run Try.prog (w5.drewN j) = .ok (.string SB) (w5.drewN j) := fun j => by
    have h := O5.out.conv (bdrew (brefl w5) j)
    rwa [show bl (fun i => (bl f a).getD i 0) a = bl f a from by have := bl_getD (bl f a); rwa [bl_len] at this, hSB] at h
  have C2 : ∀ j, (convert 28 9 (.slice sa a sc)).run Try.prog (w5.drewN j) = .ok (.string SB) (w5.drewN j) := fun j => by rw [← hSB]; exact (sb_front S.out ga).conv (bdrew B5.out j)
  clear hSB
  go_upto_region 11 with fail
  go_quiet (fail)
  clear C1 C2
  go_wp2_with fail
  go_ret
  exact ⟨rfl, bdrew B5.out _⟩
set_option maxRecDepth 100000 in
set_option maxHeartbeats 16000000 in
theorem walk_nak (v : Value) (n : Nat) (f : Nat → Nat) (u : Value) (w : World) (A : Arg w v n f) (d : (dec f n).e = 0) (hauth : (dec f n).p.auth = 1) :
    Calls Try.prog 6 #[v, u] w fun e w' => e = .returned (.bool true) ∧ Below w.heap.size w w' := by
  have S0 := A.sb
  have hf : ∀ i, f i < 256 := by obtain ⟨_, _, _, _, _, h, _⟩ := A; exact h
  have hn : n ≤ 140737488351232 := by obtain ⟨_, _, _, h1, h2, _⟩ := A; omega
  obtain ⟨sa, sc, rfl⟩ := S0.form
  have S := Lib.hid S0
  have AW := fun z => Lib.hid (awake9_c z)
  obtain ⟨q, a, hd⟩ := dec_is0 d
  obtain ⟨g1, g2, g3, ga, gn, g48, g1024⟩ := enc_dec hf hd
  have HD := Lib.hid (fun z (k : Below w.heap.size w z) => Decode_any (S0.below k) hn)
  have HS := Lib.hid (fun z (k : Below w.heap.size w z) => Signed_any (S0.below k) hn)
  unfold PSig at HS
  rw [if_pos d] at HS
  rw [hd] at HD HS hauth
  have BY := Lib.hid (fun x (h : x ∈ bl f a) => bl_byte (fun i _ => hf i) x h)
  have GN := Lib.hid gn
  have hm4 : q.dig.length ≤ 1024 := by have := (dec_kind hf n).2.2; rwa [hd] at this
  simp only at hauth
  have HA := Lib.hid hauth
  clear d A S0 gn g1 g2 g3 hauth
  go_enter Try.func6, Try.ntmps6
  go_wp2_with fail
  refine (AW w).out.mono ?_
  rintro e w1 ⟨rfl, hb⟩
  have B1 := Lib.hid hb
  clear AW hb
  go_wp2_with fail
  refine (HD.out _ B1.out).mono ?_
  rintro e w2 ⟨⟨fv, dv, row, rfl, r1, o1⟩, hb⟩
  obtain ⟨fb, m3, gc, ef⟩ : ∃ a m c, fv = .slice a m c := (ownF_form r1.2.1).elim fun a h => h.elim fun c h => ⟨a, _, c, h⟩
  obtain ⟨db, hc, ed2⟩ : ∃ a c, dv = .slice a q.dig.length c := own_form o1
  subst ef ed2
  have B2 := Lib.hid (bstep B1.out hb)
  clear HD B1 r1 o1 hb
  generalize q.dig.length = m4 at *
  go_upto_region 4 with fail
  have N3 : Hid (Blk (w2.alloc (.cells #[.int .i64 q.leap, .int .i64 q.ver, .int .i64 q.mode, .int .i64 q.strat, .int .i64 q.poll, .int .i64 q.prec, .int .u32 (q.rd : Nat), .int .u32 (q.rs : Nat), .int .u32 (q.rid : Nat), .int .u64 (q.tref : Nat), .int .u64 (q.torg : Nat), .int .u64 (q.trec : Nat), .int .u64 (q.txm : Nat), .slice fb m3 gc, .int .i64 q.auth, .int .u32 (q.key : Nat), .slice db m4 hc] 30)) w2.heap.size (pvs q (.slice fb m3 gc) (.slice db m4 hc))) := Lib.hid (Blk.new' w2 #[.int .i64 q.leap, .int .i64 q.ver, .int .i64 q.mode, .int .i64 q.strat, .int .i64 q.poll, .int .i64 q.prec, .int .u32 (q.rd : Nat), .int .u32 (q.rs : Nat), .int .u32 (q.rid : Nat), .int .u64 (q.tref : Nat), .int .u64 (q.torg : Nat), .int .u64 (q.trec : Nat), .int .u64 (q.txm : Nat), .slice fb m3 gc, .int .i64 q.auth, .int .u32 (q.key : Nat), .slice db m4 hc] 30)
  have B3 := Lib.hid (balloc B2.out (.cells #[.int .i64 q.leap, .int .i64 q.ver, .int .i64 q.mode, .int .i64 q.strat, .int .i64 q.poll, .int .i64 q.prec, .int .u32 (q.rd : Nat), .int .u32 (q.rs : Nat), .int .u32 (q.rid : Nat), .int .u64 (q.tref : Nat), .int .u64 (q.torg : Nat), .int .u64 (q.trec : Nat), .int .u64 (q.txm : Nat), .slice fb m3 gc, .int .i64 q.auth, .int .u32 (q.key : Nat), .slice db m4 hc] 30))
  clear B2
  generalize w2.alloc (.cells #[.int .i64 q.leap, .int .i64 q.ver, .int .i64 q.mode, .int .i64 q.strat, .int .i64 q.poll, .int .i64 q.prec, .int .u32 (q.rd : Nat), .int .u32 (q.rs : Nat), .int .u32 (q.rid : Nat), .int .u64 (q.tref : Nat), .int .u64 (q.torg : Nat), .int .u64 (q.trec : Nat), .int .u64 (q.txm : Nat), .slice fb m3 gc, .int .i64 q.auth, .int .u32 (q.key : Nat), .slice db m4 hc] 30) = w3 at *
  generalize w2.heap.size = b1 at *
  go_wp2_with fail
  refine (HS.out _ B3.out).mono ?_
  rintro e w4 ⟨⟨v1, rfl, o1⟩, hb⟩
  obtain ⟨a1, c1, e1⟩ : ∃ p c, v1 = .slice p a c := by have := own_form o1; rwa [bl_len] at this
  subst e1
  have B4 := Lib.hid (bstep B3.out hb)
  have O0 := (own_out o1 BY.out).sb
  rw [bl_len] at O0
  have N4 := N3.out.below hb
  have y14 : w4.cell? ⟨b1, 14, none⟩ = some (.int .i64 q.auth) := (N4.2 14 _ rfl).1
  have y16 : w4.cell? ⟨b1, 16, none⟩ = some (.slice db m4 hc) := (N4.2 16 _ rfl).1
  have lb1 : b1 < w4.heap.size := N4.1
  have C1 : ∀ j, (convert 28 9 (.slice a1 a c1)).run Try.prog (w4.drewN j) = .ok (.string (bs8 (bl f a))) (w4.drewN j) := fun j => by
    have h := O0.conv (bdrew (brefl w4) j)
    rwa [show bl (fun i => (bl f a).getD i 0) a = bl f a from by have := bl_getD (bl f a); rwa [bl_len] at this] at h
  have C2 : ∀ j, (convert 28 9 (.slice sa a sc)).run Try.prog (w4.drewN j) = .ok (.string (bs8 (bl f a))) (w4.drewN j) := fun j => (sb_front S.out ga).conv (bdrew B4.out j)
  have O4 := Lib.hid O0
  clear HS B3 N3 N4 O0 o1 hb
  have i1 : (0 : Int) ≤ (a : Int) := by omega
  have i2 : (a : Int) ≤ (n : Int) := by omega
  have i3 : (n : Int) ≤ (sc : Int) := by obtain ⟨_, _, e, h, _⟩ := S.out; cases e; omega
  have i4 : (sc : Int) ≤ 9223372036854775807 := by obtain ⟨_, _, e, h, h', _⟩ := S.out; cases e; omega
  have i5 : (m4 : Int) ≤ 1024 := by omega
  have i6 : (0 : Int) ≤ (m4 : Int) := by omega
  have i7 : (n : Int) ≤ 1024 := by omega
  obtain ⟨SB, hSB⟩ : ∃ s, bs8 (bl f a) = s := ⟨_, rfl⟩
  rw [hSB] at C1 C2
  obtain rfl : n = a + (4 + m4) := by have := GN.out; rw [if_neg (by rw [HA.out]; decide)] at this; omega
  rw [HA.out] at y14
  go_upto_region 10 with fail
  go_quiet (fail)
  clear C1 C2
  have BQ := bdrew (brefl w4) nq
  have y14' : (w4.drewN nq).cell? ⟨b1, 14, none⟩ = some (.int .i64 1) := (BQ.cell (p := ⟨b1, 14, none⟩) lb1).trans y14
  have O5 := Lib.hid (O4.out.below BQ)
  have B5 := Lib.hid (bstep B4.out BQ)
  clear B4 O4 BQ y14 y16
  generalize w4.drewN nq = w5 at *
  have C1 : ∀ j, (convert 28 9 (.slice a1 a c1)).run Try.prog (w5.drewN j) = .ok (.string SB) (w5.drewN j) := fun j => by
    have h := O5.out.conv (bdrew (brefl w5) j)
    rwa [show bl (fun i => (bl f a).getD i 0) a = bl f a from by have := bl_getD (bl f a); rwa [bl_len] at this, hSB] at h
  have C2 : ∀ j, (convert 28 9 (.slice sa a sc)).run Try.prog (w5.drewN j) = .ok (.string SB) (w5.drewN j) := fun j => by rw [← hSB]; exact (sb_front S.out ga).conv (bdrew B5.out j)
  clear hSB
  go_upto_region 11 with fail
  go_quiet (fail)
  clear C1 C2
  go_wp2_with fail
  go_ret
  exact ⟨rfl, bdrew B5.out _⟩
set_option maxRecDepth 100000 in
set_option maxHeartbeats 16000000 in
theorem walk_mac (v : Value) (n : Nat) (f : Nat → Nat) (v1 : Value) (n1 : Nat) (f1 : Nat → Nat) (w : World) (A : Arg w v n f) (A1 : Arg w v1 n1 f1) (d : (dec f n).e = 0) (hauth : (dec f n).p.auth = 2) :
    Calls Try.prog 6 #[v, v1] w fun e w' => e = .returned (.bool true) ∧ Below w.heap.size w w' := by
  have S0 := A.sb
  have hf : ∀ i, f i < 256 := by obtain ⟨_, _, _, _, _, h, _⟩ := A; exact h
  have hn : n ≤ 140737488351232 := by obtain ⟨_, _, _, h1, h2, _⟩ := A; omega
  obtain ⟨sa, sc, rfl⟩ := S0.form
  have S := Lib.hid S0
  have AW := fun z => Lib.hid (awake9_c z)
  have U0 := A1.sb
  have hf1 : ∀ i, f1 i < 256 := by obtain ⟨_, _, _, _, _, h, _⟩ := A1; exact h
  obtain ⟨ua, uc, rfl⟩ := U0.form
  have U := Lib.hid U0
  have hn1 : (n1 : Int) ≤ 140737488351232 := by obtain ⟨_, _, _, h1, h2, _⟩ := A1; omega
  clear A1 U0
  obtain ⟨q, a, hd⟩ := dec_is0 d
  obtain ⟨g1, g2, g3, ga, gn, g48, g1024⟩ := enc_dec hf hd
  have HD := Lib.hid (fun z (k : Below w.heap.size w z) => Decode_any (S0.below k) hn)
  have HS := Lib.hid (fun z (k : Below w.heap.size w z) => Signed_any (S0.below k) hn)
  unfold PSig at HS
  rw [if_pos d] at HS
  rw [hd] at HD HS hauth
  have BY := Lib.hid (fun x (h : x ∈ bl f a) => bl_byte (fun i _ => hf i) x h)
  have GN := Lib.hid gn
  have hm4 : q.dig.length ≤ 1024 := by have := (dec_kind hf n).2.2; rwa [hd] at this
  have DT := Lib.hid (fun (g : Nat → Nat) (hg : ∀ i, i < a → f i = g i) => dec_turn hd hauth hg)
  simp only at hauth
  have HA := Lib.hid hauth
  clear d A S0 gn g1 g2 g3 hauth
  go_enter Try.func6, Try.ntmps6
  go_wp2_with fail
  refine (AW w).out.mono ?_
  rintro e w1 ⟨rfl, hb⟩
  have B1 := Lib.hid hb
  clear AW hb
  go_wp2_with fail
  refine (HD.out _ B1.out).mono ?_
  rintro e w2 ⟨⟨fv, dv, row, rfl, r1, o1⟩, hb⟩
  obtain ⟨fb, m3, gc, ef⟩ : ∃ a m c, fv = .slice a m c := (ownF_form r1.2.1).elim fun a h => h.elim fun c h => ⟨a, _, c, h⟩
  obtain ⟨db, hc, ed2⟩ : ∃ a c, dv = .slice a q.dig.length c := own_form o1
  subst ef ed2
  have B2 := Lib.hid (bstep B1.out hb)
  clear HD B1 r1 o1 hb
  generalize q.dig.length = m4 at *
  go_upto_region 4 with fail
  have N3 : Hid (Blk (w2.alloc (.cells #[.int .i64 q.leap, .int .i64 q.ver, .int .i64 q.mode, .int .i64 q.strat, .int .i64 q.poll, .int .i64 q.prec, .int .u32 (q.rd : Nat), .int .u32 (q.rs : Nat), .int .u32 (q.rid : Nat), .int .u64 (q.tref : Nat), .int .u64 (q.torg : Nat), .int .u64 (q.trec : Nat), .int .u64 (q.txm : Nat), .slice fb m3 gc, .int .i64 q.auth, .int .u32 (q.key : Nat), .slice db m4 hc] 30)) w2.heap.size (pvs q (.slice fb m3 gc) (.slice db m4 hc))) := Lib.hid (Blk.new' w2 #[.int .i64 q.leap, .int .i64 q.ver, .int .i64 q.mode, .int .i64 q.strat, .int .i64 q.poll, .int .i64 q.prec, .int .u32 (q.rd : Nat), .int .u32 (q.rs : Nat), .int .u32 (q.rid : Nat), .int .u64 (q.tref : Nat), .int .u64 (q.torg : Nat), .int .u64 (q.trec : Nat), .int .u64 (q.txm : Nat), .slice fb m3 gc, .int .i64 q.auth, .int .u32 (q.key : Nat), .slice db m4 hc] 30)
  have B3 := Lib.hid (balloc B2.out (.cells #[.int .i64 q.leap, .int .i64 q.ver, .int .i64 q.mode, .int .i64 q.strat, .int .i64 q.poll, .int .i64 q.prec, .int .u32 (q.rd : Nat), .int .u32 (q.rs : Nat), .int .u32 (q.rid : Nat), .int .u64 (q.tref : Nat), .int .u64 (q.torg : Nat), .int .u64 (q.trec : Nat), .int .u64 (q.txm : Nat), .slice fb m3 gc, .int .i64 q.auth, .int .u32 (q.key : Nat), .slice db m4 hc] 30))
  clear B2
  generalize w2.alloc (.cells #[.int .i64 q.leap, .int .i64 q.ver, .int .i64 q.mode, .int .i64 q.strat, .int .i64 q.poll, .int .i64 q.prec, .int .u32 (q.rd : Nat), .int .u32 (q.rs : Nat), .int .u32 (q.rid : Nat), .int .u64 (q.tref : Nat), .int .u64 (q.torg : Nat), .int .u64 (q.trec : Nat), .int .u64 (q.txm : Nat), .slice fb m3 gc, .int .i64 q.auth, .int .u32 (q.key : Nat), .slice db m4 hc] 30) = w3 at *
  generalize w2.heap.size = b1 at *
  go_wp2_with fail
  refine (HS.out _ B3.out).mono ?_
  rintro e w4 ⟨⟨v1, rfl, o1⟩, hb⟩
  obtain ⟨a1, c1, e1⟩ : ∃ p c, v1 = .slice p a c := by have := own_form o1; rwa [bl_len] at this
  subst e1
  have B4 := Lib.hid (bstep B3.out hb)
  have O0 := (own_out o1 BY.out).sb
  rw [bl_len] at O0
  have N4 := N3.out.below hb
  have y14 : w4.cell? ⟨b1, 14, none⟩ = some (.int .i64 q.auth) := (N4.2 14 _ rfl).1
  have y16 : w4.cell? ⟨b1, 16, none⟩ = some (.slice db m4 hc) := (N4.2 16 _ rfl).1
  have lb1 : b1 < w4.heap.size := N4.1
  have C1 : ∀ j, (convert 28 9 (.slice a1 a c1)).run Try.prog (w4.drewN j) = .ok (.string (bs8 (bl f a))) (w4.drewN j) := fun j => by
    have h := O0.conv (bdrew (brefl w4) j)
    rwa [show bl (fun i => (bl f a).getD i 0) a = bl f a from by have := bl_getD (bl f a); rwa [bl_len] at this] at h
  have C2 : ∀ j, (convert 28 9 (.slice sa a sc)).run Try.prog (w4.drewN j) = .ok (.string (bs8 (bl f a))) (w4.drewN j) := fun j => (sb_front S.out ga).conv (bdrew B4.out j)
  have O4 := Lib.hid O0
  clear HS B3 N3 N4 O0 o1 hb
  have i1 : (0 : Int) ≤ (a : Int) := by omega
  have i2 : (a : Int) ≤ (n : Int) := by omega
  have i3 : (n : Int) ≤ (sc : Int) := by obtain ⟨_, _, e, h, _⟩ := S.out; cases e; omega
  have i4 : (sc : Int) ≤ 9223372036854775807 := by obtain ⟨_, _, e, h, h', _⟩ := S.out; cases e; omega
  have i5 : (m4 : Int) ≤ 1024 := by omega
  have i6 : (0 : Int) ≤ (m4 : Int) := by omega
  have i7 : (n : Int) ≤ 1024 := by omega
  obtain ⟨SB, hSB⟩ : ∃ s, bs8 (bl f a) = s := ⟨_, rfl⟩
  rw [hSB] at C1 C2
  have en : n = a + (4 + m4) := by have := GN.out; rw [if_neg (by rw [HA.out]; decide)] at this; omega
  rw [HA.out] at y14
  have en' : (a : Int) + (4 + (m4 : Int)) = (n : Int) := by omega
  clear en
  go_upto_region 10 with fail
  go_quiet (fail)
  clear C1 C2
  have BQ := bdrew (brefl w4) nq
  have y14' : (w4.drewN nq).cell? ⟨b1, 14, none⟩ = some (.int .i64 2) := (BQ.cell (p := ⟨b1, 14, none⟩) lb1).trans y14
  have O5 := Lib.hid (O4.out.below BQ)
  have B5 := Lib.hid (bstep B4.out BQ)
  clear B4 O4 BQ y14 y16
  generalize w4.drewN nq = w5 at *
  clear en'
  have BA := balloc (brefl w5) (.cells #[] 5)
  obtain ⟨v2, w6, r2, o2, b2, s2, nn2⟩ := S.out.app (B5.out.trans (BA.mono B5.out.size)) (own0 w5 w5.heap.size (Nat.le_refl _)) (by simp) (by simp; omega) 28
  rw [List.nil_append] at o2
  obtain ⟨g, cx, rfl, hg, wr0, hc1, hc2⟩ := own_wr o2 (nn2 (by simp)) hf
  have R2 := Lib.hid r2
  have B6 := Lib.hid (BA.trans b2)
  have W6 := Lib.hid wr0
  have i8 : (n : Int) ≤ (cx : Int) := by omega
  have i9 : (cx : Int) ≤ 9223372036854775807 := by omega
  clear r2 o2 b2 s2 nn2 wr0 BA y14'
  go_upto_region 13 with (first | (at_builtin; refine wpList_append_eq rfl (.tmp 86) (.tmp 87) 28 rfl _ _ _ w6 rfl rfl R2.out ?_))
  clear R2
  go_wp2_with fail
  go_loopw [11] (fun iv wr => ∃ m : Nat, a + m ≤ n ∧ iv = .int .i64 ((a + m : Nat) : Int) ∧ Below w5.heap.size w5 wr ∧ ∃ h : Nat → Nat, (∀ i, i < a → f i = h i) ∧ (∀ i, h i < 256) ∧ Wr wr g 0 n h) (fun iv _ => n - (intOf iv).toNat)
  case atStart => exact ⟨0, by omega, by rw [Nat.add_zero], B6.out, f, fun _ _ => rfl, hf, W6.out⟩
  case round =>
    obtain ⟨m, hm, rfl, hb, h, hp, hh, hw⟩ := hrel
    rename World => wr
    have BW := Lib.hid hb
    have WH := Lib.hid hw
    clear hb hw B6 W6
    obtain ⟨K, hK⟩ : ∃ K, a + m = K := ⟨_, rfl⟩
    rw [hK]
    rw [hK] at hm
    have HK := Lib.hid hK
    have eK : (K : Int) - (a : Int) = (m : Int) := by omega
    have k1 : (0 : Int) ≤ (K : Int) := by omega
    have k2 : (K : Int) ≤ (n : Int) := by omega
    clear hK
    by_cases c : K < n
    · have e1 : decide ((K : Int) < (n : Int)) = true := decide_eq_true (by omega)
      by_cases c2 : m < n1
      · have e2 : decide ((m : Int) < (n1 : Int)) = true := decide_eq_true (by omega)
        obtain ⟨_, _, e, _, _, _, h4, _⟩ := U.out
        cases e
        obtain ⟨ub, uo, rfl, BU⟩ := h4 (by omega)
        have cu := (BU.below (bstep B5.out BW.out)).2.2 m c2
        have hy := hf1 m
        obtain ⟨cg, fg⟩ := wr_at WH.out c
        generalize f1 m = y at *
        generalize h K = yo at *
        have k3 : (K : Int) < (n : Int) := by omega
        have k4 : (m : Int) < (n1 : Int) := by omega
        clear BU h4
        go_wp2_with fail
        have hK := HK.out
        exact ⟨⟨m + 1, by omega, by rw [show ((a + (m + 1) : Nat) : Int) = (K : Int) + 1 by omega], below_set BW.out (by omega) _ _, upd h K y, fun i hi => by rw [upd_ne (by omega)]; exact hp i hi, upd_lt hh hy, wr_set0 WH.out K y c hy⟩, by simp [intOf]; omega⟩
      · have e2 : decide ((m : Int) < (n1 : Int)) = false := decide_eq_false (by omega)
        have SX := wr_sb WH.out hh hc1 hc2
        obtain ⟨q', hq⟩ := DT.out _ hp
        have SG := Signed_any SX hn
        rw [hq] at SG
        unfold PSig at SG
        rw [if_pos rfl, show bl h a = bl f a from (bl_congr fun i hi => hp i hi).symm] at SG
        have SG := Lib.hid SG
        clear SX hq
        go_wp2_with fail
        refine SG.out.mono ?_
        rintro e w8 ⟨⟨v3, rfl, o3⟩, hb⟩
        obtain ⟨a3, c3, e3⟩ : ∃ p c, v3 = .slice p a c := by have := own_form o3; rwa [bl_len] at this
        subst e3
        have C3 : (convert 28 9 (.slice a3 a c3)).run Try.prog w8 = .ok (.string SB) w8 := by
          have h := (own_out o3 BY.out).sb.conv (brefl w8)
          rwa [bl_getD, hSB] at h
        have C4 : (convert 28 9 (.slice a1 a c1)).run Try.prog w8 = .ok (.string SB) w8 := by
          have h := O5.out.conv (bstep BW.out hb)
          rwa [show bl (fun i => (bl f a).getD i 0) a = bl f a from by have := bl_getD (bl f a); rwa [bl_len] at this, hSB] at h
        have B8 := Lib.hid (bstep (bstep B5.out BW.out) hb)
        clear SG o3 hb hSB
        go_wp2_with fail
        go_ret
        exact ⟨rfl, B8.out⟩
    · have e1 : decide ((K : Int) < (n : Int)) = false := decide_eq_false (by omega)
      have SX := wr_sb WH.out hh hc1 hc2
      obtain ⟨q', hq⟩ := DT.out _ hp
      have SG := Signed_any SX hn
      rw [hq] at SG
      unfold PSig at SG
      rw [if_pos rfl, show bl h a = bl f a from (bl_congr fun i hi => hp i hi).symm] at SG
      have SG := Lib.hid SG
      clear SX hq
      go_wp2_with fail
      refine SG.out.mono ?_
      rintro e w8 ⟨⟨v3, rfl, o3⟩, hb⟩
      obtain ⟨a3, c3, e3⟩ : ∃ p c, v3 = .slice p a c := by have := own_form o3; rwa [bl_len] at this
      subst e3
      have C3 : (convert 28 9 (.slice a3 a c3)).run Try.prog w8 = .ok (.string SB) w8 := by
        have h := (own_out o3 BY.out).sb.conv (brefl w8)
        rwa [bl_getD, hSB] at h
      have C4 : (convert 28 9 (.slice a1 a c1)).run Try.prog w8 = .ok (.string SB) w8 := by
        have h := O5.out.conv (bstep BW.out hb)
        rwa [show bl (fun i => (bl f a).getD i 0) a = bl f a from by have := bl_getD (bl f a); rwa [bl_len] at this, hSB] at h
      have B8 := Lib.hid (bstep (bstep B5.out BW.out) hb)
      clear SG o3 hb hSB
      go_wp2_with fail
      go_ret
      exact ⟨rfl, B8.out⟩
theorem walk (v : Value) (n : Nat) (f : Nat → Nat) (v1 : Value) (n1 : Nat) (f1 : Nat → Nat) (w : World) (A : Arg w v n f) (A1 : Arg w v1 n1 f1) :
    Calls Try.prog 6 #[v, v1] w fun e w' => e = .returned (.bool true) ∧ Below w.heap.size w w' := by
  by_cases d : (dec f n).e = 0
  · have hr : rt (dec f n).p = true := by
      have hf : ∀ i, f i < 256 := by obtain ⟨_, _, _, _, _, h, _⟩ := A; exact h
      obtain ⟨q, a, hd⟩ := dec_is0 d
      rw [hd]
      exact (enc_dec hf hd).1
    rcases auth_of hr with h | h | h
    · exact walk_none v n f v1 w A d h
    · exact walk_nak v n f v1 w A d h
    · exact walk_mac v n f v1 n1 f1 w A A1 d h
  · exact walk_no v n f v1 w A d
set_option maxRecDepth 100000 in
theorem lifted (os : Os) (started : os.Started) (H : Type) (enc : TypeId × Value → H) :
    ReturnsInHanded {} Try.checked os 6 .any (Rows.wireSignedSpec.pre6 enc Try.prog Try.f6 Rows.wireSignedRow.domain false) (Rows.wireSignedSpec.post enc Try.prog Try.f6 false true false false) := by
  refine returnsInHanded_of_change_sized (C := Try.checked) own started (by kernel_rfl) Try.func6
    (ChangeSpec.witness6 (enc := enc) (C := Try.checked) false ⟨#[], #[.slice none 0 0, .slice none 0 0], []⟩ 8 (by kernel_rfl) (by kernel_rfl) (by kernel_rfl) (by kernel_rfl)) ?_
  intro W base args ds gs before hval0 hW hcnd hsz0 _
  have hsz : (DataW.weightsEach Try.prog (Try.f6.params.toList ++ Rows.wireSignedSpec.plain.varTypes Try.prog) (ds ++ gs)).all (· ≤ reachBytes) = true := hsz0
  have hval : ∀ (j : Nat) t v, Try.f6.params[j]? = some t → args[j]? = some v → Value.okWide Try.prog W .any base t v := hval0
  have hW' := hW
  obtain ⟨p, q, hA0, hV, rfl, hfz, hnd⟩ := hW
  have hA : DataW.TrodAll enc Try.prog W 0 (fun _ => true) true Try.f6.params.toList args.toList ds p := hA0
  rw [Try.params6] at hA hval hsz
  obtain ⟨v0, vs0, d0, ds0, p0, q0, hargs, rfl, rfl, h0, r0⟩ := trodAll_cons hA
  obtain ⟨v1, vs1, d1, ds1, p1, q1, rfl, rfl, rfl, h1, r1⟩ := trodAll_cons r0
  obtain ⟨rfl, rfl, rfl⟩ := trodAll_nil r1
  obtain rfl : args = #[v0, v1] := by cases args; simp_all
  obtain ⟨rfl, rfl⟩ := trodVars_none hV
  have h0k := h0
  have hlt0 : ∀ x ∈ p0, x.block < W.heap.size := fun x hx => by have := hW'.lt x (by simp [hx]); simpa using this
  have hb0 : ∀ es sp, d0 = .slice es sp → (es.length + sp.length) * Try.prog.bytesOf 5 ≤ reachBytes := by
    intro es sp he
    exact sized_slice hsz (j := 0) (t := 28) (e := 5) rfl (by rw [he]; rfl) Try.underlying28
  have h1k := h1
  have hlt1 : ∀ x ∈ p1, x.block < W.heap.size := fun x hx => by have := hW'.lt x (by simp [hx]); simpa using this
  have hb1 : ∀ es sp, d1 = .slice es sp → (es.length + sp.length) * Try.prog.bytesOf 5 ≤ reachBytes := by
    intro es sp he
    exact sized_slice hsz (j := 1) (t := 28) (e := 5) rfl (by rw [he]; rfl) Try.underlying28
  obtain ⟨n0, f0, g0⟩ := open_bytes (hval 0 28 v0 rfl rfl) h0 hb0
  obtain ⟨n1, f1, g1⟩ := open_bytes (hval 1 28 v1 rfl rfl) h1 hb1
  clear hA0 hval0
  simp only [List.append_nil] at hW'
  refine (walk v0 n0 f0 v1 n1 f1 W g0 g1).mono fun e W' ⟨he, hg⟩ => ?_
  subst he
  exact ⟨_, rfl, _, _, _, [], _, [], hW', trodAll_cons_mk (shut_bool Try.underlying4 _) trodAll_mk0,
    (trodAll_cons_mk (Below.trod laidOut (by kernel_rfl) (of_decide_eq_true (by kernel_rfl)) h0k hg hlt0) (trodAll_cons_mk (Below.trod laidOut (by kernel_rfl) (of_decide_eq_true (by kernel_rfl)) h1k hg hlt1) trodAll_mk0)), rfl, hg.frame _, fun h => nomatch h⟩

theorem over : Rows.wireSignedRow.holds Try.pinned (OpenSpec.ofChange Rows.wireSignedSpec) :=
  OpenClaim.holds_of_wide 6 Try.f6 rfl rfl rfl rfl rfl rfl rfl ⟨rfl, rfl, rfl, rfl, rfl⟩ rfl rfl rfl rfl rfl (by kernel_rfl) Try.func6 (by kernel_rfl)
    (of_decide_eq_true (by kernel_rfl)) (by unfold Func.isWrapper; first | (rw [if_pos (by decide +kernel)]; kernel_rfl) | (rw [if_neg (by decide +kernel)]; exact ⟨rfl, rfl⟩))
    (fun os started H enc _ => lifted os started H enc)

theorem proved : Rows.WireSignedSaid :=
  over
end Go.Proofs.Ytmjbnbjkpimjmaa.wireSigned
