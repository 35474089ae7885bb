/-
  Packets in memory; the contracts of wire.fieldLength, isField, isHeader, endLength, and of sundialref09.tail.
  Conditions: none.
-/
import Derived.Test.YtmjbnbjkpimjmaaWiC
namespace Go.Proofs.Ytmjbnbjkpimjmaa.Wi
open Go.RowKit Go.ChangeShapes Go.WideShapes Go.ChangeAt Go.Joins By
set_option linter.unusedVariables false
set_option linter.unusedSimpArgs false

/-- block b holds these values, and may be written. -/
def Blk (w : World) (b : Nat) (vs : List Value) : Prop := b < w.heap.size ∧ ∀ i x, vs[i]? = some x → w.cell? ⟨b, i, none⟩ = some x ∧ w.frozen? ⟨b, i, none⟩ = false
theorem Blk.below {w w' : World} {b : Nat} {vs : List Value} (h : Blk w b vs) (k : Below w.heap.size w w') : Blk w' b vs :=
  ⟨Nat.lt_of_lt_of_le h.1 k.size, fun i x hx => ⟨(k.cell (p := ⟨b, i, none⟩) h.1).trans (h.2 i x hx).1, (k.frozen (p := ⟨b, i, none⟩) h.1).trans (h.2 i x hx).2⟩⟩
theorem Blk.belowB {w w' : World} {b B : Nat} {vs : List Value} (h : Blk w b vs) (hb : b < B) (k : Below B w w') : Blk w' b vs :=
  ⟨Nat.lt_of_lt_of_le h.1 k.size, fun i x hx => ⟨(k.cell (p := ⟨b, i, none⟩) hb).trans (h.2 i x hx).1, (k.frozen (p := ⟨b, i, none⟩) hb).trans (h.2 i x hx).2⟩⟩
theorem Blk.new (w : World) (vs : List Value) (t : TypeId) : Blk (w.alloc (.cells vs.toArray t)) w.heap.size vs :=
  ⟨by simp, fun i x hx => ⟨(World.cell?_alloc_mark w _ _ (0, 0) i).trans (by simpa using hx), frozen_of_row _ _ _ vs.toArray t (heap_alloc_new w _)⟩⟩
theorem Blk.new' (w : World) (vs : Array Value) (t : TypeId) : Blk (w.alloc (.cells vs t)) w.heap.size vs.toList := by
  have h := Blk.new w vs.toList t
  rwa [Array.toArray_toList] at h

/-- the value v reads as the bytes l. -/
def Sl (w : World) (v : Value) (l : List Nat) : Prop := l.length ≤ 140737488351232 ∧ (∀ x ∈ l, x < 256) ∧ Sb w v l.length (fun i => l.getD i 0)
theorem Sl.below {w w' : World} {v : Value} {l : List Nat} (h : Sl w v l) (k : Below w.heap.size w w') : Sl w' v l := ⟨h.1, h.2.1, h.2.2.below k⟩
theorem Sl.form {w : World} {v : Value} {l : List Nat} (h : Sl w v l) : ∃ a cap, v = .slice a l.length cap := h.2.2.form
theorem Sl.conv {w0 w : World} {v : Value} {l : List Nat} (h : Sl w0 v l) (k : Below w0.heap.size w0 w) : (convert 28 9 v).run Try.prog w = .ok (.string (bs8 l)) w := by
  have := h.2.2.conv k
  rwa [bl_getD] at this
theorem Sl.app {w0 w : World} {va : Value} {k : List Nat} (A : Sl w0 va k) (q : Below w0.heap.size w0 w) {base : Nat} {v : Value} {l : List Nat} (h : Own w base v l) (hb : base ≤ w.heap.size) (hn : l.length + k.length ≤ 140737488355328) (ty : TypeId) :
    ∃ v' w', (Builtin.append_ #[28, 28] ty #[v, va]).run Try.prog w = .ok v' w' ∧ Own w' base v' (l ++ k) ∧ Below base w w' ∧ w.heap.size ≤ w'.heap.size ∧ (v ≠ .slice none 0 0 → v' ≠ .slice none 0 0) := by
  have := A.2.2.app q h hb hn ty
  rwa [bl_getD] at this
theorem sb_sl {w : World} {v : Value} {n : Nat} {f : Nat → Nat} (h : Sb w v n f) (hn : n ≤ 140737488351232) : Sl w v (bl f n) := by
  obtain ⟨a, cap, e, h1, h2, h3, h4, h5⟩ := h
  refine ⟨by rw [bl_len]; exact hn, bl_byte fun i _ => h3 i, a, cap, by rw [bl_len]; exact e, by rw [bl_len]; exact h1, h2, getD_byte (bl_byte fun i _ => h3 i), fun q => ?_, h5⟩
  rw [bl_len] at q
  obtain ⟨b, off, ea, B⟩ := h4 q
  refine ⟨b, off, ea, B.1, getD_byte (bl_byte fun i _ => h3 i), fun i hi => ?_⟩
  rw [bl_len] at hi
  rw [B.2.2 i hi]
  simp [bl, List.getD_eq_getElem?_getD, hi]
theorem out_sl {w : World} {base : Nat} {v : Value} {l : List Nat} (h : Out w base v l) (hn : l.length ≤ 140737488351232) : Sl w v l := ⟨hn, h.byte, h.sb⟩
theorem nil_sl (w : World) : Sl w (.slice none 0 0) [] := ⟨by simp, fun x h => (by cases h), none, 0, rfl, Nat.le_refl _, by omega, fun _ => by simp, fun h => absurd h (by simp), fun _ => rfl⟩

def f0 : Fd := (0, [])
/-- two cells hold a field. -/
def FAt (w : World) (b o : Nat) (x : Int) (v : Value) : Prop := w.cell? ⟨b, o, none⟩ = some (.int .i64 x) ∧ w.cell? ⟨b, o + 1, none⟩ = some v
theorem FAt.below {w w' : World} {b o : Nat} {x : Int} {v : Value} (h : FAt w b o x v) (hb : b < w.heap.size) (q : Below w.heap.size w w') : FAt w' b o x v :=
  ⟨(q.cell (p := ⟨b, o, none⟩) hb).trans h.1, (q.cell (p := ⟨b, o + 1, none⟩) hb).trans h.2⟩
/-- the value v is a row of the fields L; field j's body is the value V j. -/
def Fs (w : World) (v : Value) (L : List Fd) (V : Nat → Value) : Prop :=
  ∃ a cap, v = .slice a L.length cap ∧ L.length ≤ cap ∧ cap ≤ 9223372036854775807 ∧ (0 < L.length → ∃ b off, a = some ⟨b, off, none⟩ ∧ b < w.heap.size ∧ ∀ j, j < L.length → FAt w b (off + j * 2) (L.getD j f0).1 (V j)) ∧ ∀ j, j < L.length → Sl w (V j) (L.getD j f0).2
theorem Fs.below {w w' : World} {v : Value} {L : List Fd} {V : Nat → Value} (h : Fs w v L V) (q : Below w.heap.size w w') : Fs w' v L V := by
  obtain ⟨a, cap, e, h1, h2, h3, h4⟩ := h
  exact ⟨a, cap, e, h1, h2, fun hn => by obtain ⟨b, off, ea, hb, B⟩ := h3 hn; exact ⟨b, off, ea, Nat.lt_of_lt_of_le hb q.size, fun j hj => (B j hj).below hb q⟩, fun j hj => (h4 j hj).below q⟩
theorem Fs.form {w : World} {v : Value} {L : List Fd} {V : Nat → Value} (h : Fs w v L V) : ∃ a cap, v = .slice a L.length cap := by
  obtain ⟨a, cap, e, _⟩ := h
  exact ⟨a, cap, e⟩
theorem nil_fs (w : World) (V : Nat → Value) : Fs w (.slice none 0 0) [] V := ⟨none, 0, rfl, Nat.le_refl _, by omega, fun h => absurd h (by simp), fun j h => absurd h (by simp)⟩
/-- a packet as a value. -/
abbrev PV (p : Pk) (fv dv : Value) : Value := .agg #[.int .i64 p.leap, .int .i64 p.ver, .int .i64 p.mode, .int .i64 p.strat, .int .i64 p.poll, .int .i64 p.prec, .int .u32 (p.rd : Nat), .int .u32 (p.rs : Nat), .int .u32 (p.rid : Nat), .int .u64 (p.tref : Nat), .int .u64 (p.torg : Nat), .int .u64 (p.trec : Nat), .int .u64 (p.txm : Nat), fv, .int .i64 p.auth, .int .u32 (p.key : Nat), dv]
/-- its fields and its digest in memory. -/
def Pm (w : World) (p : Pk) (fv dv : Value) (V : Nat → Value) : Prop := Fs w fv p.fs V ∧ Sl w dv p.dig ∧ p.kind
theorem Pm.below {w w' : World} {p : Pk} {fv dv : Value} {V : Nat → Value} (h : Pm w p fv dv V) (q : Below w.heap.size w w') : Pm w' p fv dv V := ⟨h.1.below q, h.2.1.below q, h.2.2⟩

theorem fieldLength_c (x : Int) (a : Option Addr) (n cap : Nat) (hn : n ≤ 140737488351232) (w : World) : Calls Try.prog 20 #[.agg #[.int .i64 x, .slice a n cap]] w fun e w' => e = .returned (.int .i64 ((n + 4 : Nat) : Int)) ∧ w' = w.alloc (.cells #[.int .i64 x, .slice a n cap] 51) := by
  have k0 : (0 : Int) ≤ (n : Int) := by omega
  have k1 : (n : Int) ≤ 140737488351232 := by omega
  go_enter Try.func20, Try.ntmps20
  go_wp2_with fail
  go_ret
  exact ⟨by simp; omega, rfl⟩
/-- is it a field? -/
def okFd (x : Int) (n : Nat) : Bool := btw x 0 65535 && okL (n + 4)
set_option maxHeartbeats 1000000 in
theorem isField_c (x : Int) (a : Option Addr) (n cap : Nat) (hn : n ≤ 140737488351232) (w : World) : Calls Try.prog 37 #[.agg #[.int .i64 x, .slice a n cap]] w fun e w' => e = .returned (.bool (okFd x n)) ∧ Below w.heap.size w w' := by
  have H1 := Lib.hid (fun w => within_c x 0 65535 w)
  have H2 := Lib.hid (fun w => fieldLength_c x a n cap hn w)
  have H3 := Lib.hid (fun w => isFieldLength_c (n + 4) w)
  have E : Hid (okFd x n = (btw x 0 65535 && okL (n + 4))) := Lib.hid rfl
  clear hn
  cases c : btw x 0 65535 with
  | false =>
    rw [c] at E H1
    go_enter Try.func37, Try.ntmps37
    go_wp2_with fail
    refine (H1.out _).mono ?_
    rintro e w1 ⟨rfl, rfl⟩
    go_wp2_with fail
    go_ret
    exact ⟨by rw [E.out]; rfl, balloc (brefl w) _⟩
  | true =>
    rw [c] at E H1
    go_enter Try.func37, Try.ntmps37
    go_wp2_with fail
    refine (H1.out _).mono ?_
    rintro e w1 ⟨rfl, rfl⟩
    go_wp2_with fail
    refine (H2.out _).mono ?_
    rintro e w1 ⟨rfl, rfl⟩
    go_wp2_with fail
    refine (H3.out _).mono ?_
    rintro e w1 ⟨rfl, rfl⟩
    go_wp2_with fail
    go_ret
    exact ⟨by rw [E.out]; rfl, balloc (balloc (brefl w) _) _⟩
/-- is it a header? -/
def okHd (h0 h1 h2 h3 h4 h5 : Int) : Bool := btw h0 0 3 && btw h1 1 4 && btw h2 0 7 && btw h3 0 255 && btw h4 (-128) 127 && btw h5 (-128) 127
set_option maxRecDepth 100000 in
set_option maxHeartbeats 4000000 in
theorem isHeader_c (h0 h1 h2 h3 h4 h5 : Int) (r0 r1 r2 t0 t1 t2 t3 : Nat) (w : World) : Calls Try.prog 23 #[.agg #[.int .i64 h0, .int .i64 h1, .int .i64 h2, .int .i64 h3, .int .i64 h4, .int .i64 h5, .int .u32 (r0 : Nat), .int .u32 (r1 : Nat), .int .u32 (r2 : Nat), .int .u64 (t0 : Nat), .int .u64 (t1 : Nat), .int .u64 (t2 : Nat), .int .u64 (t3 : Nat)]] w fun e w' => e = .returned (.bool (okHd h0 h1 h2 h3 h4 h5)) ∧ Below w.heap.size w w' := by
  have H0 := Lib.hid (fun w => within_c h0 0 3 w)
  have H1 := Lib.hid (fun w => isVersion_c h1 w)
  have H2 := Lib.hid (fun w => within_c h2 0 7 w)
  have H3 := Lib.hid (fun w => within_c h3 0 255 w)
  have H4 := Lib.hid (fun w => within_c h4 (-128) 127 w)
  have H5 := Lib.hid (fun w => within_c h5 (-128) 127 w)
  have E : Hid (okHd h0 h1 h2 h3 h4 h5 = (btw h0 0 3 && btw h1 1 4 && btw h2 0 7 && btw h3 0 255 && btw h4 (-128) 127 && btw h5 (-128) 127)) := Lib.hid rfl
  cases c0 : btw h0 0 3 with
  | false =>
    rw [c0] at E H0
    go_enter Try.func23, Try.ntmps23
    go_wp2_with fail
    refine (H0.out _).mono ?_
    rintro e w1 ⟨rfl, rfl⟩
    go_wp2_with fail
    go_ret
    exact ⟨by rw [E.out]; rfl, balloc (brefl w) _⟩
  | true =>
    rw [c0] at E H0
    cases c1 : btw h1 1 4 with
    | false =>
      rw [c1] at E H1
      go_enter Try.func23, Try.ntmps23
      go_wp2_with fail
      refine (H0.out _).mono ?_
      rintro e w1 ⟨rfl, rfl⟩
      go_wp2_with fail
      refine (H1.out _).mono ?_
      rintro e w1 ⟨rfl, rfl⟩
      go_wp2_with fail
      go_ret
      exact ⟨by rw [E.out]; rfl, balloc (brefl w) _⟩
    | true =>
      rw [c1] at E H1
      cases c2 : btw h2 0 7 with
      | false =>
        rw [c2] at E H2
        go_enter Try.func23, Try.ntmps23
        go_wp2_with fail
        refine (H0.out _).mono ?_
        rintro e w1 ⟨rfl, rfl⟩
        go_wp2_with fail
        refine (H1.out _).mono ?_
        rintro e w1 ⟨rfl, rfl⟩
        go_wp2_with fail
        refine (H2.out _).mono ?_
        rintro e w1 ⟨rfl, rfl⟩
        go_wp2_with fail
        go_ret
        exact ⟨by rw [E.out]; rfl, balloc (brefl w) _⟩
      | true =>
        rw [c2] at E H2
        cases c3 : btw h3 0 255 with
        | false =>
          rw [c3] at E H3
          go_enter Try.func23, Try.ntmps23
          go_wp2_with fail
          refine (H0.out _).mono ?_
          rintro e w1 ⟨rfl, rfl⟩
          go_wp2_with fail
          refine (H1.out _).mono ?_
          rintro e w1 ⟨rfl, rfl⟩
          go_wp2_with fail
          refine (H2.out _).mono ?_
          rintro e w1 ⟨rfl, rfl⟩
          go_wp2_with fail
          refine (H3.out _).mono ?_
          rintro e w1 ⟨rfl, rfl⟩
          go_wp2_with fail
          go_ret
          exact ⟨by rw [E.out]; rfl, balloc (brefl w) _⟩
        | true =>
          rw [c3] at E H3
          cases c4 : btw h4 (-128) 127 with
          | false =>
            rw [c4] at E H4
            go_enter Try.func23, Try.ntmps23
            go_wp2_with fail
            refine (H0.out _).mono ?_
            rintro e w1 ⟨rfl, rfl⟩
            go_wp2_with fail
            refine (H1.out _).mono ?_
            rintro e w1 ⟨rfl, rfl⟩
            go_wp2_with fail
            refine (H2.out _).mono ?_
            rintro e w1 ⟨rfl, rfl⟩
            go_wp2_with fail
            refine (H3.out _).mono ?_
            rintro e w1 ⟨rfl, rfl⟩
            go_wp2_with fail
            refine (H4.out _).mono ?_
            rintro e w1 ⟨rfl, rfl⟩
            go_wp2_with fail
            go_ret
            exact ⟨by rw [E.out]; rfl, balloc (brefl w) _⟩
          | true =>
            rw [c4] at E H4
            cases c5 : btw h5 (-128) 127 with
            | false =>
              rw [c5] at E H5
              go_enter Try.func23, Try.ntmps23
              go_wp2_with fail
              refine (H0.out _).mono ?_
              rintro e w1 ⟨rfl, rfl⟩
              go_wp2_with fail
              refine (H1.out _).mono ?_
              rintro e w1 ⟨rfl, rfl⟩
              go_wp2_with fail
              refine (H2.out _).mono ?_
              rintro e w1 ⟨rfl, rfl⟩
              go_wp2_with fail
              refine (H3.out _).mono ?_
              rintro e w1 ⟨rfl, rfl⟩
              go_wp2_with fail
              refine (H4.out _).mono ?_
              rintro e w1 ⟨rfl, rfl⟩
              go_wp2_with fail
              refine (H5.out _).mono ?_
              rintro e w1 ⟨rfl, rfl⟩
              go_wp2_with fail
              go_ret
              exact ⟨by rw [E.out]; rfl, balloc (brefl w) _⟩
            | true =>
              rw [c5] at E H5
              go_enter Try.func23, Try.ntmps23
              go_wp2_with fail
              refine (H0.out _).mono ?_
              rintro e w1 ⟨rfl, rfl⟩
              go_wp2_with fail
              refine (H1.out _).mono ?_
              rintro e w1 ⟨rfl, rfl⟩
              go_wp2_with fail
              refine (H2.out _).mono ?_
              rintro e w1 ⟨rfl, rfl⟩
              go_wp2_with fail
              refine (H3.out _).mono ?_
              rintro e w1 ⟨rfl, rfl⟩
              go_wp2_with fail
              refine (H4.out _).mono ?_
              rintro e w1 ⟨rfl, rfl⟩
              go_wp2_with fail
              refine (H5.out _).mono ?_
              rintro e w1 ⟨rfl, rfl⟩
              go_wp2_with fail
              go_ret
              exact ⟨by rw [E.out]; rfl, balloc (brefl w) _⟩
def tlx (a : Int) (k n : Nat) : Option Nat :=
  if a = 0 then (if k = 0 ∧ n = 0 then some 0 else none)
  else if a = 1 then (if k = 0 ∧ n = 0 then some 4 else none)
  else if a = 2 then (if n = 16 ∨ n = 20 then some (4 + n) else none)
  else none
theorem tl_eq (p : Pk) : tl p = tlx p.auth p.key p.dig.length := rfl
set_option maxRecDepth 100000 in
set_option maxHeartbeats 4000000 in
theorem endLength_c (h0 h1 h2 h3 h4 h5 : Int) (r0 r1 r2 t0 t1 t2 t3 : Nat) (fa : Option Addr) (fn fc : Nat) (a : Int) (k : Nat) (da : Option Addr) (n dc : Nat) (hk : k < 4294967296) (hn : n ≤ 140737488351232) (w : World) :
    Calls Try.prog 22 #[.agg #[.int .i64 h0, .int .i64 h1, .int .i64 h2, .int .i64 h3, .int .i64 h4, .int .i64 h5, .int .u32 (r0 : Nat), .int .u32 (r1 : Nat), .int .u32 (r2 : Nat), .int .u64 (t0 : Nat), .int .u64 (t1 : Nat), .int .u64 (t2 : Nat), .int .u64 (t3 : Nat), .slice fa fn fc, .int .i64 a, .int .u32 (k : Nat), .slice da n dc]] w fun e w' => (∃ m : Nat, e = .returned (.tuple #[.int .i64 (m : Int), .bool (tlx a k n).isSome]) ∧ (∀ z, tlx a k n = some z → z = m)) ∧ Below w.heap.size w w' := by
  have k0 : (0 : Int) ≤ (k : Int) := by omega
  have k1 : (k : Int) < 4294967296 := by omega
  have n0 : (0 : Int) ≤ (n : Int) := by omega
  have n1 : (n : Int) ≤ 140737488351232 := by omega
  have E : Hid (tlx a k n = if a = 0 then (if k = 0 ∧ n = 0 then some 0 else none) else if a = 1 then (if k = 0 ∧ n = 0 then some 4 else none) else if a = 2 then (if n = 16 ∨ n = 20 then some (4 + n) else none) else none) := Lib.hid rfl
  generalize tlx a k n = T at *
  clear hk hn
  by_cases ca : a = 0
  · subst ca
    by_cases ck : k = 0
    · subst ck
      by_cases cn : n = 0
      · subst cn
        go_enter Try.func22, Try.ntmps22
        go_wp2_with fail
        go_ret2
        exact ⟨⟨0, by rw [show T = some (0) by rw [E.out]; simp []]; first | rfl | skip, fun z hz => (by rw [show T = some (0) by rw [E.out]; simp []] at hz; cases hz; rfl)⟩, balloc (brefl w) _⟩
      · have en : ((n : Int) == 0) = false := by simp; omega
        have CN := Lib.hid cn
        clear cn
        go_enter Try.func22, Try.ntmps22
        go_wp2_with fail
        go_ret2
        exact ⟨⟨_, by rw [show T = none by rw [E.out]; simp [CN.out]]; first | rfl | skip, fun z hz => (by rw [show T = none by rw [E.out]; simp [CN.out]] at hz; cases hz)⟩, balloc (brefl w) _⟩
    · have ek : ((k : Int) == 0) = false := by simp; omega
      have CK := Lib.hid ck
      clear ck
      go_enter Try.func22, Try.ntmps22
      go_wp2_with fail
      go_ret2
      exact ⟨⟨_, by rw [show T = none by rw [E.out]; simp [CK.out]]; first | rfl | skip, fun z hz => (by rw [show T = none by rw [E.out]; simp [CK.out]] at hz; cases hz)⟩, balloc (brefl w) _⟩
  · have ea : (a == 0) = false := by simpa using ca
    by_cases cb : a = 1
    · subst cb
      clear ca ea
      by_cases ck : k = 0
      · subst ck
        by_cases cn : n = 0
        · subst cn
          go_enter Try.func22, Try.ntmps22
          go_wp2_with fail
          go_ret2
          exact ⟨⟨4, by rw [show T = some (4) by rw [E.out]; simp []]; first | rfl | skip, fun z hz => (by rw [show T = some (4) by rw [E.out]; simp []] at hz; cases hz; rfl)⟩, balloc (brefl w) _⟩
        · have en : ((n : Int) == 0) = false := by simp; omega
          have CN := Lib.hid cn
          clear cn
          go_enter Try.func22, Try.ntmps22
          go_wp2_with fail
          go_ret2
          exact ⟨⟨_, by rw [show T = none by rw [E.out]; simp [CN.out]]; first | rfl | skip, fun z hz => (by rw [show T = none by rw [E.out]; simp [CN.out]] at hz; cases hz)⟩, balloc (brefl w) _⟩
      · have ek : ((k : Int) == 0) = false := by simp; omega
        have CK := Lib.hid ck
        clear ck
        go_enter Try.func22, Try.ntmps22
        go_wp2_with fail
        go_ret2
        exact ⟨⟨_, by rw [show T = none by rw [E.out]; simp [CK.out]]; first | rfl | skip, fun z hz => (by rw [show T = none by rw [E.out]; simp [CK.out]] at hz; cases hz)⟩, balloc (brefl w) _⟩
    · have eb : (a == 1) = false := by simpa using cb
      by_cases cc : a = 2
      · subst cc
        clear ca ea cb eb
        by_cases ck : k = 0
        · have ek : ((k : Int) == 0) = true := by simp; omega
          have CKK := Lib.hid ck
          clear ck
          by_cases cn : n = 0
          · have en : ((n : Int) == 0) = true := by simp; omega
            have CNN := Lib.hid cn
            clear cn
            obtain rfl : n = 0 := CNN.out
            clear en
            go_enter Try.func22, Try.ntmps22
            go_wp2_with fail
            go_ret2
            exact ⟨⟨_, by rw [show T = none by rw [E.out]; simp []]; first | rfl | skip, fun z hz => (by rw [show T = none by rw [E.out]; simp []] at hz; cases hz)⟩, balloc (brefl w) _⟩
          · have en : ((n : Int) == 0) = false := by simp; omega
            have CNN := Lib.hid cn
            clear cn
            by_cases c16 : n = 16
            · subst c16
              try clear en
              go_enter Try.func22, Try.ntmps22
              go_wp2_with fail
              go_ret2
              exact ⟨⟨4 + 16, by rw [show T = some (4 + 16) by rw [E.out]; simp []]; first | rfl | skip, fun z hz => (by rw [show T = some (4 + 16) by rw [E.out]; simp []] at hz; cases hz; rfl)⟩, balloc (brefl w) _⟩
            · have e16 : ((n : Int) == 16) = false := by simp; omega
              by_cases c20 : n = 20
              · subst c20
                try clear en
                go_enter Try.func22, Try.ntmps22
                go_wp2_with fail
                go_ret2
                exact ⟨⟨4 + 20, by rw [show T = some (4 + 20) by rw [E.out]; simp []]; first | rfl | skip, fun z hz => (by rw [show T = some (4 + 20) by rw [E.out]; simp []] at hz; cases hz; rfl)⟩, balloc (brefl w) _⟩
              · have e20 : ((n : Int) == 20) = false := by simp; omega
                have C16 := Lib.hid c16
                have C20 := Lib.hid c20
                clear c16 c20
                go_enter Try.func22, Try.ntmps22
                go_wp2_with fail
                go_ret2
                exact ⟨⟨_, by rw [show T = none by rw [E.out]; simp [C16.out, C20.out]]; first | rfl | skip, fun z hz => (by rw [show T = none by rw [E.out]; simp [C16.out, C20.out]] at hz; cases hz)⟩, balloc (brefl w) _⟩
        · have ek : ((k : Int) == 0) = false := by simp; omega
          have CKK := Lib.hid ck
          clear ck
          by_cases c16 : n = 16
          · subst c16
            try clear en
            go_enter Try.func22, Try.ntmps22
            go_wp2_with fail
            go_ret2
            exact ⟨⟨4 + 16, by rw [show T = some (4 + 16) by rw [E.out]; simp []]; first | rfl | skip, fun z hz => (by rw [show T = some (4 + 16) by rw [E.out]; simp []] at hz; cases hz; rfl)⟩, balloc (brefl w) _⟩
          · have e16 : ((n : Int) == 16) = false := by simp; omega
            by_cases c20 : n = 20
            · subst c20
              try clear en
              go_enter Try.func22, Try.ntmps22
              go_wp2_with fail
              go_ret2
              exact ⟨⟨4 + 20, by rw [show T = some (4 + 20) by rw [E.out]; simp []]; first | rfl | skip, fun z hz => (by rw [show T = some (4 + 20) by rw [E.out]; simp []] at hz; cases hz; rfl)⟩, balloc (brefl w) _⟩
            · have e20 : ((n : Int) == 20) = false := by simp; omega
              have C16 := Lib.hid c16
              have C20 := Lib.hid c20
              clear c16 c20
              go_enter Try.func22, Try.ntmps22
              go_wp2_with fail
              go_ret2
              exact ⟨⟨_, by rw [show T = none by rw [E.out]; simp [C16.out, C20.out]]; first | rfl | skip, fun z hz => (by rw [show T = none by rw [E.out]; simp [C16.out, C20.out]] at hz; cases hz)⟩, balloc (brefl w) _⟩
      · have ec : (a == 2) = false := by simpa using cc
        by_cases ck : k = 0
        · have ek : ((k : Int) == 0) = true := by simp; omega
          have CKK := Lib.hid ck
          clear ck
          by_cases cn : n = 0
          · have en : ((n : Int) == 0) = true := by simp; omega
            have CNN := Lib.hid cn
            clear cn
            have C0 := Lib.hid ca
            have C1 := Lib.hid cb
            have C2 := Lib.hid cc
            clear ca cb cc
            go_enter Try.func22, Try.ntmps22
            go_wp2_with fail
            go_ret2
            exact ⟨⟨_, by rw [show T = none by rw [E.out]; simp [C0.out, C1.out, C2.out]]; first | rfl | skip, fun z hz => (by rw [show T = none by rw [E.out]; simp [C0.out, C1.out, C2.out]] at hz; cases hz)⟩, balloc (brefl w) _⟩
          · have en : ((n : Int) == 0) = false := by simp; omega
            have CNN := Lib.hid cn
            clear cn
            have C0 := Lib.hid ca
            have C1 := Lib.hid cb
            have C2 := Lib.hid cc
            clear ca cb cc
            go_enter Try.func22, Try.ntmps22
            go_wp2_with fail
            go_ret2
            exact ⟨⟨_, by rw [show T = none by rw [E.out]; simp [C0.out, C1.out, C2.out]]; first | rfl | skip, fun z hz => (by rw [show T = none by rw [E.out]; simp [C0.out, C1.out, C2.out]] at hz; cases hz)⟩, balloc (brefl w) _⟩
        · have ek : ((k : Int) == 0) = false := by simp; omega
          have CKK := Lib.hid ck
          clear ck
          have C0 := Lib.hid ca
          have C1 := Lib.hid cb
          have C2 := Lib.hid cc
          clear ca cb cc
          go_enter Try.func22, Try.ntmps22
          go_wp2_with fail
          go_ret2
          exact ⟨⟨_, by rw [show T = none by rw [E.out]; simp [C0.out, C1.out, C2.out]]; first | rfl | skip, fun z hz => (by rw [show T = none by rw [E.out]; simp [C0.out, C1.out, C2.out]] at hz; cases hz)⟩, balloc (brefl w) _⟩
set_option maxRecDepth 100000 in
set_option maxHeartbeats 4000000 in
theorem tail_c (h0 h1 h2 h3 h4 h5 : Int) (r0 r1 r2 t0 t1 t2 t3 : Nat) (fa : Option Addr) (fn fc : Nat) (a : Int) (k : Nat) (da : Option Addr) (n dc : Nat) (hk : k < 4294967296) (hn : n ≤ 140737488351232) (w : World) :
    Calls Try.prog 26 #[.agg #[.int .i64 h0, .int .i64 h1, .int .i64 h2, .int .i64 h3, .int .i64 h4, .int .i64 h5, .int .u32 (r0 : Nat), .int .u32 (r1 : Nat), .int .u32 (r2 : Nat), .int .u64 (t0 : Nat), .int .u64 (t1 : Nat), .int .u64 (t2 : Nat), .int .u64 (t3 : Nat), .slice fa fn fc, .int .i64 a, .int .u32 (k : Nat), .slice da n dc]] w fun e w' => (((∃ z : Nat, tlx a k n = some z ∧ e = .returned (.int .i64 (z : Int))) ∨ (tlx a k n = none ∧ e = .returned (.int .i64 (-1))))) ∧ Below w.heap.size w w' := by
  have k0 : (0 : Int) ≤ (k : Int) := by omega
  have k1 : (k : Int) < 4294967296 := by omega
  have n0 : (0 : Int) ≤ (n : Int) := by omega
  have n1 : (n : Int) ≤ 140737488351232 := by omega
  have E : Hid (tlx a k n = if a = 0 then (if k = 0 ∧ n = 0 then some 0 else none) else if a = 1 then (if k = 0 ∧ n = 0 then some 4 else none) else if a = 2 then (if n = 16 ∨ n = 20 then some (4 + n) else none) else none) := Lib.hid rfl
  generalize tlx a k n = T at *
  clear hk hn
  by_cases ca : a = 0
  · subst ca
    by_cases ck : k = 0
    · subst ck
      by_cases cn : n = 0
      · subst cn
        go_enter Try.func26, Try.ntmps26
        go_wp2_with fail
        go_ret
        exact ⟨.inl ⟨0, by rw [E.out]; simp [], rfl⟩, balloc (brefl w) _⟩
      · have en : ((n : Int) == 0) = false := by simp; omega
        have CN := Lib.hid cn
        clear cn
        go_enter Try.func26, Try.ntmps26
        go_wp2_with fail
        go_ret
        exact ⟨.inr ⟨by rw [E.out]; simp [CN.out], rfl⟩, balloc (brefl w) _⟩
    · have ek : ((k : Int) == 0) = false := by simp; omega
      have CK := Lib.hid ck
      clear ck
      go_enter Try.func26, Try.ntmps26
      go_wp2_with fail
      go_ret
      exact ⟨.inr ⟨by rw [E.out]; simp [CK.out], rfl⟩, balloc (brefl w) _⟩
  · have ea : (a == 0) = false := by simpa using ca
    by_cases cb : a = 1
    · subst cb
      clear ca ea
      by_cases ck : k = 0
      · subst ck
        by_cases cn : n = 0
        · subst cn
          go_enter Try.func26, Try.ntmps26
          go_wp2_with fail
          go_ret
          exact ⟨.inl ⟨4, by rw [E.out]; simp [], rfl⟩, balloc (brefl w) _⟩
        · have en : ((n : Int) == 0) = false := by simp; omega
          have CN := Lib.hid cn
          clear cn
          go_enter Try.func26, Try.ntmps26
          go_wp2_with fail
          go_ret
          exact ⟨.inr ⟨by rw [E.out]; simp [CN.out], rfl⟩, balloc (brefl w) _⟩
      · have ek : ((k : Int) == 0) = false := by simp; omega
        have CK := Lib.hid ck
        clear ck
        go_enter Try.func26, Try.ntmps26
        go_wp2_with fail
        go_ret
        exact ⟨.inr ⟨by rw [E.out]; simp [CK.out], rfl⟩, balloc (brefl w) _⟩
    · have eb : (a == 1) = false := by simpa using cb
      by_cases cc : a = 2
      · subst cc
        clear ca ea cb eb
        by_cases c16 : n = 16
        · subst c16
          go_enter Try.func26, Try.ntmps26
          go_wp2_with fail
          go_ret
          exact ⟨.inl ⟨4 + 16, by rw [E.out]; simp [], rfl⟩, balloc (brefl w) _⟩
        · have e16 : ((n : Int) == 16) = false := by simp; omega
          by_cases c20 : n = 20
          · subst c20
            go_enter Try.func26, Try.ntmps26
            go_wp2_with fail
            go_ret
            exact ⟨.inl ⟨4 + 20, by rw [E.out]; simp [], rfl⟩, balloc (brefl w) _⟩
          · have e20 : ((n : Int) == 20) = false := by simp; omega
            have C16 := Lib.hid c16
            have C20 := Lib.hid c20
            clear c16 c20
            go_enter Try.func26, Try.ntmps26
            go_wp2_with fail
            go_ret
            exact ⟨.inr ⟨by rw [E.out]; simp [C16.out, C20.out], rfl⟩, balloc (brefl w) _⟩
      · have ec : (a == 2) = false := by simpa using cc
        have C0 := Lib.hid ca
        have C1 := Lib.hid cb
        have C2 := Lib.hid cc
        clear ca cb cc
        go_enter Try.func26, Try.ntmps26
        go_wp2_with fail
        go_ret
        exact ⟨.inr ⟨by rw [E.out]; simp [C0.out, C1.out, C2.out], rfl⟩, balloc (brefl w) _⟩
end Go.Proofs.Ytmjbnbjkpimjmaa.Wi
