/-
  LeapRound: From even time to UTC and back one comes to where one was, and UTC stands back by a second only where a leap second begins. The law returns true for every input, and the input reads as it did.
  Conditions: none.
-/
import Derived.Test.YtmehknhajoemgaaRows
import Derived.Test.YtmehknhajoemgaaLpO
import Derived.ChangeMaps5
import Derived.Carry
import Derived.Lib.SmallJoins
import Derived.Deep.RegionHeld3
namespace Go.Proofs.Ytmehknhajoemgaa.leapRound
open Go.ChangeShapes Go.WideShapes Go.ChangeAt Go.RowKit Go.Joins Cv Lp
set_option linter.unusedVariables false
set_option linter.unusedSimpArgs false

theorem own : ownKnob Try.prog.godebug = none := by kernel_rfl
theorem laidOut : laidOutB Try.prog = true := by kernel_rfl

theorem pick_d (d : Int) : ∃ r s : Int, d.tmod 1048576 = r ∧ -1048576 < r ∧ r < 1048576 ∧ r % 1048576 = s ∧ (r + 1048576) % 1048576 = s ∧ 0 ≤ s ∧ s < 1048576 :=
  ⟨_, _, rfl, Int.lt_tmod_of_pos d (by omega), Int.tmod_lt_of_pos d (by omega), rfl, by omega, Int.emod_nonneg _ (by omega), Int.emod_lt_of_pos _ (by omega)⟩
/-- what the way back is: the times that are rising, u among them, each with the UTC time t. -/
structure Bk (n : Nat) (a o : Nat → Int) (u t : Int) (L : List Int) : Prop where
  up : ∀ (j : Nat) (x y : Int), L[j]? = some x → L[j + 1]? = some y → x < y
  at_ : ∀ (j : Nat) (x : Int), L[j]? = some x → ut n a o x = t ∧ 0 ≤ x ∧ x ≤ 288230376151711744
  has : u ∈ L
  few : n < 3 → L.length ≤ 2
  len : L.length ≤ n
theorem bk {n : Nat} {a o : Nat → Int} {u : Int} (h : Rt n a o) (hu : u ≤ 288230376151711744) (ht : 0 ≤ ut n a o u) : Bk n a o u (ut n a o u) (evs n a o (ut n a o u) n) := by
  have E := h.ev (ut n a o u)
  refine ⟨fun j x y hx hy => ?_, fun j x hx => ?_, E.all u rfl, fun hn => ?_, E.len⟩
  · obtain ⟨h1, h2⟩ := List.getElem?_eq_some_iff.1 hx
    obtain ⟨h3, h4⟩ := List.getElem?_eq_some_iff.1 hy
    have := List.pairwise_iff_getElem.1 E.up j (j + 1) h1 h3 (by omega)
    rw [h2, h4] at this
    exact this
  · have m := E.at_ x (List.mem_of_getElem? hx)
    exact ⟨m.1, by omega, h.ev_top hu m.1⟩
  · exact Nat.le_trans E.len (by omega)
theorem mem_take {L : List Int} {k : Nat} {x u : Int} (h : L[k]? = some x) : decide (u ∈ L.take (k + 1)) = (decide (u ∈ L.take k) || decide (x = u)) := by
  obtain ⟨h1, h2⟩ := List.getElem?_eq_some_iff.1 h
  rw [List.take_succ_eq_append_getElem h1, h2, Bool.eq_iff_iff]
  simp only [decide_eq_true_eq, Bool.or_eq_true, List.mem_append, List.mem_singleton]
  exact ⟨fun q => q.elim .inl fun q => .inr q.symm, fun q => q.elim .inl fun q => .inr q.symm⟩

set_option maxRecDepth 100000 in
set_option maxHeartbeats 4000000 in
theorem walk_range (vs : Value) (e : Int) (n : Nat) (a o : Nat → Int) (u d : Int) (w : World) (C : Cs w vs n a o) (h : Tb n a o e) (h0 : ¬ (0 ≤ u ∧ u ≤ 288230376151711744)) :
    Calls Try.prog 3 #[lv vs e, .int .i64 u, .int .i64 d] w fun x w' => x = .returned (.bool true) ∧ Below w.heap.size w w' := by
  have CK := Lib.hid (fun w (A : Cs w vs n a o) => UTC_range A h h0)
  have A0 := Lib.hid C
  clear C
  unfold lv at *
  go_enter Try.func3, Try.ntmps3
  go_wp2_with fail
  refine (awake8_c _).mono ?_
  rintro x w1 ⟨rfl, hb⟩
  have q0 := hb.cell (p := ⟨w.heap.size, 0, none⟩) (by simp)
  have q1 := hb.cell (p := ⟨w.heap.size, 1, none⟩) (by simp)
  simp [go_sem] at q0 q1
  have B1 := Lib.hid (bstep (balloc (brefl w) _) hb)
  clear hb
  go_wp2_with fail
  refine (CK.out _ (A0.out.below B1.out)).mono ?_
  rintro x w2 ⟨rfl, hb⟩
  have B2 := Lib.hid (bstep B1.out hb)
  clear hb
  go_wp2_with fail
  go_ret
  exact ⟨rfl, B2.out⟩

set_option maxRecDepth 100000 in
set_option maxHeartbeats 4000000 in
theorem walk_shape (vs : Value) (e : Int) (n : Nat) (a o : Nat → Int) (u d : Int) (w : World) (C : Cs w vs n a o) (h : ¬ Tb n a o e) :
    Calls Try.prog 3 #[lv vs e, .int .i64 u, .int .i64 d] w fun x w' => x = .returned (.bool true) ∧ Below w.heap.size w w' := by
  have CK := Lib.hid (fun w (A : Cs w vs n a o) => UTC_shape (u := u) A h)
  have A0 := Lib.hid C
  clear C
  unfold lv at *
  go_enter Try.func3, Try.ntmps3
  go_wp2_with fail
  refine (awake8_c _).mono ?_
  rintro x w1 ⟨rfl, hb⟩
  have q0 := hb.cell (p := ⟨w.heap.size, 0, none⟩) (by simp)
  have q1 := hb.cell (p := ⟨w.heap.size, 1, none⟩) (by simp)
  simp [go_sem] at q0 q1
  have B1 := Lib.hid (bstep (balloc (brefl w) _) hb)
  clear hb
  go_wp2_with fail
  refine (CK.out _ (A0.out.below B1.out)).mono ?_
  rintro x w2 ⟨rfl, hb⟩
  have B2 := Lib.hid (bstep B1.out hb)
  clear hb
  go_wp2_with fail
  go_ret
  exact ⟨rfl, B2.out⟩

set_option maxRecDepth 100000 in
set_option maxHeartbeats 8000000 in
theorem walk_yes (vs : Value) (e : Int) (n : Nat) (a o : Nat → Int) (u d : Int) (w : World) (C : Cs w vs n a o) (h : Tb n a o e) (h0 : 0 ≤ u) (h1 : u ≤ 288230376151711744) :
    Calls Try.prog 3 #[lv vs e, .int .i64 u, .int .i64 d] w fun x w' => x = .returned (.bool true) ∧ Below w.heap.size w w' := by
  have UO := Lib.hid (fun w (A : Cs w vs n a o) u h0 h1 => UTC_ok (u := u) A h h0 h1)
  have UR := Lib.hid (fun w (A : Cs w vs n a o) u h0 => UTC_range (u := u) A h h0)
  have A0 := Lib.hid C
  have pos := h.1.pos
  have nle := h.1.n_le
  have ST : Hid (∀ d, 0 ≤ d → d < 1048576 → ut n a o (u + d) - ut n a o u = d ∨ (ut n a o (u + d) - ut n a o u = d - 1048576 ∧ inl n a o (u + d) = true ∧ inl n a o u = false) ∨ (ut n a o (u + d) - ut n a o u = d + 1048576 ∧ inl n a o (u + d) = false)) := Lib.hid fun d => h.1.step u d
  have SB : Hid (∀ x, x - 209715200 ≤ ut n a o x ∧ ut n a o x ≤ x) := Lib.hid fun x => by
    have := h.1.ofs_bd x
    unfold ut
    omega
  have tb := SB.out u
  have BK : Hid (0 ≤ ut n a o u → Bk n a o u (ut n a o u) (evs n a o (ut n a o u) n)) := Lib.hid fun q => bk h.1 h1 q
  have EK : Hid (∀ w (A : Cs w vs n a o), 0 ≤ ut n a o u → Calls Try.prog 7 #[lv vs e, .int .i64 (ut n a o u)] w fun x w' => EP w.heap.size (evs n a o (ut n a o u) n) w' x ∧ Below w.heap.size w w') := Lib.hid fun w A q => Even_ok A h q (by omega)
  have ER : Hid (∀ w (A : Cs w vs n a o), ut n a o u < 0 → Calls Try.prog 7 #[lv vs e, .int .i64 (ut n a o u)] w fun x w' => x = .returned (.tuple #[.slice none 0 0, .int .i64 2]) ∧ Below w.heap.size w w') := Lib.hid fun w A q => Even_range A h (by omega)
  obtain ⟨ad, cap, rfl, a1, a2, a3, a4⟩ := C
  obtain ⟨b, off, rfl, hbl, hK⟩ := a4 (by omega)
  have UU := Lib.hid (fun w A => UO.out w A u h0 h1)
  obtain ⟨t, ht⟩ : ∃ t, ut n a o u = t := ⟨_, rfl⟩
  rw [ht] at ST tb BK EK ER UU
  generalize evs n a o t n = L at *
  clear h a3 a4 hK ht
  unfold lv at *
  obtain ⟨dr, ds, D1, d1, d2, D2, D3, d3, d4⟩ := pick_d d
  generalize inl n a o u = I at *
  go_enter Try.func3, Try.ntmps3
  go_wp2_with fail
  refine (awake8_c _).mono ?_
  rintro x w1 ⟨rfl, hb⟩
  have q0 := hb.cell (p := ⟨w.heap.size, 0, none⟩) (by simp)
  have q1 := hb.cell (p := ⟨w.heap.size, 1, none⟩) (by simp)
  simp [go_sem] at q0 q1
  have z1 : w.heap.size < w1.heap.size := Nat.lt_of_lt_of_le (by simp) hb.size
  have B1 := Lib.hid (bstep (balloc (brefl w) _) hb)
  clear hb
  go_wp2_with fail
  (with_reducible refine (UU.out _ (A0.out.below B1.out)).mono ?_)
  rintro x w2 ⟨rfl, hb⟩
  have g0 := (hb.cell (p := ⟨w.heap.size, 0, none⟩) z1).trans q0
  have g1 := (hb.cell (p := ⟨w.heap.size, 1, none⟩) z1).trans q1
  have z2 : w.heap.size < w2.heap.size := Nat.lt_of_lt_of_le z1 hb.size
  have B2 := Lib.hid (bstep B1.out hb)
  clear hb q0 q1 UU
  by_cases t0 : t < 0
  · have f0 : decide (0 ≤ t) = false := decide_eq_false (by omega)
    have EE := Lib.hid (fun w A => ER.out w A t0)
    clear EK ER BK
    go_wp2_with fail
    (with_reducible refine (EE.out _ (A0.out.below B2.out)).mono ?_)
    rintro x w3 ⟨rfl, hb⟩
    have c0 := (hb.cell (p := ⟨w.heap.size, 0, none⟩) z2).trans g0
    have c1 := (hb.cell (p := ⟨w.heap.size, 1, none⟩) z2).trans g1
    have B3 := Lib.hid (bstep B2.out hb)
    clear hb g0 g1 EE
    by_cases cr : u + ds ≤ 288230376151711744
    · have UK := Lib.hid (fun w (A : Cs w (.slice (some ⟨b, off, none⟩) n cap) n a o) => UO.out w A _ (by omega) cr)
      have SD := Lib.hid (ST.out ds d3 d4)
      have sb := SB.out (u + ds)
      generalize ut n a o (u + ds) = s at *
      generalize inl n a o (u + ds) = mo at *
      go_wp2_with fail
      (with_reducible refine (UK.out _ (A0.out.below B3.out)).mono ?_)
      rintro x w9 ⟨rfl, hb⟩
      have B9 := Lib.hid (bstep B3.out hb)
      clear hb UK
      rcases SD.out with k | ⟨k, rfl, rfl⟩ | ⟨k, rfl⟩
      · have k1 : (s - t == ds) = true := by simp; omega
        clear SD k
        go_wp2_with fail
        go_ret
        exact ⟨rfl, B9.out⟩
      · have k1 : (s - t == ds) = false := by simp; omega
        have k2 : (s - t == ds - 1048576) = true := by simp; omega
        clear SD k
        go_wp2_with fail
        go_ret
        exact ⟨rfl, B9.out⟩
      · have k1 : (s - t == ds) = false := by simp; omega
        have k2 : (s - t == ds - 1048576) = false := by simp; omega
        have k3 : (s - t == ds + 1048576) = true := by simp; omega
        clear SD k
        go_wp2_with fail
        go_ret
        exact ⟨rfl, B9.out⟩
    · have UK := Lib.hid (fun w (A : Cs w (.slice (some ⟨b, off, none⟩) n cap) n a o) => UR.out w A _ (fun q => cr q.2))
      go_wp2_with fail
      (with_reducible refine (UK.out _ (A0.out.below B3.out)).mono ?_)
      rintro x w9 ⟨rfl, hb⟩
      have B9 := Lib.hid (bstep B3.out hb)
      clear hb UK
      go_wp2_with fail
      go_ret
      exact ⟨rfl, B9.out⟩
  · have f0 : decide (0 ≤ t) = true := decide_eq_true (by omega)
    have EE := Lib.hid (fun w A => EK.out w A (by omega))
    have BKK := Lib.hid (BK.out (by omega))
    clear EK ER BK
    go_wp2_with fail
    (with_reducible refine (EE.out _ (A0.out.below B2.out)).mono ?_)
    rintro x w3 ⟨⟨tv, rfl, ot⟩, hb⟩
    have c0 := (hb.cell (p := ⟨w.heap.size, 0, none⟩) z2).trans g0
    have c1 := (hb.cell (p := ⟨w.heap.size, 1, none⟩) z2).trans g1
    have z3 : w.heap.size < w3.heap.size := Nat.lt_of_lt_of_le z2 hb.size
    have B3 := Lib.hid (bstep B2.out hb)
    obtain ⟨ad, bc, rfl, m1, m2, m3⟩ := ot.ts
    have Lp : 0 < L.length := List.length_pos_of_mem BKK.out.has
    have Ln := BKK.out.len
    obtain ⟨bb, ob, rfl, hbb, hL⟩ := m3 Lp
    have HL := Lib.hid hL
    have C0 := Lib.hid c0
    have C1 := Lib.hid c1
    clear hb g0 g1 EE ot m3 hL
    go_wp2_with fail
    clear c0 c1
    go_loopw [12, 13] (fun hv iv wr => ∃ k : Nat, k ≤ L.length ∧ iv = .int .i64 k ∧ hv = .bool (decide (u ∈ L.take k)) ∧ Below w3.heap.size w3 wr) (fun _ iv _ => L.length - (intOf iv).toNat)
    case atStart => exact ⟨0, Nat.zero_le _, rfl, rfl, brefl w3⟩
    case round =>
      obtain ⟨k, hk, rfl, rfl, hb⟩ := hrel
      rename World => wr
      have c0 := (hb.cell (p := ⟨w.heap.size, 0, none⟩) z3).trans C0.out
      have c1 := (hb.cell (p := ⟨w.heap.size, 1, none⟩) z3).trans C1.out
      have zr : w.heap.size < wr.heap.size := Nat.lt_of_lt_of_le z3 hb.size
      have zz : bb < wr.heap.size := Nat.lt_of_lt_of_le hbb hb.size
      have BR := Lib.hid hb
      have BW := Lib.hid (bstep B3.out hb)
      clear hb
      by_cases c : k < L.length
      · have f1 : decide ((k : Int) < (L.length : Int)) = true := by rw [decide_eq_true_iff]; omega
        obtain ⟨x, gx⟩ : ∃ x, L[k]? = some x := ⟨_, List.getElem?_eq_getElem c⟩
        obtain ⟨ux, x0, x1⟩ := BKK.out.at_ k x gx
        have UX0 := fun w (A : Cs w (.slice (some ⟨b, off, none⟩) n cap) n a o) => UO.out w A x x0 x1
        rw [ux] at UX0
        have UX : Hid (∀ w', Below wr.heap.size wr w' → _) := Lib.hid (fun w' q => UX0 w' (A0.out.below (bstep BW.out q)))
        clear UX0 ux
        generalize inl n a o x = ix at UX
        have cx1 := (BR.out.cell (p := ⟨bb, _, none⟩) hbb).trans (HL.out k x gx)
        by_cases k0 : k = 0
        · subst k0
          have ch : decide (u ∈ L.take 0) = false := by simp
          simp only [Nat.add_zero] at cx1
          have KP : Hid (∀ w', Below wr.heap.size wr w' → w'.cell? ⟨w.heap.size, 0, none⟩ = some (.slice (some ⟨b, off, none⟩) n cap) ∧ w'.cell? ⟨w.heap.size, 1, none⟩ = some (.int .i64 e) ∧ w'.cell? ⟨bb, ob, none⟩ = some (.int .i64 x)) := Lib.hid fun w' q => ⟨(q.cell (p := ⟨w.heap.size, 0, none⟩) zr).trans c0, (q.cell (p := ⟨w.heap.size, 1, none⟩) zr).trans c1, (q.cell (p := ⟨bb, _, none⟩) zz).trans cx1⟩
          by_cases cx : x = u
          · have e2 : (x == u) = true := by simp [cx]
            have HN : Hid (decide (u ∈ L.take (0 + 1)) = true) := Lib.hid (by rw [mem_take gx, decide_eq_true cx, Bool.or_true])
            clear cx

            rw [ch]
            clear ch gx
            go_wp2_with fail
            have hb0 : Below wr.heap.size wr wr.drew := (brefl wr).drew
            go_region_held3 (fun w' => w'.cell? ⟨w.heap.size, 0, none⟩ = some (.slice (some ⟨b, off, none⟩) n cap) ∧ w'.cell? ⟨w.heap.size, 1, none⟩ = some (.int .i64 e) ∧ w'.cell? ⟨bb, ob , none⟩ = some (.int .i64 x))
              (first | exact KP.out _ (by assumption))
              (first | (go_at_call 6; (with_reducible refine (UX.out _ (by assumption)).mono ?_); rintro e w' ⟨rfl, hb⟩; replace hb := bstep (w := wr) (by assumption) hb))
            all_goals
              rename Below wr.heap.size wr _ => hb
              rename World => w6
              have BZ := Lib.hid (bstep BR.out hb)
              have r1 := (hb.cell (p := ⟨bb, ob , none⟩) zz).trans cx1
              clear hb KP UX
              go_wp2_with fail
              go_quiet (fail)
              go_wp2_with fail
              go_roundw
            case rel => exact ⟨0 + 1, by omega, by go_num, by rw [HN.out], bdrew BZ.out _⟩
            case measure => simp [intOf]; omega
          · have e2 : (x == u) = false := by simp [cx]
            have HN : Hid (decide (u ∈ L.take (0 + 1)) = false) := Lib.hid (by rw [mem_take gx, decide_eq_false cx, Bool.or_false, ch])
            clear cx

            rw [ch]
            clear ch gx
            go_wp2_with fail
            have hb0 : Below wr.heap.size wr wr.drew := (brefl wr).drew
            go_region_held3 (fun w' => w'.cell? ⟨w.heap.size, 0, none⟩ = some (.slice (some ⟨b, off, none⟩) n cap) ∧ w'.cell? ⟨w.heap.size, 1, none⟩ = some (.int .i64 e) ∧ w'.cell? ⟨bb, ob , none⟩ = some (.int .i64 x))
              (first | exact KP.out _ (by assumption))
              (first | (go_at_call 6; (with_reducible refine (UX.out _ (by assumption)).mono ?_); rintro e w' ⟨rfl, hb⟩; replace hb := bstep (w := wr) (by assumption) hb))
            all_goals
              rename Below wr.heap.size wr _ => hb
              rename World => w6
              have BZ := Lib.hid (bstep BR.out hb)
              have r1 := (hb.cell (p := ⟨bb, ob , none⟩) zz).trans cx1
              clear hb KP UX
              go_wp2_with fail
              go_quiet (fail)
              go_wp2_with fail
              go_roundw
            case rel => exact ⟨0 + 1, by omega, by go_num, by rw [HN.out], bdrew BZ.out _⟩
            case measure => simp [intOf]; omega
        · obtain ⟨j, rfl⟩ : ∃ j, k = j + 1 := ⟨k - 1, by omega⟩
          obtain ⟨y, gy⟩ : ∃ y, L[j]? = some y := ⟨_, List.getElem?_eq_getElem (by omega)⟩
          have yx := BKK.out.up j y x gy gx
          have e3 : decide (x ≤ y) = false := decide_eq_false (by omega)
          have cx0 := (BR.out.cell (p := ⟨bb, _, none⟩) hbb).trans (HL.out j y gy)
          have j0 : (0 : Int) ≤ (j : Int) := by omega
          have j1 : (j : Int) < (L.length : Int) := by omega
          have j2 : (j : Int) + 1 < (L.length : Int) := by omega
          have j3 : (0 : Int) ≤ (j : Int) + 1 := by omega
          have j4 : ((j : Int) + 1).toNat = j + 1 := by omega
          have j5 : IntKind.i64.wrap (j : Int) = (j : Int) := IntWalk.i64_in _ (by omega)
          have j6 : decide (0 < (j : Int) + 1) = true := decide_eq_true (by omega)
          clear gy yx
          have KP : Hid (∀ w', Below wr.heap.size wr w' → w'.cell? ⟨w.heap.size, 0, none⟩ = some (.slice (some ⟨b, off, none⟩) n cap) ∧ w'.cell? ⟨w.heap.size, 1, none⟩ = some (.int .i64 e) ∧ w'.cell? ⟨bb, ob + (j + 1), none⟩ = some (.int .i64 x)) := Lib.hid fun w' q => ⟨(q.cell (p := ⟨w.heap.size, 0, none⟩) zr).trans c0, (q.cell (p := ⟨w.heap.size, 1, none⟩) zr).trans c1, (q.cell (p := ⟨bb, _, none⟩) zz).trans cx1⟩
          by_cases ch : decide (u ∈ L.take (j + 1)) = true
          · have HN : Hid (decide (u ∈ L.take ((j + 1) + 1)) = true) := Lib.hid (by rw [mem_take gx, ch]; rfl)

            rw [ch]
            clear ch gx
            go_wp2_with fail
            have hb0 : Below wr.heap.size wr wr.drew := (brefl wr).drew
            go_region_held3 (fun w' => w'.cell? ⟨w.heap.size, 0, none⟩ = some (.slice (some ⟨b, off, none⟩) n cap) ∧ w'.cell? ⟨w.heap.size, 1, none⟩ = some (.int .i64 e) ∧ w'.cell? ⟨bb, ob + (j + 1), none⟩ = some (.int .i64 x))
              (first | exact KP.out _ (by assumption))
              (first | (go_at_call 6; (with_reducible refine (UX.out _ (by assumption)).mono ?_); rintro e w' ⟨rfl, hb⟩; replace hb := bstep (w := wr) (by assumption) hb))
            all_goals
              rename Below wr.heap.size wr _ => hb
              rename World => w6
              have BZ := Lib.hid (bstep BR.out hb)
              have r1 := (hb.cell (p := ⟨bb, ob + (j + 1), none⟩) zz).trans cx1
              have r0 := (hb.cell (p := ⟨bb, ob + j, none⟩) zz).trans cx0
              clear hb KP UX
              go_wp2_with fail
              go_quiet (fail)
              go_wp2_with fail
              go_roundw
            case rel => exact ⟨(j + 1) + 1, by omega, by go_num, by rw [HN.out], bdrew BZ.out _⟩
            case measure => simp [intOf]; omega
          · replace ch := eq_false_of_ne_true ch
            by_cases cx : x = u
            · have e2 : (x == u) = true := by simp [cx]
              have HN : Hid (decide (u ∈ L.take ((j + 1) + 1)) = true) := Lib.hid (by rw [mem_take gx, decide_eq_true cx, Bool.or_true])
              clear cx

              rw [ch]
              clear ch gx
              go_wp2_with fail
              have hb0 : Below wr.heap.size wr wr.drew := (brefl wr).drew
              go_region_held3 (fun w' => w'.cell? ⟨w.heap.size, 0, none⟩ = some (.slice (some ⟨b, off, none⟩) n cap) ∧ w'.cell? ⟨w.heap.size, 1, none⟩ = some (.int .i64 e) ∧ w'.cell? ⟨bb, ob + (j + 1), none⟩ = some (.int .i64 x))
                (first | exact KP.out _ (by assumption))
                (first | (go_at_call 6; (with_reducible refine (UX.out _ (by assumption)).mono ?_); rintro e w' ⟨rfl, hb⟩; replace hb := bstep (w := wr) (by assumption) hb))
              all_goals
                rename Below wr.heap.size wr _ => hb
                rename World => w6
                have BZ := Lib.hid (bstep BR.out hb)
                have r1 := (hb.cell (p := ⟨bb, ob + (j + 1), none⟩) zz).trans cx1
                have r0 := (hb.cell (p := ⟨bb, ob + j, none⟩) zz).trans cx0
                clear hb KP UX
                go_wp2_with fail
                go_quiet (fail)
                go_wp2_with fail
                go_roundw
              case rel => exact ⟨(j + 1) + 1, by omega, by go_num, by rw [HN.out], bdrew BZ.out _⟩
              case measure => simp [intOf]; omega
            · have e2 : (x == u) = false := by simp [cx]
              have HN : Hid (decide (u ∈ L.take ((j + 1) + 1)) = false) := Lib.hid (by rw [mem_take gx, decide_eq_false cx, Bool.or_false, ch])
              clear cx

              rw [ch]
              clear ch gx
              go_wp2_with fail
              have hb0 : Below wr.heap.size wr wr.drew := (brefl wr).drew
              go_region_held3 (fun w' => w'.cell? ⟨w.heap.size, 0, none⟩ = some (.slice (some ⟨b, off, none⟩) n cap) ∧ w'.cell? ⟨w.heap.size, 1, none⟩ = some (.int .i64 e) ∧ w'.cell? ⟨bb, ob + (j + 1), none⟩ = some (.int .i64 x))
                (first | exact KP.out _ (by assumption))
                (first | (go_at_call 6; (with_reducible refine (UX.out _ (by assumption)).mono ?_); rintro e w' ⟨rfl, hb⟩; replace hb := bstep (w := wr) (by assumption) hb))
              all_goals
                rename Below wr.heap.size wr _ => hb
                rename World => w6
                have BZ := Lib.hid (bstep BR.out hb)
                have r1 := (hb.cell (p := ⟨bb, ob + (j + 1), none⟩) zz).trans cx1
                have r0 := (hb.cell (p := ⟨bb, ob + j, none⟩) zz).trans cx0
                clear hb KP UX
                go_wp2_with fail
                go_quiet (fail)
                go_wp2_with fail
                go_roundw
              case rel => exact ⟨(j + 1) + 1, by omega, by go_num, by rw [HN.out], bdrew BZ.out _⟩
              case measure => simp [intOf]; omega
      · have f1 : decide ((k : Int) < (L.length : Int)) = false := by rw [decide_eq_false_iff_not]; omega
        have ch : decide (u ∈ L.take k) = true := by rw [List.take_of_length_le (by omega)]; exact decide_eq_true BKK.out.has
        rw [ch]
        clear ch
        by_cases cl : L.length ≤ 2
        · have e4 : decide (2 < (L.length : Int)) = false := decide_eq_false (by omega)
          have e5 : decide (2 < L.length) = false := decide_eq_false (by omega)
          by_cases cr : u + ds ≤ 288230376151711744
          · have UK := Lib.hid (fun w (A : Cs w (.slice (some ⟨b, off, none⟩) n cap) n a o) => UO.out w A _ (by omega) cr)
            have SD := Lib.hid (ST.out ds d3 d4)
            have sb := SB.out (u + ds)
            generalize ut n a o (u + ds) = s at *
            generalize inl n a o (u + ds) = mo at *
            go_wp2_with fail
            (with_reducible refine (UK.out _ (A0.out.below BW.out)).mono ?_)
            rintro x w9 ⟨rfl, hb⟩
            have B9 := Lib.hid (bstep BW.out hb)
            clear hb UK
            rcases SD.out with k | ⟨k, rfl, rfl⟩ | ⟨k, rfl⟩
            · have k1 : (s - t == ds) = true := by simp; omega
              clear SD k
              go_wp2_with fail
              go_ret
              exact ⟨rfl, B9.out⟩
            · have k1 : (s - t == ds) = false := by simp; omega
              have k2 : (s - t == ds - 1048576) = true := by simp; omega
              clear SD k
              go_wp2_with fail
              go_ret
              exact ⟨rfl, B9.out⟩
            · have k1 : (s - t == ds) = false := by simp; omega
              have k2 : (s - t == ds - 1048576) = false := by simp; omega
              have k3 : (s - t == ds + 1048576) = true := by simp; omega
              clear SD k
              go_wp2_with fail
              go_ret
              exact ⟨rfl, B9.out⟩
          · have UK := Lib.hid (fun w (A : Cs w (.slice (some ⟨b, off, none⟩) n cap) n a o) => UR.out w A _ (fun q => cr q.2))
            go_wp2_with fail
            (with_reducible refine (UK.out _ (A0.out.below BW.out)).mono ?_)
            rintro x w9 ⟨rfl, hb⟩
            have B9 := Lib.hid (bstep BW.out hb)
            clear hb UK
            go_wp2_with fail
            go_ret
            exact ⟨rfl, B9.out⟩
        · have e4 : decide (2 < (L.length : Int)) = true := decide_eq_true (by omega)
          have e5 : decide (2 < L.length) = true := decide_eq_true (by omega)
          have n3 : ¬ n < 3 := fun q => cl (BKK.out.few q)
          have e6 : decide ((n : Int) < 3) = false := decide_eq_false (by omega)
          have e7 : decide (n < 3) = false := decide_eq_false (by omega)
          by_cases cr : u + ds ≤ 288230376151711744
          · have UK := Lib.hid (fun w (A : Cs w (.slice (some ⟨b, off, none⟩) n cap) n a o) => UO.out w A _ (by omega) cr)
            have SD := Lib.hid (ST.out ds d3 d4)
            have sb := SB.out (u + ds)
            generalize ut n a o (u + ds) = s at *
            generalize inl n a o (u + ds) = mo at *
            go_wp2_with fail
            (with_reducible refine (UK.out _ (A0.out.below BW.out)).mono ?_)
            rintro x w9 ⟨rfl, hb⟩
            have B9 := Lib.hid (bstep BW.out hb)
            clear hb UK
            rcases SD.out with k | ⟨k, rfl, rfl⟩ | ⟨k, rfl⟩
            · have k1 : (s - t == ds) = true := by simp; omega
              clear SD k
              go_wp2_with fail
              go_ret
              exact ⟨rfl, B9.out⟩
            · have k1 : (s - t == ds) = false := by simp; omega
              have k2 : (s - t == ds - 1048576) = true := by simp; omega
              clear SD k
              go_wp2_with fail
              go_ret
              exact ⟨rfl, B9.out⟩
            · have k1 : (s - t == ds) = false := by simp; omega
              have k2 : (s - t == ds - 1048576) = false := by simp; omega
              have k3 : (s - t == ds + 1048576) = true := by simp; omega
              clear SD k
              go_wp2_with fail
              go_ret
              exact ⟨rfl, B9.out⟩
          · have UK := Lib.hid (fun w (A : Cs w (.slice (some ⟨b, off, none⟩) n cap) n a o) => UR.out w A _ (fun q => cr q.2))
            go_wp2_with fail
            (with_reducible refine (UK.out _ (A0.out.below BW.out)).mono ?_)
            rintro x w9 ⟨rfl, hb⟩
            have B9 := Lib.hid (bstep BW.out hb)
            clear hb UK
            go_wp2_with fail
            go_ret
            exact ⟨rfl, B9.out⟩

theorem walk (vs : Value) (e : Int) (n : Nat) (a o : Nat → Int) (u d : Int) (we : I64 e) (wu : (Lit.int .i64 u).wf = true) (wd : (Lit.int .i64 d).wf = true) (w : World) (C : Cs w vs n a o) :
    Calls Try.prog 3 #[lv vs e, .int .i64 u, .int .i64 d] w fun x w' => x = .returned (.bool true) ∧ Below w.heap.size w w' := by
  by_cases h : Tb n a o e
  · by_cases k : 0 ≤ u ∧ u ≤ 288230376151711744
    · exact walk_yes vs e n a o u d w C h k.1 k.2
    · exact walk_range vs e n a o u d w C h k
  · exact walk_shape vs e n a o u d w C h

set_option maxRecDepth 100000 in
theorem lifted (os : Os) (started : os.Started) (H : Type) (enc : TypeId × Value → H) :
    ReturnsInHanded {} Try.checked os 3 .any (Rows.leapRoundSpec.pre6 enc Try.prog Try.f3 Rows.leapRoundRow.domain false) (Rows.leapRoundSpec.post enc Try.prog Try.f3 false true false false) := by
  refine returnsInHanded_of_change (C := Try.checked) own started (by kernel_rfl) Try.func3
    (ChangeSpec.witness6 (enc := enc) (C := Try.checked) false ⟨#[], #[.agg #[.slice none 0 0, .int .i64 0], .int .i64 0, .int .i64 0], []⟩ 8 (by kernel_rfl) (by kernel_rfl) (by kernel_rfl) (by kernel_rfl)) ?_
  intro W base args ds gs before hval0 hW hcnd _
  have hval : ∀ (j : Nat) t v, Try.f3.params[j]? = some t → args[j]? = some v → Value.okWide Try.prog W .any base t v := hval0
  have hW' := hW
  obtain ⟨p, q, hA0, hV, rfl, hfz, hnd⟩ := hW
  have hA : DataW.TrodAll enc Try.prog W 0 (fun _ => true) true Try.f3.params.toList args.toList ds p := hA0
  rw [Try.params3] at hA hval
  obtain ⟨v0, vs0, d0, ds0, p0, q0, hargs, rfl, rfl, h0, r0⟩ := trodAll_cons hA
  obtain ⟨v1, vs1, d1, ds1, p1, q1, rfl, rfl, rfl, h1, r1⟩ := trodAll_cons r0
  obtain ⟨v2, vs2, d2, ds2, p2, q2, rfl, rfl, rfl, h2, r2⟩ := trodAll_cons r1
  obtain ⟨rfl, rfl, rfl⟩ := trodAll_nil r2
  obtain rfl : args = #[v0, v1, v2] := by cases args; simp_all
  obtain ⟨rfl, rfl⟩ := trodVars_none hV
  have h0k := h0
  have hlt0 : ∀ x ∈ p0, x.block < W.heap.size := fun x hx => by have := hW'.lt x (by simp [hx]); simpa using this
  obtain ⟨vs0', e0, n0, x0, y0, rfl, g0, i0⟩ := open_leaps (hval 0 25 v0 rfl rfl) h0
  obtain ⟨a1, rfl, rfl, rfl, w1⟩ := open_int Try.underlying23 (hval 1 23 v1 rfl rfl) h1
  obtain ⟨a2, rfl, rfl, rfl, w2⟩ := open_int Try.underlying23 (hval 2 23 v2 rfl rfl) h2
  clear hA0 hval0
  simp only [List.append_nil] at hW'
  refine (walk vs0' e0 n0 x0 y0 a1 a2 i0 w1 w2 W g0).mono fun e W' ⟨he, hg⟩ => ?_
  subst he
  exact ⟨_, rfl, _, _, _, [], _, [], hW', trodAll_cons_mk (shut_bool Try.underlying4 _) trodAll_mk0,
    (trodAll_cons_mk (Below.trod laidOut (by kernel_rfl) (of_decide_eq_true (by kernel_rfl)) h0k hg hlt0) (trodAll_cons_mk (shut_int Try.underlying23 w1) (trodAll_cons_mk (shut_int Try.underlying23 w2) trodAll_mk0))), rfl, hg.frame _, fun h => nomatch h⟩

theorem over : Rows.leapRoundRow.holds Try.pinned (OpenSpec.ofChange Rows.leapRoundSpec) :=
  OpenClaim.holds_of_wide 3 Try.f3 rfl rfl rfl rfl rfl rfl rfl ⟨rfl, rfl, rfl, rfl, rfl⟩ rfl rfl rfl rfl rfl (by kernel_rfl) Try.func3 (by kernel_rfl)
    (of_decide_eq_true (by kernel_rfl)) (by unfold Func.isWrapper; first | (rw [if_pos (by decide +kernel)]; kernel_rfl) | (rw [if_neg (by decide +kernel)]; exact ⟨rfl, rfl⟩))
    (fun os started H enc _ => lifted os started H enc)

theorem proved : Rows.LeapRoundSaid :=
  over
end Go.Proofs.Ytmehknhajoemgaa.leapRound
