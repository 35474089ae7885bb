/-
  Every number has its day; Day and Show say just that; a clockface and a string that come in, opened.
  Conditions: none.
-/
import Derived.Test.YtooinoccijfgiaaDoorCvW
import Derived.Test.YtooinoccijfgiaaDoorCvG
namespace Go.Proofs.YtooinoccijfgiaaDoor.Cv
open Go.ChangeShapes Go.WideShapes Go.ChangeAt Go.RowKit Go.Joins
set_option linter.unusedVariables false
set_option linter.unusedSimpArgs false

theorem next_a {n y m d : Int} (h : isDay n y m d) (c : d < len y m) : isDay (n + 1) y m (d + 1) := by
  obtain ⟨⟨h1, h2, h3, h4, h5, h6⟩, e⟩ := h
  exact ⟨⟨h1, h2, h3, h4, by omega, by omega⟩, by unfold num at *; omega⟩
theorem next_b {n y m d : Int} (h : isDay n y m d) (c : d = len y m) (hm : m ≠ 12) : isDay (n + 1) y (m + 1) 1 := by
  obtain ⟨⟨h1, h2, h3, h4, h5, h6⟩, e⟩ := h
  have := len_bd y (m + 1)
  refine ⟨⟨h1, h2, by omega, by omega, by omega, by omega⟩, ?_⟩
  obtain ⟨k, rfl⟩ : ∃ k : Nat, m = k + 1 := ⟨(m - 1).toNat, by omega⟩
  unfold num at *
  rw [show ((k : Int) + 1 + 1 - 1).toNat = k + 1 from by omega, ms_succ]
  rw [show ((k : Int) + 1 - 1).toNat = k from by omega] at e
  omega
theorem next_c {n y m d : Int} (h : isDay n y m d) (c : d = len y m) (hm : m = 12) (hn : n ≤ 2958462) : isDay (n + 1) (y + 1) 1 1 := by
  obtain ⟨⟨h1, h2, h3, h4, h5, h6⟩, e⟩ := h
  subst hm
  have e2 : n + 1 = ny (y + 1) := by
    rw [ny_succ, ← ms_twelve, show (12 : Nat) = 11 + 1 from rfl, ms_succ]
    unfold num at e
    rw [show ((12 : Int) - 1).toNat = 11 from rfl] at e
    rw [c] at e
    rw [← e]
    simp
    omega
  have y9 : y + 1 ≤ 9999 := year_in (n := n + 1) (by omega) (by omega)
  have l1 := len_bd (y + 1) 1
  exact ⟨⟨by omega, y9, by omega, by omega, by omega, by omega⟩, by unfold num; simp [ms]; omega⟩
theorem day_exN : ∀ n : Nat, n ≤ 2958463 → ∃ y m d, isDay n y m d
  | 0, _ => ⟨1900, 1, 1, by unfold isDay ok; decide⟩
  | n + 1, h => by
    obtain ⟨y, m, d, hd⟩ := day_exN n (by omega)
    have hl := hd.1.2.2.2.2.2
    by_cases c : d < len y m
    · exact ⟨_, _, _, by simpa using next_a hd c⟩
    · by_cases hm : m = 12
      · exact ⟨_, _, _, by simpa using next_c hd (by omega) hm (by omega)⟩
      · exact ⟨_, _, _, by simpa using next_b hd (by omega) hm⟩
theorem day_ex {n : Int} (h : 0 ≤ n) (h' : n ≤ 2958463) : ∃ y m d, isDay n y m d := by
  have := day_exN n.toNat (by omega)
  rwa [show ((n.toNat : Nat) : Int) = n from by omega] at this

theorem Day_is {n y m d : Int} (h : isDay n y m d) (w : World) :
    Calls Tryd.prog 11 #[.int .i64 n] w fun e w' => e = .returned (.tuple #[.agg #[.int .i64 y, .int .i64 m, .int .i64 d], .int .i64 0]) ∧ Below w.heap.size w w' := by
  have b := num_bd h.1
  rw [h.2] at b
  refine (Day_ok n w b.1 b.2).mono ?_
  rintro e w' ⟨⟨y', m', d', hd, rfl⟩, hb⟩
  obtain ⟨rfl, rfl, rfl⟩ := isDay_one h hd
  exact ⟨rfl, hb⟩

theorem Show_is {t y m d : Int} (h0 : 0 ≤ t) (h1 : t < 268027863603609600) (h : isDay (t / 1048576 / 86400) y m d) (w : World) :
    Calls Tryd.prog 23 #[.int .i64 t] w fun e w' => e = .returned (.tuple #[.agg #[.int .i64 y, .int .i64 m, .int .i64 d, .int .i64 (t / 1048576 % 86400 / 3600), .int .i64 (t / 1048576 % 86400 % 3600 / 60), .int .i64 (t / 1048576 % 86400 % 60), .int .i64 (t % 1048576)], .int .i64 0]) ∧ Below w.heap.size w w' := by
  refine (Show_ok t w h0 h1).mono ?_
  rintro e w' ⟨⟨y', m', d', hd, rfl⟩, hb⟩
  obtain ⟨rfl, rfl, rfl⟩ := isDay_one h hd
  exact ⟨rfl, hb⟩
theorem rShow_is {t y m d : Int} (h0 : 0 ≤ t) (h1 : t < 268027863603609600) (h : isDay (t / 1048576 / 86400) y m d) (w : World) :
    Calls Tryd.prog 24 #[.int .i64 t] w fun e w' => e = .returned (.tuple #[.agg #[.int .i64 y, .int .i64 m, .int .i64 d, .int .i64 (t / 1048576 % 86400 / 3600), .int .i64 (t / 1048576 % 86400 % 3600 / 60), .int .i64 (t / 1048576 % 86400 % 60), .int .i64 (t % 1048576)], .int .i64 0]) ∧ Below w.heap.size w w' := by
  refine (rShow_ok t w h0 h1).mono ?_
  rintro e w' ⟨⟨y', m', d', hd, rfl⟩, hb⟩
  obtain ⟨rfl, rfl, rfl⟩ := isDay_one h hd
  exact ⟨rfl, hb⟩

theorem list7 {α : Type} {l : List α} (h : l.length = 7) : ∃ a b c d e f g, l = [a, b, c, d, e, f, g] := by
  match l, h with
  | [a, b, c, d, e, f, g], _ => exact ⟨a, b, c, d, e, f, g, rfl⟩
theorem open_face {H : Type} {enc : TypeId × Value → H} {W : World} {base b0 : Nat} {sp : Nat → Bool} {held : Bool} {r : Reach} {v : Value} {d : DataW H} {p : List MemPlace}
    (hv : Value.okWide Tryd.prog W r b0 47 v) (h : DataW.Trod enc Tryd.prog W base sp held 47 v d p) :
    ∃ y m x H M S T : Int, v = .agg #[.int .i64 y, .int .i64 m, .int .i64 x, .int .i64 H, .int .i64 M, .int .i64 S, .int .i64 T] := by
  obtain ⟨cs, rfl, hsz⟩ := okWide_struct Tryd.underlying47 hv
  have hC : Tryd.prog.cellsOf 47 = 7 := by kernel_rfl
  have hD : Tryd.prog.cellsOf 23 = 3 := by kernel_rfl
  have hI : Tryd.prog.cellsOf 3 = 1 := by kernel_rfl
  obtain ⟨l⟩ := cs
  obtain ⟨c0, c1, c2, c3, c4, c5, c6, rfl⟩ := list7 (l := l) (by simpa using hsz.trans hC)
  obtain ⟨fuel, hf⟩ := h
  obtain ⟨xs, n, _, _, hl, hlen, hf⟩ := DataW.trod_struct Tryd.underlying47 hf
  match xs, hlen with
  | [x0, x1, x2, x3, x4], _ =>
    have g0 := hf 0 _ rfl
    have g1 := hf 1 _ rfl
    have g2 := hf 2 _ rfl
    have g3 := hf 3 _ rfl
    have g4 := hf 4 _ rfl
    simp [Value.cells, hI, hD] at g0 g1 g2 g3 g4
    obtain ⟨a3, e3, _, _⟩ := DataW.trod_int Tryd.underlying3 g1
    obtain ⟨a4, e4, _, _⟩ := DataW.trod_int Tryd.underlying3 g2
    obtain ⟨a5, e5, _, _⟩ := DataW.trod_int Tryd.underlying3 g3
    obtain ⟨a6, e6, _, _⟩ := DataW.trod_int Tryd.underlying3 g4
    obtain ⟨ys, k, _, _, _, hlen2, hf2⟩ := DataW.trod_struct Tryd.underlying23 g0
    match ys, hlen2 with
    | [y0, y1, y2], _ =>
      have k0 := hf2 0 _ rfl
      have k1 := hf2 1 _ rfl
      have k2 := hf2 2 _ rfl
      simp [hI] at k0 k1 k2
      obtain ⟨a0, e0, _, _⟩ := DataW.trod_int Tryd.underlying3 k0
      obtain ⟨a1, e1, _, _⟩ := DataW.trod_int Tryd.underlying3 k1
      obtain ⟨a2, e2, _, _⟩ := DataW.trod_int Tryd.underlying3 k2
      simp at e0 e1 e2 e3 e4 e5 e6
      subst e0 e1 e2 e3 e4 e5 e6
      exact ⟨a0, a1, a2, a3, a4, a5, a6, rfl⟩
end Go.Proofs.YtooinoccijfgiaaDoor.Cv
