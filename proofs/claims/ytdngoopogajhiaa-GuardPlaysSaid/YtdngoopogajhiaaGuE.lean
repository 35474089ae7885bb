/-
  What the program's guard is to do (a premise of the texts that follow, paid by the program's own text); sundiallaw18.awake.
  Conditions: that premise.
-/
import Derived.Test.YtdngoopogajhiaaGuA
namespace Go.Proofs.Ytdngoopogajhiaa.Gu
open Go.RowKit Go.ChangeShapes Go.WideShapes Go.ChangeAt Go.Joins Fl
set_option linter.unusedVariables false
set_option linter.unusedSimpArgs false

/-- what List answers: a row of the call's own, or none. -/
def Rw (w w' : World) (v : Value) (L : List Ho) : Prop := Gn.Ss hvs 4 w' v L ∧ (0 < L.length → Gn.Own 55 hvs 4 w' w.heap.size v L)
/-- K w a X G: at a lies the program's guard, which is G; X: the blocks that are its own. -/
structure PC (K : World → Addr → (Nat → Prop) → Gd → Prop) : Prop where
  keep : ∀ (w w' : World) (a : Addr) (X Y : Nat → Prop) (G : Gd), K w a X G → Tu Y w w' → (∀ i, X i → ¬ Y i) → K w' a X G
  size : ∀ (w : World) (a : Addr) (X : Nat → Prop) (G : Gd), K w a X G → ∀ i, X i → i < w.heap.size
  new : ∀ (w : World) (v : Value) (R : List Ru), Gn.Ss rvs 3 w v R → (∀ r ∈ R, uR r) → okS R → Calls Try.prog 9 #[v] w fun e w' => (∃ a X, e = .returned (.tuple #[.pointer (some a), .int .i64 0]) ∧ K w' a X (newG R) ∧ ∀ i, X i → w.heap.size ≤ i) ∧ Below w.heap.size w w'
  bad : ∀ (w : World) (v : Value) (R : List Ru), Gn.Ss rvs 3 w v R → (∀ r ∈ R, uR r) → ¬ okS R → Calls Try.prog 9 #[v] w fun e w' => e = .returned (.tuple #[.pointer none, .int .i64 3]) ∧ Below w.heap.size w w'
  flags : ∀ (w : World) (a : Addr) (X : Nat → Prop) (G : Gd) (k : Nat) (ad : Int), K w a X G → In k G → (0 ≤ ad ∧ ad ≤ 4294967295) → Calls Try.prog 13 #[.pointer (some a), .int .u32 ad] w fun e w' => e = .returned (.tuple #[.int .i64 (flg ad G.rules), .int .i64 0]) ∧ Below w.heap.size w w'
  ask : ∀ (w : World) (a : Addr) (X : Nat → Prop) (G : Gd) (k : Nat) (ad m r : Int), K w a X G → k ≤ 10000 → In k G → (0 ≤ ad ∧ ad ≤ 4294967295) → (-9223372036854775808 ≤ m ∧ m ≤ 9223372036854775807) → (-9223372036854775808 ≤ r ∧ r ≤ 9223372036854775807) →
    Calls Try.prog 11 #[.pointer (some a), .int .u32 ad, .int .i64 m, .int .i64 r] w fun e w' => (e = .returned (.tuple #[.int .i64 (askV G ad m r), .int .i64 (askX G m r)]) ∧ ∃ X', K w' a X' (askG G ad m r) ∧ ∀ i, X' i → X i ∨ w.heap.size ≤ i) ∧ Tu X w w'
  list : ∀ (w : World) (a : Addr) (X : Nat → Prop) (G : Gd) (k : Nat), K w a X G → In k G → Calls Try.prog 14 #[.pointer (some a)] w fun e w' => (∃ v, e = .returned v ∧ Rw w w' v G.hosts) ∧ Below w.heap.size w w'
  nflags : ∀ (w : World) (ad : Int), (0 ≤ ad ∧ ad ≤ 4294967295) → Calls Try.prog 13 #[.pointer none, .int .u32 ad] w fun e w' => e = .returned (.tuple #[.int .i64 0, .int .i64 1]) ∧ Below w.heap.size w w'
  nask : ∀ (w : World) (ad m r : Int), (0 ≤ ad ∧ ad ≤ 4294967295) → (-9223372036854775808 ≤ m ∧ m ≤ 9223372036854775807) → (-9223372036854775808 ≤ r ∧ r ≤ 9223372036854775807) → Calls Try.prog 11 #[.pointer none, .int .u32 ad, .int .i64 m, .int .i64 r] w fun e w' => e = .returned (.tuple #[.int .i64 0, .int .i64 1]) ∧ Below w.heap.size w w'
  nlist : ∀ (w : World), Calls Try.prog 14 #[.pointer none] w fun e w' => (∃ a c, e = .returned (.slice a 0 c)) ∧ Below w.heap.size w w'
/-- k packets, each the same. -/
def it (G : Gd) (a m r : Int) : Nat → Gd
  | 0 => G
  | k + 1 => askG (it G a m r k) a m r
theorem it_in {G : Gd} (h : In 0 G) {a : Int} (ha : 0 ≤ a ∧ a ≤ 4294967295) (m r : Int) : ∀ k, In k (it G a m r k)
  | 0 => h
  | k + 1 => (it_in h ha m r k).ask ha m r
def R0 : List Ru := [⟨0, 0, 96⟩, ⟨167772160, 4278190080, 2⟩]
theorem r0_u : ∀ r ∈ R0, uR r := by
  intro r hr
  simp only [R0, List.mem_cons, List.not_mem_nil, or_false] at hr
  rcases hr with rfl | rfl <;> (unfold uR; decide)
theorem r0_ok : okS R0 := by decide
theorem r0_flg : flg 167772161 R0 = 2 := by decide
theorem r0_v : askV (it (newG R0) 1 3 0 4) 1 3 0 = 3 := by decide
theorem r0_l : (it (newG R0) 1 3 0 5).hosts.length = 1 := by decide
theorem own2 (w : World) (x y : Ru) : Gn.Own 36 rvs 3 (w.alloc (.cells #[.int .u32 x.addr, .int .u32 x.mask, .int .i64 x.flags, .int .u32 y.addr, .int .u32 y.mask, .int .i64 y.flags] 36)) w.heap.size (.slice (some ⟨w.heap.size, 0, none⟩) 2 2) [x, y] :=
  ⟨rfl, .inr ⟨w.heap.size, 2, #[.int .u32 x.addr, .int .u32 x.mask, .int .i64 x.flags, .int .u32 y.addr, .int .u32 y.mask, .int .i64 y.flags], rfl, Nat.le_refl _, by show (w.heap.push _)[w.heap.size]? = _; simp, Nat.le_refl _, by decide, rfl, rfl⟩⟩
theorem own1r (w : World) (x : Ru) : Gn.Own 36 rvs 3 (w.alloc (.cells #[.int .u32 x.addr, .int .u32 x.mask, .int .i64 x.flags] 36)) w.heap.size (.slice (some ⟨w.heap.size, 0, none⟩) 1 1) [x] :=
  ⟨rfl, .inr ⟨w.heap.size, 1, #[.int .u32 x.addr, .int .u32 x.mask, .int .i64 x.flags], rfl, Nat.le_refl _, by show (w.heap.push _)[w.heap.size]? = _; simp, Nat.le_refl _, by decide, rfl, rfl⟩⟩
set_option maxRecDepth 100000 in
set_option maxHeartbeats 4000000 in
theorem awake18_c {K : World → Addr → (Nat → Prop) → Gd → Prop} (pc : PC K) (w : World) : Calls Try.prog 7 #[] w fun e w' => e = .returned (.bool true) ∧ Below w.heap.size w w' := by
  have hb0 := balloc (brefl w) (.cells #[.int .u32 0, .int .u32 0, .int .i64 96, .int .u32 167772160, .int .u32 4278190080, .int .i64 2] 36)
  have B0 := Lib.hid hb0
  have I0 := Lib.hid (new_in r0_u r0_ok)
  have PN : Hid (Calls Try.prog 9 #[.slice (some ⟨w.heap.size, 0, none⟩) 2 2] (w.alloc (.cells #[.int .u32 0, .int .u32 0, .int .i64 96, .int .u32 167772160, .int .u32 4278190080, .int .i64 2] 36)) fun e w' => ∃ a X, e = .returned (.tuple #[.pointer (some a), .int .i64 0]) ∧ K w' a X (newG R0) ∧ (∀ i, X i → w.heap.size ≤ i) ∧ Below w.heap.size w w') := Lib.hid ((pc.new (w.alloc (.cells #[.int .u32 0, .int .u32 0, .int .i64 96, .int .u32 167772160, .int .u32 4278190080, .int .i64 2] 36)) _ R0 ((own2 w ⟨0, 0, 96⟩ ⟨167772160, 4278190080, 2⟩).ss okr) r0_u r0_ok).mono fun e w' ⟨⟨a, X, p1, p2, p3⟩, p4⟩ => ⟨a, X, p1, p2, fun i hi => Nat.le_trans hb0.size (p3 i hi), bstep hb0 p4⟩)
  have PF : Hid (∀ W a X, K W a X (newG R0) → Calls Try.prog 13 #[.pointer (some a), .int .u32 167772161] W fun e w' => e = .returned (.tuple #[.int .i64 2, .int .i64 0]) ∧ K w' a X (newG R0) ∧ Below W.heap.size W w') := Lib.hid (fun W a X h => (pc.flags W a X _ 0 167772161 h I0.out (by decide)).mono fun e w' ⟨p1, p2⟩ => ⟨by rw [p1, show (newG R0).rules = R0 from rfl, r0_flg], pc.keep _ _ _ _ _ _ h (tu_below (X := fun _ => False) p2) (fun _ _ z => z), p2⟩)
  have PA : Hid (∀ W a X k, k ≤ 5 → K W a X (it (newG R0) 1 3 0 k) → Calls Try.prog 11 #[.pointer (some a), .int .u32 1, .int .i64 3, .int .i64 0] W fun e w' => ∃ z X', e = .returned (.tuple #[.int .i64 (askV (it (newG R0) 1 3 0 k) 1 3 0), .int .i64 z]) ∧ K w' a X' (it (newG R0) 1 3 0 (k + 1)) ∧ (∀ i, X' i → X i ∨ W.heap.size ≤ i) ∧ Tu X W w') := Lib.hid (fun W a X k hk h => (pc.ask W a X _ k 1 3 0 h (by omega) (it_in I0.out (by decide) 3 0 k) (by decide) (by decide) (by decide)).mono fun e w' ⟨⟨p1, X', p2, p3⟩, p4⟩ => ⟨_, X', p1, p2, p3, p4⟩)
  have PL : Hid (∀ W a X, K W a X (it (newG R0) 1 3 0 5) → Calls Try.prog 14 #[.pointer (some a)] W fun e w' => (∃ la lc, e = .returned (.slice la 1 lc)) ∧ Below W.heap.size W w') := Lib.hid (fun W a X h => (pc.list W a X _ 5 h (it_in I0.out (by decide) 3 0 5)).mono fun e w' ⟨⟨v, p1, p2⟩, p3⟩ => ⟨by
    obtain ⟨la, lc, ev, _⟩ := p2.1
    rw [r0_l] at ev
    exact ⟨la, lc, by rw [p1, ev]⟩, p3⟩)
  have V4 := Lib.hid r0_v
  clear pc hb0 I0
  go_enter Try.func7, Try.ntmps7
  go_wp2_with fail
  refine PN.out.mono ?_
  rintro e w1 ⟨a, X, rfl, hk, hx, hb⟩
  have B1 := Lib.hid hb
  have K1 := Lib.hid hk
  have X1 := Lib.hid hx
  clear hb hk hx PN B0
  go_wp2_with fail
  refine (PF.out _ _ _ K1.out).mono ?_
  rintro e w2 ⟨rfl, hk, hb⟩
  have B2 := Lib.hid (bstep B1.out hb)
  have K2 : Hid (K w2 a X (it (newG R0) 1 3 0 0)) := Lib.hid hk
  clear hb hk PF B1 K1
  generalize newG R0 = G0 at *
  go_wp2_with fail
  go_loopw [5, 6] (fun vv iv wr => ∃ (k : Nat) (z : Int) (Y : Nat → Prop), k ≤ 5 ∧ iv = .int .i64 (k : Nat) ∧ vv = .int .i64 z ∧ (k = 5 → z = 3) ∧ K wr a Y (it G0 1 3 0 k) ∧ (∀ i, Y i → w.heap.size ≤ i) ∧ Below w.heap.size w wr) (fun _ iv _ => 5 - (intOf iv).toNat)
  case atStart => exact ⟨0, 0, X, by omega, rfl, rfl, fun h => absurd h (by omega), K2.out, X1.out, B2.out⟩
  case round =>
    obtain ⟨k, z, Y, hk, rfl, rfl, hz, hK, hY, hb⟩ := hrel
    rename World => wr
    have BR := Lib.hid hb
    have KR := Lib.hid hK
    have YR := Lib.hid hY
    have HZ := Lib.hid hz
    clear hb hK hY hz K2 B2 X1
    by_cases c : k < 5
    · have e1 : decide ((k : Int) < 5) = true := decide_eq_true (by omega)
      have e2 : decide (k < 5) = true := decide_eq_true c
      have wk : IntKind.i64.wrap ((k : Int) + 1) = (k : Int) + 1 := wrap_in (by omega) (by omega)
      go_wp2_with fail
      refine (PA.out _ _ _ k hk KR.out).mono ?_
      rintro e w3 ⟨x, X', rfl, hK, hX, hT⟩
      have B3 : Hid (Below w.heap.size w w3) := Lib.hid (BR.out.trans (hT.below YR.out BR.out.size))
      have K3 := Lib.hid hK
      have X3 : Hid (∀ i, X' i → w.heap.size ≤ i) := Lib.hid fun i hi => (hX i hi).elim (YR.out i) (fun q => Nat.le_trans BR.out.size q)
      have Z3 : Hid (k + 1 = 5 → askV (it G0 1 3 0 k) 1 3 0 = 3) := Lib.hid (fun q => by
        obtain rfl : k = 4 := by omega
        exact V4.out)
      clear hK hX hT PA KR BR YR V4
      generalize askV (it G0 1 3 0 k) 1 3 0 = vz at *
      go_wp2_with fail
      exact ⟨⟨k + 1, vz, X', by omega, by go_num, rfl, Z3.out, K3.out, X3.out, B3.out⟩, by simp [intOf]; omega⟩
    · have e1 : decide ((k : Int) < 5) = false := decide_eq_false (by omega)
      have e2 : decide (k < 5) = false := decide_eq_false c
      obtain rfl : k = 5 := by omega
      obtain rfl := HZ.out rfl
      clear PA V4 HZ
      go_wp2_with fail
      refine (PL.out _ _ _ KR.out).mono ?_
      rintro e w4 ⟨⟨la, lc, rfl⟩, hb⟩
      have B4 := Lib.hid (bstep BR.out hb)
      clear hb BR KR YR PL
      go_wp2_with fail
      go_ret
      exact ⟨rfl, B4.out⟩
end Go.Proofs.Ytdngoopogajhiaa.Gu
