/-
  SHA-256 in numbers; the contract of hash.sha256Block.
  Conditions: the tables read as the program's text lays them.
-/
import Derived.Test.YtenlbjnoiamfiaaDoorHsP
namespace Go.Proofs.YtenlbjnoiamfiaaDoor.Hs
open Go.RowKit
set_option linter.unusedVariables false
set_option linter.unusedSimpArgs false

structure S8 where
  a : Nat
  b : Nat
  c : Nat
  d : Nat
  e : Nat
  f : Nat
  g : Nat
  h : Nat
def bg0 (x : Nat) : Nat := ror x 2 ^^^ ror x 13 ^^^ ror x 22
def bg1 (x : Nat) : Nat := ror x 6 ^^^ ror x 11 ^^^ ror x 25
def chf (e f g : Nat) : Nat := (e &&& f) ^^^ ((4294967295 ^^^ e) &&& g)
def maj (a b c : Nat) : Nat := (a &&& b) ^^^ (a &&& c) ^^^ (b &&& c)
theorem bg0_lt {x : Nat} (hx : x < 4294967296) : bg0 x < 4294967296 := lt_xor (lt_xor (ror_lt hx (by omega) (by omega)) (ror_lt hx (by omega) (by omega))) (ror_lt hx (by omega) (by omega))
theorem bg1_lt {x : Nat} (hx : x < 4294967296) : bg1 x < 4294967296 := lt_xor (lt_xor (ror_lt hx (by omega) (by omega)) (ror_lt hx (by omega) (by omega))) (ror_lt hx (by omega) (by omega))
theorem chf_lt {e f g : Nat} (he : e < 4294967296) : chf e f g < 4294967296 := lt_xor (lt_and he) (lt_and (lt_xor (by omega) he))
theorem maj_lt {a b c : Nat} (ha : a < 4294967296) (hb : b < 4294967296) : maj a b c < 4294967296 := lt_xor (lt_xor (lt_and ha) (lt_and ha)) (lt_and hb)
theorem bg0_eq {x : Nat} (hx : x < 4294967296) : bits BinOp.xor IntKind.u32 (bits BinOp.xor IntKind.u32 (ror x 2 : Int) (ror x 13 : Int)) (ror x 22 : Int) = (bg0 x : Int) := by
  have h1 := ror_lt (n := 2) hx (by omega) (by omega)
  have h2 := ror_lt (n := 13) hx (by omega) (by omega)
  have h3 := ror_lt (n := 22) hx (by omega) (by omega)
  rw [xor_nat _ _ h1 h2, xor_nat _ _ (lt_xor h1 h2) h3]
  rfl
theorem bg1_eq {x : Nat} (hx : x < 4294967296) : bits BinOp.xor IntKind.u32 (bits BinOp.xor IntKind.u32 (ror x 6 : Int) (ror x 11 : Int)) (ror x 25 : Int) = (bg1 x : Int) := by
  have h1 := ror_lt (n := 6) hx (by omega) (by omega)
  have h2 := ror_lt (n := 11) hx (by omega) (by omega)
  have h3 := ror_lt (n := 25) hx (by omega) (by omega)
  rw [xor_nat _ _ h1 h2, xor_nat _ _ (lt_xor h1 h2) h3]
  rfl
theorem chf_eq {e f g : Nat} (he : e < 4294967296) (hf : f < 4294967296) (hg : g < 4294967296) : bits BinOp.xor IntKind.u32 (bits BinOp.and IntKind.u32 (e : Int) (f : Int)) (bits BinOp.and IntKind.u32 (bits BinOp.xor IntKind.u32 IntKind.u32.max (e : Int)) (g : Int)) = (chf e f g : Int) := by
  have M : 4294967295 < 4294967296 := by omega
  rw [max32, and_nat e f he hf, xor_nat _ e M he, and_nat _ g (lt_xor M he) hg, xor_nat _ _ (lt_and he) (lt_and (lt_xor M he))]
  rfl
theorem maj_eq {a b c : Nat} (ha : a < 4294967296) (hb : b < 4294967296) (hc : c < 4294967296) : bits BinOp.xor IntKind.u32 (bits BinOp.xor IntKind.u32 (bits BinOp.and IntKind.u32 (a : Int) (b : Int)) (bits BinOp.and IntKind.u32 (a : Int) (c : Int))) (bits BinOp.and IntKind.u32 (b : Int) (c : Int)) = (maj a b c : Int) := by
  rw [and_nat a b ha hb, and_nat a c ha hc, and_nat b c hb hc, xor_nat _ _ (lt_and ha) (lt_and ha), xor_nat _ _ (lt_xor (lt_and ha) (lt_and ha)) (lt_and hb)]
  rfl
def shaT (M : Nat → Nat) (i : Nat) (s : S8) : Nat := (s.h + bg1 s.e + chf s.e s.f s.g + shaK i + M i) % 4294967296
def shaU (s : S8) : Nat := (bg0 s.a + maj s.a s.b s.c) % 4294967296
/-- one round of SHA-256. -/
def shaOne (M : Nat → Nat) (i : Nat) (s : S8) : S8 := ⟨(shaT M i s + shaU s) % 4294967296, s.a, s.b, s.c, (s.d + shaT M i s) % 4294967296, s.e, s.f, s.g⟩
def shaRun (M : Nat → Nat) (s : S8) : Nat → S8
  | 0 => s
  | k + 1 => shaOne M k (shaRun M s k)
def shaAdd (s r : S8) : S8 := ⟨(s.a + r.a) % 4294967296, (s.b + r.b) % 4294967296, (s.c + r.c) % 4294967296, (s.d + r.d) % 4294967296, (s.e + r.e) % 4294967296, (s.f + r.f) % 4294967296, (s.g + r.g) % 4294967296, (s.h + r.h) % 4294967296⟩
/-- the state behind t blocks, from s on. -/
def shaGo (F : Nat → Nat) (s : S8) : Nat → S8
  | 0 => s
  | t + 1 => shaAdd (shaGo F s t) (shaRun (shaX (fun g => wrd false F (64 * t + 4 * g)) 48) (shaGo F s t) 64)
def S8.ok (s : S8) : Prop := s.a < 4294967296 ∧ s.b < 4294967296 ∧ s.c < 4294967296 ∧ s.d < 4294967296 ∧ s.e < 4294967296 ∧ s.f < 4294967296 ∧ s.g < 4294967296 ∧ s.h < 4294967296
theorem shaOne_ok {M : Nat → Nat} {i : Nat} {s : S8} (h : s.ok) : (shaOne M i s).ok := ⟨Nat.mod_lt _ (by omega), h.1, h.2.1, h.2.2.1, Nat.mod_lt _ (by omega), h.2.2.2.2.1, h.2.2.2.2.2.1, h.2.2.2.2.2.2.1⟩
theorem shaRun_ok {M : Nat → Nat} {s : S8} (h : s.ok) : ∀ k, (shaRun M s k).ok
  | 0 => h
  | k + 1 => shaOne_ok (shaRun_ok h k)
theorem shaAdd_ok (s r : S8) : (shaAdd s r).ok := ⟨Nat.mod_lt _ (by omega), Nat.mod_lt _ (by omega), Nat.mod_lt _ (by omega), Nat.mod_lt _ (by omega), Nat.mod_lt _ (by omega), Nat.mod_lt _ (by omega), Nat.mod_lt _ (by omega), Nat.mod_lt _ (by omega)⟩
theorem shaGo_ok {F : Nat → Nat} {s : S8} (h : s.ok) : ∀ t, (shaGo F s t).ok
  | 0 => h
  | t + 1 => shaAdd_ok _ _
def S8.v (s : S8) : Array Value := #[.int .u32 s.a, .int .u32 s.b, .int .u32 s.c, .int .u32 s.d, .int .u32 s.e, .int .u32 s.f, .int .u32 s.g, .int .u32 s.h]
/-- a state in memory. -/
def Ew (w : World) (b : Nat) (s : S8) : Prop :=
  b < w.heap.size ∧ w.cell? ⟨b, 0, none⟩ = some (.int .u32 s.a) ∧ w.cell? ⟨b, 1, none⟩ = some (.int .u32 s.b) ∧ w.cell? ⟨b, 2, none⟩ = some (.int .u32 s.c) ∧ w.cell? ⟨b, 3, none⟩ = some (.int .u32 s.d) ∧ w.cell? ⟨b, 4, none⟩ = some (.int .u32 s.e) ∧ w.cell? ⟨b, 5, none⟩ = some (.int .u32 s.f) ∧ w.cell? ⟨b, 6, none⟩ = some (.int .u32 s.g) ∧ w.cell? ⟨b, 7, none⟩ = some (.int .u32 s.h) ∧ w.frozen? ⟨b, 0, none⟩ = false ∧ w.frozen? ⟨b, 1, none⟩ = false ∧ w.frozen? ⟨b, 2, none⟩ = false ∧ w.frozen? ⟨b, 3, none⟩ = false ∧ w.frozen? ⟨b, 4, none⟩ = false ∧ w.frozen? ⟨b, 5, none⟩ = false ∧ w.frozen? ⟨b, 6, none⟩ = false ∧ w.frozen? ⟨b, 7, none⟩ = false
theorem Ew.belowB {B : Nat} {w w' : World} {b : Nat} {s : S8} (h : Ew w b s) (hb : b < B) (k : Below B w w') : Ew w' b s := by
  obtain ⟨h0, c0, c1, c2, c3, c4, c5, c6, c7, f0, f1, f2, f3, f4, f5, f6, f7⟩ := h
  exact ⟨Nat.lt_of_lt_of_le h0 k.size, (k.cell (p := ⟨b, 0, none⟩) hb).trans c0, (k.cell (p := ⟨b, 1, none⟩) hb).trans c1, (k.cell (p := ⟨b, 2, none⟩) hb).trans c2, (k.cell (p := ⟨b, 3, none⟩) hb).trans c3, (k.cell (p := ⟨b, 4, none⟩) hb).trans c4, (k.cell (p := ⟨b, 5, none⟩) hb).trans c5, (k.cell (p := ⟨b, 6, none⟩) hb).trans c6, (k.cell (p := ⟨b, 7, none⟩) hb).trans c7, (k.frozen (p := ⟨b, 0, none⟩) hb).trans f0, (k.frozen (p := ⟨b, 1, none⟩) hb).trans f1, (k.frozen (p := ⟨b, 2, none⟩) hb).trans f2, (k.frozen (p := ⟨b, 3, none⟩) hb).trans f3, (k.frozen (p := ⟨b, 4, none⟩) hb).trans f4, (k.frozen (p := ⟨b, 5, none⟩) hb).trans f5, (k.frozen (p := ⟨b, 6, none⟩) hb).trans f6, (k.frozen (p := ⟨b, 7, none⟩) hb).trans f7⟩
theorem Ew.below {w w' : World} {b : Nat} {s : S8} (h : Ew w b s) (k : Below w.heap.size w w') : Ew w' b s := h.belowB h.1 k
theorem Ew.new (w : World) (s : S8) (ty : TypeId) : Ew (w.alloc (.cells #[.int .u32 s.a, .int .u32 s.b, .int .u32 s.c, .int .u32 s.d, .int .u32 s.e, .int .u32 s.f, .int .u32 s.g, .int .u32 s.h] ty)) w.heap.size s :=
  ⟨by simp, by simp [go_sem], by simp [go_sem], by simp [go_sem], by simp [go_sem], by simp [go_sem], by simp [go_sem], by simp [go_sem], by simp [go_sem], by simp [go_sem], by simp [go_sem], by simp [go_sem], by simp [go_sem], by simp [go_sem], by simp [go_sem], by simp [go_sem], by simp [go_sem]⟩
theorem Ew.setr {w : World} {b : Nat} {s : S8} (h : Ew w b s) (r : S8) : Ew ((((((((w.setCell ⟨b, 0, none⟩ (.int .u32 r.a)).setCell ⟨b, 1, none⟩ (.int .u32 r.b)).setCell ⟨b, 2, none⟩ (.int .u32 r.c)).setCell ⟨b, 3, none⟩ (.int .u32 r.d)).setCell ⟨b, 4, none⟩ (.int .u32 r.e)).setCell ⟨b, 5, none⟩ (.int .u32 r.f)).setCell ⟨b, 6, none⟩ (.int .u32 r.g)).setCell ⟨b, 7, none⟩ (.int .u32 r.h)) b r := by
  obtain ⟨h0, c0, c1, c2, c3, c4, c5, c6, c7, f0, f1, f2, f3, f4, f5, f6, f7⟩ := h
  refine ⟨by simpa [World.setCell] using h0, ?_, ?_, ?_, ?_, ?_, ?_, ?_, ?_, by simpa [go_sem] using f0, by simpa [go_sem] using f1, by simpa [go_sem] using f2, by simpa [go_sem] using f3, by simpa [go_sem] using f4, by simpa [go_sem] using f5, by simpa [go_sem] using f6, by simpa [go_sem] using f7⟩ <;> simp [go_sem, c0, c1, c2, c3, c4, c5, c6, c7]
theorem Ew.other {w : World} {b : Nat} {s : S8} (h : Ew w b s) {b' : Nat} (hb : b ≠ b') (i : Nat) (v : Value) : Ew (w.setCell ⟨b', i, none⟩ v) b s := by
  obtain ⟨h0, c0, c1, c2, c3, c4, c5, c6, c7, f0, f1, f2, f3, f4, f5, f6, f7⟩ := h
  have e : ∀ j, (w.setCell ⟨b', i, none⟩ v).cell? ⟨b, j, none⟩ = w.cell? ⟨b, j, none⟩ := fun j => World.cell?_setCell_other _ _ _ _ (fun q => hb (by simpa using (congrArg Addr.block q).symm))
  have g : ∀ j, (w.setCell ⟨b', i, none⟩ v).frozen? ⟨b, j, none⟩ = w.frozen? ⟨b, j, none⟩ := fun j => by rw [World.frozen?_setCell]
  exact ⟨by simpa [World.setCell] using h0, (e 0).trans c0, (e 1).trans c1, (e 2).trans c2, (e 3).trans c3, (e 4).trans c4, (e 5).trans c5, (e 6).trans c6, (e 7).trans c7, (g 0).trans f0, (g 1).trans f1, (g 2).trans f2, (g 3).trans f3, (g 4).trans f4, (g 5).trans f5, (g 6).trans f6, (g 7).trans f7⟩
theorem Ew.otherr {w : World} {b b' : Nat} {s : S8} (h : Ew w b s) (hb : b ≠ b') (r : S8) : Ew ((((((((w.setCell ⟨b', 0, none⟩ (.int .u32 r.a)).setCell ⟨b', 1, none⟩ (.int .u32 r.b)).setCell ⟨b', 2, none⟩ (.int .u32 r.c)).setCell ⟨b', 3, none⟩ (.int .u32 r.d)).setCell ⟨b', 4, none⟩ (.int .u32 r.e)).setCell ⟨b', 5, none⟩ (.int .u32 r.f)).setCell ⟨b', 6, none⟩ (.int .u32 r.g)).setCell ⟨b', 7, none⟩ (.int .u32 r.h)) b s :=
  (((((((h.other hb 0 _).other hb 1 _).other hb 2 _).other hb 3 _).other hb 4 _).other hb 5 _).other hb 6 _).other hb 7 _
theorem below_setr {B : Nat} {w0 w : World} {b : Nat} (h : Below B w0 w) (hb : B ≤ b) (r : S8) : Below B w0 ((((((((w.setCell ⟨b, 0, none⟩ (.int .u32 r.a)).setCell ⟨b, 1, none⟩ (.int .u32 r.b)).setCell ⟨b, 2, none⟩ (.int .u32 r.c)).setCell ⟨b, 3, none⟩ (.int .u32 r.d)).setCell ⟨b, 4, none⟩ (.int .u32 r.e)).setCell ⟨b, 5, none⟩ (.int .u32 r.f)).setCell ⟨b, 6, none⟩ (.int .u32 r.g)).setCell ⟨b, 7, none⟩ (.int .u32 r.h)) :=
  (((((((h.setCell hb _).setCell hb _).setCell hb _).setCell hb _).setCell hb _).setCell hb _).setCell hb _).setCell hb _
theorem Ew.range {w : World} {b : Nat} {s : S8} (h : Ew w b s) : w.rangeAt b 0 [.int .u32 s.a, .int .u32 s.b, .int .u32 s.c, .int .u32 s.d, .int .u32 s.e, .int .u32 s.f, .int .u32 s.g, .int .u32 s.h] := by
  obtain ⟨h0, c0, c1, c2, c3, c4, c5, c6, c7, _⟩ := h
  intro j v hj
  rw [Nat.zero_add]
  match j with
  | 0 => simpa using c0.trans (by simpa using hj)
  | 1 => simpa using c1.trans (by simpa using hj)
  | 2 => simpa using c2.trans (by simpa using hj)
  | 3 => simpa using c3.trans (by simpa using hj)
  | 4 => simpa using c4.trans (by simpa using hj)
  | 5 => simpa using c5.trans (by simpa using hj)
  | 6 => simpa using c6.trans (by simpa using hj)
  | 7 => simpa using c7.trans (by simpa using hj)
  | _ + 8 => simp at hj
theorem info_a8 : (Tryd.prog.info? 46).map (·.size) = some 8 := by kernel_rfl

set_option maxRecDepth 100000 in
set_option maxHeartbeats 8000000 in
theorem sha256Block_c (s : S8) (M : Nat → Nat) (w : World) (G : Gl w) (hs : s.ok) (hM : ∀ i, i < 64 → M i < 4294967296) :
    Calls Tryd.prog 35 #[.agg #[.int .u32 s.a, .int .u32 s.b, .int .u32 s.c, .int .u32 s.d, .int .u32 s.e, .int .u32 s.f, .int .u32 s.g, .int .u32 s.h], .agg (wc M 64).toArray] w fun e w' => e = .returned (.agg (shaAdd s (shaRun M s 64)).v) ∧ Below w.heap.size w w' := by
  have HM := Lib.hid hM
  have WS := Lib.hid (balloc (balloc (balloc (brefl w) (.cells #[.int .u32 s.a, .int .u32 s.b, .int .u32 s.c, .int .u32 s.d, .int .u32 s.e, .int .u32 s.f, .int .u32 s.g, .int .u32 s.h] 46)) (.cells (wc M 64).toArray 54)) (.cells #[.int .u32 0, .int .u32 0, .int .u32 0, .int .u32 0, .int .u32 0, .int .u32 0, .int .u32 0, .int .u32 0] 46))
  have GL := Lib.hid (G.below WS.out)
  have S0 := Lib.hid (((Ew.new w s 46).below (balloc (brefl _) (.cells (wc M 64).toArray 54))).below (balloc (brefl _) (.cells #[.int .u32 0, .int .u32 0, .int .u32 0, .int .u32 0, .int .u32 0, .int .u32 0, .int .u32 0, .int .u32 0] 46)))
  have A0 := Lib.hid ((As.newC (w.alloc (.cells #[.int .u32 s.a, .int .u32 s.b, .int .u32 s.c, .int .u32 s.d, .int .u32 s.e, .int .u32 s.f, .int .u32 s.g, .int .u32 s.h] 46)) 64 M 54 hM).below (balloc (brefl _) (.cells #[.int .u32 0, .int .u32 0, .int .u32 0, .int .u32 0, .int .u32 0, .int .u32 0, .int .u32 0, .int .u32 0] 46)))
  have R0 := Lib.hid (Ew.new ((w.alloc (.cells #[.int .u32 s.a, .int .u32 s.b, .int .u32 s.c, .int .u32 s.d, .int .u32 s.e, .int .u32 s.f, .int .u32 s.g, .int .u32 s.h] 46)).alloc (.cells (wc M 64).toArray 54)) ⟨0, 0, 0, 0, 0, 0, 0, 0⟩ 46)
  rw [show (w.alloc (.cells #[.int .u32 s.a, .int .u32 s.b, .int .u32 s.c, .int .u32 s.d, .int .u32 s.e, .int .u32 s.f, .int .u32 s.g, .int .u32 s.h] 46)).heap.size = w.heap.size + 1 from by simp] at A0
  rw [show ((w.alloc (.cells #[.int .u32 s.a, .int .u32 s.b, .int .u32 s.c, .int .u32 s.d, .int .u32 s.e, .int .u32 s.f, .int .u32 s.g, .int .u32 s.h] 46)).alloc (.cells (wc M 64).toArray 54)).heap.size = w.heap.size + 1 + 1 from by simp] at R0
  replace R0 : Hid (Ew (((w.alloc (.cells #[.int .u32 s.a, .int .u32 s.b, .int .u32 s.c, .int .u32 s.d, .int .u32 s.e, .int .u32 s.f, .int .u32 s.g, .int .u32 s.h] 46)).alloc (.cells (wc M 64).toArray 54)).alloc (.cells #[.int .u32 0, .int .u32 0, .int .u32 0, .int .u32 0, .int .u32 0, .int .u32 0, .int .u32 0, .int .u32 0] 46)) (w.heap.size + 1 + 1) ⟨0, 0, 0, 0, 0, 0, 0, 0⟩) := R0
  have RR : Hid (∀ k, shaRun M s (k + 1) = shaOne M k (shaRun M s k)) := fun k => rfl
  have RZ : Hid (shaRun M s 0 = s) := rfl
  have MO := Lib.hid (fun k => shaRun_ok (M := M) hs k)
  have RC := Lib.hid (fun x n w (h : x < 4294967296) (h1 : 1 ≤ n) (h2 : n ≤ 31) => rotateRight_c x n w h h1 h2)
  have s0 : IntKind.u32.signed = false := rfl
  clear G hM
  go_enter Tryd.func35, Tryd.ntmps35
  go_wp2_with fail
  generalize (((w.alloc (.cells #[.int .u32 s.a, .int .u32 s.b, .int .u32 s.c, .int .u32 s.d, .int .u32 s.e, .int .u32 s.f, .int .u32 s.g, .int .u32 s.h] 46)).alloc (.cells (wc M 64).toArray 54)).alloc (.cells #[.int .u32 0, .int .u32 0, .int .u32 0, .int .u32 0, .int .u32 0, .int .u32 0, .int .u32 0, .int .u32 0] 46)) = W0 at *
  obtain ⟨e0, c0, c1, c2, c3, c4, c5, c6, c7, _⟩ := S0.out
  go_quiet (fail)
  go_wp2_with fail
  go_quiet (fail)
  go_wp2_with fail
  clear e0 c0 c1 c2 c3 c4 c5 c6 c7
  go_loopw [5, 6, 7, 8, 9, 10, 11, 12, 32] (fun a b c d e f g h i wr => ∃ k : Nat, k ≤ 64 ∧ i = .int .i64 k ∧ a = .int .u32 (shaRun M s k).a ∧ b = .int .u32 (shaRun M s k).b ∧ c = .int .u32 (shaRun M s k).c ∧ d = .int .u32 (shaRun M s k).d ∧ e = .int .u32 (shaRun M s k).e ∧ f = .int .u32 (shaRun M s k).f ∧ g = .int .u32 (shaRun M s k).g ∧ h = .int .u32 (shaRun M s k).h ∧ Below W0.heap.size W0 wr) (fun _ _ _ _ _ _ _ _ i _ => 64 - (intOf i).toNat)
  case atStart => exact ⟨0, by omega, rfl, by rw [RZ.out], by rw [RZ.out], by rw [RZ.out], by rw [RZ.out], by rw [RZ.out], by rw [RZ.out], by rw [RZ.out], by rw [RZ.out], (bdrew (brefl W0) _).trans (bdrew (brefl _) _ |>.mono (by simp))⟩
  case round =>
    obtain ⟨k, hk, rfl, rfl, rfl, rfl, rfl, rfl, rfl, rfl, rfl, hb⟩ := hrel
    rename World => wr
    have OK := MO.out k
    have GW := Lib.hid (GL.out.below hb)
    have AW := Lib.hid (A0.out.below hb)
    have HB := Lib.hid hb
    clear hb
    by_cases cc : k < 64
    · have e0 : decide ((k : Int) < 64) = true := by rw [decide_eq_true_iff]; omega
      have NX : Hid (shaRun M s (k + 1) = ⟨(shaT M k (shaRun M s k) + shaU (shaRun M s k)) % 4294967296, (shaRun M s k).a, (shaRun M s k).b, (shaRun M s k).c, ((shaRun M s k).d + shaT M k (shaRun M s k)) % 4294967296, (shaRun M s k).e, (shaRun M s k).f, (shaRun M s k).g⟩) := Lib.hid (by rw [RR.out]; rfl)
      have ET : Hid (shaT M k (shaRun M s k) = ((shaRun M s k).h + bg1 (shaRun M s k).e + chf (shaRun M s k).e (shaRun M s k).f (shaRun M s k).g + shaK k + M k) % 4294967296) := rfl
      have EU : Hid (shaU (shaRun M s k) = (bg0 (shaRun M s k).a + maj (shaRun M s k).a (shaRun M s k).b (shaRun M s k).c) % 4294967296) := rfl
      have TL : shaT M k (shaRun M s k) < 4294967296 := by rw [ET.out]; exact Nat.mod_lt _ (by omega)
      have UL : shaU (shaRun M s k) < 4294967296 := by rw [EU.out]; exact Nat.mod_lt _ (by omega)
      generalize shaT M k (shaRun M s k) = tv at *
      generalize shaU (shaRun M s k) = uv at *
      obtain ⟨o1, o2, o3, o4, o5, o6, o7, o8⟩ := OK
      generalize (shaRun M s k).a = ra at *
      generalize (shaRun M s k).b = rb at *
      generalize (shaRun M s k).c = rc at *
      generalize (shaRun M s k).d = rd at *
      generalize (shaRun M s k).e = re at *
      generalize (shaRun M s k).f = rf at *
      generalize (shaRun M s k).g = rg at *
      generalize (shaRun M s k).h = rh at *
      have WL := HM.out k cc
      have KL := shaK_lt k cc
      have KC : wr.cell? ⟨2, k, none⟩ = some (.int .u32 (shaK k)) := GW.out.2.2 k cc
      have WC := (AW.out.2.2 k cc).1
      generalize M k = ww at *
      generalize shaK k = kk at *
      have X0 := bg0_eq o1
      have X1 := bg1_eq o5
      have X2 := chf_eq o5 o6 o7
      have X3 := maj_eq o1 o2 o3
      have y0 := bg0_lt o1
      have y1 := bg1_lt o5
      have y2 := chf_lt (f := rf) (g := rg) o5
      have y3 := maj_lt (c := rc) o1 o2
      have k0 : (0 : Int) ≤ (k : Int) := by omega
      have k1 : (k : Int) < 64 := by omega
      go_wp2_with fail
      go_quiet ((go_at_call 39; first | (with_reducible exact Calls.quiet_of_same (RC.out re 6 _ o5 (by omega) (by omega))) | (with_reducible exact Calls.quiet_of_same (RC.out re 11 _ o5 (by omega) (by omega))) | (with_reducible exact Calls.quiet_of_same (RC.out re 25 _ o5 (by omega) (by omega)))))
      rw [show ((((rh : Int) + (bg1 re : Int) + (chf re rf rg : Int) + (kk : Int)) % 4294967296 + (ww : Int)) % 4294967296) = (tv : Int) from by rw [ET.out]; omega]
      generalize hw2 : wr.drewN nq = w2
      have HB2 := Lib.hid (bstep HB.out (show Below wr.heap.size wr w2 by rw [← hw2]; exact bdrew (brefl _) _))
      clear hw2 KC WC
      go_wp2_with fail
      refine (RC.out ra 2 _ o1 (by omega) (by omega)).mono ?_
      rintro e w' ⟨rfl, rfl⟩
      go_wp2_with fail
      refine (RC.out ra 13 _ o1 (by omega) (by omega)).mono ?_
      rintro e w' ⟨rfl, rfl⟩
      go_wp2_with fail
      refine (RC.out ra 22 _ o1 (by omega) (by omega)).mono ?_
      rintro e w' ⟨rfl, rfl⟩
      have EUI : ((bg0 ra : Int) + (maj ra rb rc : Int)) % 4294967296 = (uv : Int) := by rw [EU.out]; omega
      go_wp2_with fail
      clear EUI
      go_roundw
      case rel => exact ⟨k + 1, by omega, by go_num, by rw [NX.out]; simp, by rw [NX.out], by rw [NX.out], by rw [NX.out], by rw [NX.out]; simp, by rw [NX.out], by rw [NX.out], by rw [NX.out], HB2.out⟩
      case measure => simp [intOf]; omega
    · have e0 : decide ((k : Int) < 64) = false := by rw [decide_eq_false_iff_not]; omega
      obtain rfl : k = 64 := by omega
      have SW := Lib.hid (S0.out.below HB.out)
      have RW := Lib.hid (R0.out.below HB.out)
      have FI := Lib.hid (RW.out.setr (shaAdd s (shaRun M s 64)))
      have FB := Lib.hid (below_setr (b := w.heap.size + 1 + 1) (WS.out.trans (HB.out.mono WS.out.size)) (by omega) (shaAdd s (shaRun M s 64)))
      obtain ⟨o1, o2, o3, o4, o5, o6, o7, o8⟩ := OK
      obtain ⟨p1, p2, p3, p4, p5, p6, p7, p8⟩ := hs
      obtain ⟨z0, c0, c1, c2, c3, c4, c5, c6, c7, _⟩ := SW.out
      obtain ⟨q0, d0, d1, d2, d3, d4, d5, d6, d7, g0, g1, g2, g3, g4, g5, g6, g7⟩ := RW.out
      go_wp2_with fail
      rw [show ((s.a : Int) + ((shaRun M s 64).a : Int)) % 4294967296 = ((shaAdd s (shaRun M s 64)).a : Int) from by show _ = (((s.a + (shaRun M s 64).a) % 4294967296 : Nat) : Int); omega]
      rw [show ((s.b : Int) + ((shaRun M s 64).b : Int)) % 4294967296 = ((shaAdd s (shaRun M s 64)).b : Int) from by show _ = (((s.b + (shaRun M s 64).b) % 4294967296 : Nat) : Int); omega]
      rw [show ((s.c : Int) + ((shaRun M s 64).c : Int)) % 4294967296 = ((shaAdd s (shaRun M s 64)).c : Int) from by show _ = (((s.c + (shaRun M s 64).c) % 4294967296 : Nat) : Int); omega]
      rw [show ((s.d : Int) + ((shaRun M s 64).d : Int)) % 4294967296 = ((shaAdd s (shaRun M s 64)).d : Int) from by show _ = (((s.d + (shaRun M s 64).d) % 4294967296 : Nat) : Int); omega]
      rw [show ((s.e : Int) + ((shaRun M s 64).e : Int)) % 4294967296 = ((shaAdd s (shaRun M s 64)).e : Int) from by show _ = (((s.e + (shaRun M s 64).e) % 4294967296 : Nat) : Int); omega]
      rw [show ((s.f : Int) + ((shaRun M s 64).f : Int)) % 4294967296 = ((shaAdd s (shaRun M s 64)).f : Int) from by show _ = (((s.f + (shaRun M s 64).f) % 4294967296 : Nat) : Int); omega]
      rw [show ((s.g : Int) + ((shaRun M s 64).g : Int)) % 4294967296 = ((shaAdd s (shaRun M s 64)).g : Int) from by show _ = (((s.g + (shaRun M s 64).g) % 4294967296 : Nat) : Int); omega]
      rw [show ((s.h : Int) + ((shaRun M s 64).h : Int)) % 4294967296 = ((shaAdd s (shaRun M s 64)).h : Int) from by show _ = (((s.h + (shaRun M s 64).h) % 4294967296 : Nat) : Int); omega]
      refine bodyPost_ret (v := .agg (shaAdd s (shaRun M s 64)).v) (results_cell_mid rfl _ _ (w.heap.size + 1 + 1) _ _ rfl FI.out.range Tryd.underlying46 rfl (by exact info_a8)) rfl ⟨rfl, FB.out⟩
end Go.Proofs.YtenlbjnoiamfiaaDoor.Hs
