/-
  The contract of wire.areFields, and of wire.Check.
  Conditions: none.
-/
import Derived.Test.YtmjbnbjkpimjmaaWiG
namespace Go.Proofs.Ytmjbnbjkpimjmaa.Wi
open Go.RowKit Go.Shelf Go.ChangeShapes Go.WideShapes Go.ChangeAt Go.Joins By
attribute [local go_sem] Oper.semAt_some
set_option linter.unusedVariables false
set_option linter.unusedSimpArgs false

/-- block B holds these cells. -/
def Bxs (W : World) (B : Nat) (t : TypeId) (vs : Array Value) : Prop := W.heap[B]? = some (.cells vs t (0, 0))
theorem Bxs.lt {W : World} {B : Nat} {t : TypeId} {vs : Array Value} (h : Bxs W B t vs) : B < W.heap.size := (Array.getElem?_eq_some_iff.1 h).1
theorem Bxs.new (W : World) (t : TypeId) (vs : Array Value) : Bxs (W.alloc (.cells vs t)) W.heap.size t vs := World.alloc_heap_new W _
theorem Bxs.kept {W W' : World} {row : Option Nat} {B : Nat} {t : TypeId} {vs : Array Value} (h : Bxs W B t vs) (hg : W.grownBy W' row) (hne : some B ≠ row) : Bxs W' B t vs := (hg.block B h.lt hne).trans h
theorem Bxs.cell {W : World} {B : Nat} {t : TypeId} {vs : Array Value} (h : Bxs W B t vs) (i : Nat) : W.cell? ⟨B, i, none⟩ = vs[i]? := by simp [World.cell?, show W.heap[B]? = _ from h]
theorem bxs_own {β : Type} (B : Nat) (t : TypeId) (f : β → Array Value) : Own (fun s W => Bxs W B t (f s)) := fun s X Y row hs hg hrow =>
  hs.kept hg (fun e' => by obtain ⟨o, ho, hc⟩ := hrow B e'.symm; rw [show X.heap[B]? = _ from hs] at ho; cases ho; cases hc)
theorem own_pure {β : Type} (P : β → Prop) : Own (fun s (_ : World) => P s) := fun _ _ _ _ hs _ _ => hs
/-- the fields that have come, in the packet's order. -/
def Gf (L : List Fd) (pre : List Nat) : List Fd := (pre.map fun j => L.getD j f0).reverse
theorem Gf_snoc (L : List Fd) (pre : List Nat) (x : Nat) : Gf L (pre ++ [x]) = L.getD x f0 :: Gf L pre := by simp [Gf]
theorem Gf_dn (L : List Fd) : ∀ k, k ≤ L.length → Gf L (dn L.length k) = L.drop (L.length - k)
  | 0, _ => by simp [Gf, dn]
  | k + 1, h => by
    rw [dn_succ, Gf_snoc, Gf_dn L k (by omega), show L.length - 1 - k = L.length - (k + 1) by omega, drop_at (L := L) (k := L.length - (k + 1)) (by omega), show L.length - (k + 1) + 1 = L.length - k by omega]
theorem Gf_all (L : List Fd) : Gf L (dn L.length L.length) = L := by rw [Gf_dn L _ (Nat.le_refl _), Nat.sub_self, List.drop_zero]

theorem own_and {β : Type} {I J : β → World → Prop} (h : Own I) (k : Own J) : Own (fun s W => I s W ∧ J s W) := fun s W W' row hs hg hr => ⟨h s W W' row hs.1 hg hr, k s W W' row hs.2 hg hr⟩
theorem wrapi_in {x : Int} (h0 : 0 ≤ x) (h1 : x ≤ 9223372036854775807) : IntKind.i64.wrap x = x := by
  simp only [IntKind.wrap, IntKind.bits, IntKind.signed]
  simp
  omega
theorem okFd_iff {x : Int} {n : Nat} : okFd x n = true ↔ (0 ≤ x ∧ x ≤ 65535) ∧ 16 ≤ n + 4 ∧ (n + 4) % 4 = 0 := by
  simp only [okFd, okL, Bool.and_eq_true, btw_iff, decide_eq_true_eq]
theorem boxed_below {B t v} {W W' : World} (h : Boxed W B t v) (k : Below W.heap.size W W') : Boxed W' B t v := (k.block _ h.lt).trans h
theorem keepsFrom_below {B : Nat} {W W' : World} (k : Below W.heap.size W W') : KeepsFrom B W W' := ⟨k.size, fun i o _ hi _ => (k.block i (Array.getElem?_eq_some_iff.1 hi).1).trans hi⟩
def XF (L : List Fd) (j : Nat) : Int := (L.getD j f0).1
def VF (L : List Fd) (V : Nat → Value) (j : Nat) : Value := if j < L.length then V j else .slice none 0 0
theorem vf_at {L : List Fd} (V : Nat → Value) {j : Nat} (h : j < L.length) : VF L V j = V j := if_pos h
theorem vf_form {w : World} {L : List Fd} {V : Nat → Value} (h : ∀ j, j < L.length → Sl w (V j) (L.getD j f0).2) (j : Nat) : ∃ va vn vc, VF L V j = .slice va vn vc ∧ vn = (L.getD j f0).2.length ∧ vn ≤ 140737488351232 := by
  by_cases c : j < L.length
  · obtain ⟨va, vc, ev⟩ := (h j c).form
    exact ⟨va, _, vc, by rw [vf_at V c]; exact ev, rfl, (h j c).1⟩
  · refine ⟨none, 0, 0, if_neg c, ?_, by omega⟩
    rw [List.getD_eq_getElem?_getD, List.getElem?_eq_none (by omega)]
    rfl

set_option maxRecDepth 100000 in
set_option maxHeartbeats 8000000 in
theorem areFields_c {w : World} {a : Option Addr} {cap : Nat} {L : List Fd} {V : Nat → Value} (F : Fs w (.slice a L.length cap) L V) (e : Nat) (he : e ≤ 24) :
    Calls Try.prog 24 #[.slice a L.length cap, .int .i64 (e : Int)] w fun x w' => x = .returned (.bool (arF e L)) ∧ Below w.heap.size w w' := by
  refine (callsIn_wide (n := 6)).1 ?_
  have FX := Lib.hid F
  obtain ⟨a', cap', ef, f1, f2, f3, f4⟩ := F
  obtain ⟨rfl, rfl⟩ : a = a' ∧ cap = cap' := by simpa using ef
  have F3 := Lib.hid f3
  have F4 := Lib.hid f4
  clear f3 f4 ef
  have l0 : (0 : Int) ≤ (L.length : Int) := by omega
  by_cases h8 : L.length ≤ 8
  · have e8 : decide ((8 : Int) < (L.length : Int)) = false := decide_eq_false (by omega)
    refine callsIn_of_wp_marks Try.func24 rfl trivial ?_ rfl
    simp only [Try.ntmps24, List.size_toArray, List.length_cons, List.length_nil, Nat.reduceAdd, Nat.reduceSub, Array.replicate_succ, Array.replicate_zero, List.push_toArray, List.append_toArray, List.nil_append, List.cons_append]
    gi_wp2
    refine ⟨trivial, (backward_in (6 - 1) _ _ _ _).mono ?_⟩
    rintro x w' ⟨rfl, rfl⟩
    gi_wp2
    have bR := ((Boxed.new w 4 (.bool false)).alloc (.cells #[.int .i64 (e : Int)] 3)).alloc (.cells #[.slice a L.length cap] 26)
    have bL := (Boxed.new (w.alloc (.cells #[.bool false] 4)) 3 (.int .i64 (e : Int))).alloc (.cells #[.slice a L.length cap] 26)
    have bS := Boxed.new ((w.alloc (.cells #[.bool false] 4)).alloc (.cells #[.int .i64 (e : Int)] 3)) 26 (.slice a L.length cap)
    simp only [World.size_alloc] at bL bS
    have hB0 : Below w.heap.size w (((w.alloc (.cells #[.bool false] 4)).alloc (.cells #[.int .i64 (e : Int)] 3)).alloc (.cells #[.slice a L.length cap] 26)) := (((Below.refl _ w).alloc (Nat.le_refl _) _).alloc (by simp) _).alloc (by simp; omega) _
    have hsz : (((w.alloc (.cells #[.bool false] 4)).alloc (.cells #[.int .i64 (e : Int)] 3)).alloc (.cells #[.slice a L.length cap] 26)).heap.size = w.heap.size + 3 := by simp
    obtain ⟨W0, hW0⟩ : ∃ W0, ((w.alloc (.cells #[.bool false] 4)).alloc (.cells #[.int .i64 (e : Int)] 3)).alloc (.cells #[.slice a L.length cap] 26) = W0 := ⟨_, rfl⟩
    rw [hW0] at bR bL bS hB0 hsz ⊢
    clear hW0
    have hc : ∀ W, Below W0.heap.size W0 W → 0 < L.length → ∃ b off, a = some ⟨b, off, none⟩ ∧ b < w.heap.size ∧ ∀ j, j < L.length → FAt W b (off + j * 2) (XF L j) (VF L V j) := by
      intro W hW hn
      obtain ⟨b, off, ea, hb, hat⟩ := F3.out hn
      refine ⟨b, off, ea, hb, fun j hj => ?_⟩
      rw [vf_at V hj]
      exact ((hat j hj).below hb hB0).below (by omega) hW
    refine wpIn_rangeFunc_ownH rfl (by omega) (gf := 42) (lb := #[.pointer (some ⟨w.heap.size + 1 + 1, 0, none⟩)]) rfl trivial (enters_of Try.func42 (by kernel_rfl) rfl)
      (encs := fun j : Nat => #[.int .i64 (j : Int), .agg #[.int .i64 (XF L j), VF L V j]]) (Kp := Kp w.heap.size (w.heap.size + 1 + 1) 26) (S := fun ys => Gf L ys = L) (Sp := fun pre => ∃ k, Gf L pre = L.drop k) (N := L.length) (w0 := W0)
      (fun l J Jx W hW _ _ hY h0 => (back1 (6 - 1) (by omega) l (w.heap.size + 1 + 1) w.heap.size L.length cap a (XF L) (VF L V) (by omega) J Jx hY W ((hW.block _ bS.lt).trans bS) (hc W hW) h0).mono fun x W' h => ⟨h.1, by
        rcases h.2 with ⟨ys, rfl, hj⟩ | ⟨pre, ⟨k, hk, rfl⟩, hj⟩
        · exact .inl ⟨_, Gf_all L, hj⟩
        · exact .inr ⟨_, ⟨_, Gf_dn L k hk⟩, hj⟩⟩)
      (fun h k => h.tr k)
      (fun W l o o' hl ho hc hw => ⟨belowK_b (w := W0) (by omega) W l o o' hl ho hc hw, fun v hv => hv.kept (grownBy_putObj' W l o') (fun q => by cases q; omega)⟩)
      (Below.refl _ _) (fun _ => rfl)
      (fun pre W => ((((okF e (Gf L pre) = true ∧ tot e (Gf L pre) ≤ 976) ∧ Boxed W w.heap.size 4 (.bool false)) ∧ Boxed W (w.heap.size + 1) 3 (.int .i64 (tot e (Gf L pre) : Nat))) ∧ Boxed W (w.heap.size + 1 + 1) 26 (.slice a L.length cap)) ∧ Below w.heap.size w W)
      (fun c pre W => ((c = .ret ∧ (okF e (Gf L pre) = false ∨ 976 < tot e (Gf L pre))) ∧ Boxed W w.heap.size 4 (.bool false)) ∧ Below w.heap.size w W)
      (OwnFrom.and (Own.from (own_and (own_and (own_and (own_pure _) (boxed_own _ _ _)) (boxed_own _ _ _)) (boxed_own _ _ _)) _) (ownFrom_below (Nat.le_refl _) (by omega)))
      (fun c => OwnFrom.and (Own.from (own_and (own_pure _) (boxed_own _ _ _)) _) (ownFrom_below (Nat.le_refl _) (by omega)))
      ⟨⟨⟨⟨⟨rfl, by show e ≤ 976; omega⟩, bR⟩, bL⟩, bS⟩, hB0⟩
      (fun x a' W => ∃ Bx, w.heap.size + 1 + 1 < Bx ∧ Bxs W Bx 51 #[.int .i64 (XF L x), VF L V x] ∧ a' = { tmps := #[.slice a L.length cap, .int .i64 e, undef, undef, .pointer (some ⟨w.heap.size, 0, none⟩), .pointer (some ⟨w.heap.size + 1, 0, none⟩), undef, .pointer (some ⟨Bx, 0, none⟩), .slice a L.length cap, .int .i64 L.length, .bool false, .int .i64 e, .slice a L.length cap, .func (.func 42) #[] #[.pointer (some ⟨w.heap.size + 1 + 1, 0, none⟩)], .int .i64 x, .agg #[.int .i64 (XF L x), VF L V x], undef, undef, undef, undef, undef, undef, undef, undef, undef, undef, undef, undef, undef, undef, undef, undef], defers := [] })
      (fun x a' _ X Y row hs hg hr => by obtain ⟨Bx, h1, h2, h3⟩ := hs; exact ⟨Bx, h1, bxs_own Bx _ (fun (_ : Unit) => _) () X Y row h2 hg (fun r e => (hr r e).2), h3⟩)
      ?assign ?body ?done ?stop
    case assign =>
      rintro l pre x W K ⟨⟨⟨⟨h1, b1⟩, b2⟩, b3⟩, hB1⟩ hK
      obtain ⟨va, vn, vc, ev, hvn, hvb⟩ := vf_form F4.out x
      rw [ev] at hK ⊢
      clear hvn hvb
      gi_wp2
      exact hK _ _ ((KeepsOthers.alloc _ _).from _) ⟨(Below.refl _ W).alloc hB1.size _, fun v hv => hv.alloc _⟩ ⟨⟨⟨⟨h1, b1.alloc _⟩, b2.alloc _⟩, b3.alloc _⟩, hB1.alloc hB1.size _⟩ ⟨W.heap.size, b3.lt, Bxs.new W _ _, rfl⟩
    case body =>
      rintro l pre x a' W hl ⟨r, hr⟩ ⟨⟨⟨⟨h1, b1⟩, b2⟩, b3⟩, hB1⟩ ⟨Bx, hBx, bX, rfl⟩ hlt
      obtain ⟨va, vn, vc, ev, hvn, hvb⟩ := vf_form F4.out x
      rw [ev] at bX ⊢
      have x0 : W.cell? ⟨Bx, 0, none⟩ = some (.int .i64 (XF L x)) := by rw [bX.cell]; rfl
      have x1 : W.cell? ⟨Bx, 1, none⟩ = some (.slice va vn vc) := by rw [bX.cell]; rfl
      have y0 := b2.cell
      have y1 := b2.frozen
      have z1 := b1.cell
      have z2 := b1.frozen
      have HFL := Lib.hid (fun w => fieldLength_c (XF L x) va vn vc hvb w)
      have HIF := Lib.hid (fun w => isField_c (XF L x) va vn vc hvb w)
      have HV := Lib.hid hvn
      have HW := Lib.hid hvb
      have T1 := Lib.hid h1
      have hlB : Bx < W.heap.size := bX.lt
      have hl2 : w.heap.size + 1 < W.heap.size := b2.lt
      have hl1 : w.heap.size < W.heap.size := b1.lt
      clear h1 hvn hvb hc hr
      have TE : ∃ T, Hid (tot e (Gf L pre) = T) := ⟨_, Lib.hid rfl⟩
      obtain ⟨T, TE⟩ := TE
      have XE : ∃ X, Hid (XF L x = X) := ⟨_, Lib.hid rfl⟩
      obtain ⟨X, XE⟩ := XE
      rw [TE.out] at b2 y0 T1
      rw [XE.out] at bX x0 HFL HIF ⊢
      have q0 : (0 : Int) ≤ (T : Int) := by omega
      have q1 : (T : Int) ≤ 976 := by have := T1.out.2; omega
      have q2 : ((vn + 4 : Nat) : Int) ≤ 140737488351236 := by have := HW.out; omega
      have q3 : (0 : Int) ≤ ((vn + 4 : Nat) : Int) := by omega
      obtain ⟨M, hM⟩ : ∃ M, M = vn + 4 := ⟨_, rfl⟩
      rw [← hM] at HFL q2 q3
      have HM := Lib.hid hM
      have h1' : 1 ≤ 6 - 1 - 1 := by omega
      have mixed : Try.prog.follows Departure.mixedOrders = true := by kernel_rfl
      obtain ⟨U, hU⟩ : ∃ U, U = T + M := ⟨_, rfl⟩
      have u1 : (T : Int) + (M : Int) = (U : Int) := by omega
      have u2 : (U : Int) ≤ 140737488352212 := by omega
      have u3 : (0 : Int) ≤ (U : Int) := by omega
      have hSum : IntKind.i64.wrap ((T : Int) + (M : Int)) = (U : Int) := by rw [u1]; exact wrapi_in (by omega) (by omega)
      have BAD : Hid (okFd X vn = false ∨ U ≤ 24 → okF e (Gf L (pre ++ [x])) = false) := Lib.hid (fun h => by
        rw [Gf_snoc]
        refine okF_bad (fun h2 => ?_)
        rcases h with h | h
        · have := okFd_iff (x := X) (n := vn)
          rw [h, HV.out] at this
          exact Bool.noConfusion (this.2 ⟨by rw [← XE.out]; exact h2.1, h2.2.1, h2.2.2.1⟩)
        · have := h2.2.2.2
          rw [tot, TE.out, ← HV.out] at this
          omega)
      have TOT : Hid (tot e (Gf L (pre ++ [x])) = U) := Lib.hid (by rw [Gf_snoc, tot, TE.out, ← HV.out]; omega)
      have GOOD : Hid (okFd X vn = true → 24 < U → okF e (Gf L (pre ++ [x])) = true) := Lib.hid (fun h h3 => by
        have h2 := okFd_iff.1 h
        have t := TOT.out
        rw [Gf_snoc] at t ⊢
        exact okF_join T1.out.1 (by have q := h2.1; rw [← XE.out] at q; exact q) (by rw [← HV.out]; exact h2.2.1) (by rw [← HV.out]; exact h2.2.2) (by rw [t]; exact h3))
      have HU := Lib.hid hU
      clear h1' hM hU u1
      generalize hcb : okFd X vn = cb at *
      clear hcb
      gi_wp2
      gi_region_with_o (first | (refine ⟨trivial, ?_⟩; gi_at_call 20; refine (CallsIn.inRound l (callsIn_wide.2 (HFL.out _))).mono ?_; rintro z w' ⟨rfl, rfl⟩))
      all_goals (
        gi_wp2
        have k1 : Boxed (((W.setCell ⟨w.heap.size + 1, 0, none⟩ (.int .i64 (U : Int))).alloc (.cells #[.int .i64 X, .slice va vn vc] 51)).drew) w.heap.size 4 (.bool false) := (b1.other (by omega) _).alloc _
        have k2 : Boxed (((W.setCell ⟨w.heap.size + 1, 0, none⟩ (.int .i64 (U : Int))).alloc (.cells #[.int .i64 X, .slice va vn vc] 51)).drew) (w.heap.size + 1) 3 (.int .i64 (U : Int)) := (b2.set _).alloc _
        have k3 : Boxed (((W.setCell ⟨w.heap.size + 1, 0, none⟩ (.int .i64 (U : Int))).alloc (.cells #[.int .i64 X, .slice va vn vc] 51)).drew) (w.heap.size + 1 + 1) 26 (.slice a L.length cap) := (b3.other (by omega) _).alloc _
        have kB : Below w.heap.size W (((W.setCell ⟨w.heap.size + 1, 0, none⟩ (.int .i64 (U : Int))).alloc (.cells #[.int .i64 X, .slice va vn vc] 51)).drew) := (((Below.refl w.heap.size W).setCell (p := ⟨w.heap.size + 1, 0, none⟩) (by simp) _).alloc (by simp [World.setCell]; omega) _).drew
        have kK : KeepsFrom W0.heap.size W (((W.setCell ⟨w.heap.size + 1, 0, none⟩ (.int .i64 (U : Int))).alloc (.cells #[.int .i64 X, .slice va vn vc] 51)).drew) := (((KeepsOthers.setCell _ _ _).trans (KeepsOthers.alloc _ _)).trans (KeepsOthers.drew _)).from _
        have kP : Kp w.heap.size (w.heap.size + 1 + 1) 26 W (((W.setCell ⟨w.heap.size + 1, 0, none⟩ (.int .i64 (U : Int))).alloc (.cells #[.int .i64 X, .slice va vn vc] 51)).drew) := ⟨kB, fun v hv => (hv.other (by omega) _).alloc _⟩
        generalize (((W.setCell ⟨w.heap.size + 1, 0, none⟩ (.int .i64 (U : Int))).alloc (.cells #[.int .i64 X, .slice va vn vc] 51)).drew) = W2 at *
        refine ⟨trivial, (CallsIn.inRound l (callsIn_wide.2 (HIF.out _))).mono ?_⟩
        rintro z W3 ⟨rfl, hb3⟩
        have j1 := boxed_below k1 hb3
        have j2 := boxed_below k2 hb3
        have j3 := boxed_below k3 hb3
        have jB : Below w.heap.size W W3 := kB.trans (hb3.mono (Nat.le_trans hB1.size kB.size))
        have jK : KeepsFrom W0.heap.size W W3 := kK.trans (keepsFrom_below hb3)
        have jP : Kp w.heap.size (w.heap.size + 1 + 1) 26 W W3 := kP.tr ⟨hb3.mono (Nat.le_trans hB1.size kB.size), fun v hv => boxed_below hv hb3⟩
        have y0 := j2.cell
        have y1 := j2.frozen
        have z1 := j1.cell
        have z2 := j1.frozen
        clear k1 k2 k3 kB kK kP HIF HFL
        have hB3 := hB1.trans jB
        cases cb with
        | false =>
          gi_wp2
          exact ⟨jK.trans ((KeepsOthers.setCell _ _ _).from _), ⟨⟨rfl, .inl (BAD.out (.inl (by simp)))⟩, j1.set _⟩, hB3.setCell (p := ⟨w.heap.size, 0, none⟩) (Nat.le_refl _) _⟩
        | true =>
          by_cases t3 : U ≤ 24
          · have e3 : decide ((U : Int) ≤ 24) = true := decide_eq_true (by omega)
            gi_wp2
            exact ⟨jK.trans ((KeepsOthers.setCell _ _ _).from _), ⟨⟨rfl, .inl (BAD.out (.inr t3))⟩, j1.set _⟩, hB3.setCell (p := ⟨w.heap.size, 0, none⟩) (Nat.le_refl _) _⟩
          · have e3 : decide ((U : Int) ≤ 24) = false := decide_eq_false (by omega)
            have T3 := Lib.hid t3
            clear t3
            by_cases t4 : 976 < U
            · have e4 : decide ((1024 : Int) < 48 + (U : Int)) = true := decide_eq_true (by omega)
              have T4 := Lib.hid t4
              clear t4
              gi_wp2
              exact ⟨jK.trans ((KeepsOthers.setCell _ _ _).from _), ⟨⟨rfl, .inr (by rw [TOT.out]; exact T4.out)⟩, j1.set _⟩, hB3.setCell (p := ⟨w.heap.size, 0, none⟩) (Nat.le_refl _) _⟩
            · have e4 : decide ((1024 : Int) < 48 + (U : Int)) = false := decide_eq_false (by omega)
              have T4 := Lib.hid t4
              clear t4
              gi_wp2
              exact ⟨jK, jP, ⟨⟨⟨⟨GOOD.out (by simp) (by have := T3.out; omega), by rw [TOT.out]; have := T4.out; omega⟩, j1⟩, by rw [TOT.out]; exact j2⟩, j3⟩, hB3⟩)
    case done =>
      rintro D ys W hD hS ⟨⟨⟨⟨h1, b1⟩, b2⟩, b3⟩, hB1⟩ hK
      rw [hS] at h1
      have R : Hid (arF e L = true) := Lib.hid (arF_ok h8 h1.1 (by omega))
      have z1 := b1.cell
      have z2 := b1.frozen
      gi_wp2
      have hK' := (KeepsOthers.setCell W ⟨w.heap.size, 0, none⟩ (.bool true)).same D _ hK rfl
      refine ⟨by simp, .inl ⟨_, _, rfl, run_takeDeferred hK', ?_⟩⟩
      have hc5 := cell_kept (b1.set (.bool true)).cell (grownBy_putObj' _ D (.deferred none)) (fun r e => by cases e; exact ⟨_, hK', rfl⟩)
      refine ⟨.bool true, ?_, by rw [R.out], (hB1.setCell (p := ⟨w.heap.size, 0, none⟩) (Nat.le_refl _) _).trans (belowK_b (w := W0) (by omega) _ D _ _ hD hK' rfl rfl)⟩
      simp [results, Try.results24, go_sem, hc5]
    case stop =>
      rintro D c pre W hD ⟨k, hk⟩ ⟨⟨⟨rfl, h1⟩, b1⟩, hB1⟩ hK
      rw [hk] at h1
      have R : Hid (arF e L = false) := Lib.hid (by
        rcases h1 with h1 | h1
        · exact arF_bad h1
        · exact arF_great h1)
      gi_wp2
      refine ⟨by simp, .inl ⟨_, _, rfl, run_takeDeferred hK, ?_⟩⟩
      have hc5 := cell_kept b1.cell (grownBy_putObj' _ D (.deferred none)) (fun r e => by cases e; exact ⟨_, hK, rfl⟩)
      refine ⟨.bool false, ?_, by rw [R.out], hB1.trans (belowK_b (w := W0) (by omega) _ D _ _ hD hK rfl rfl)⟩
      simp [results, Try.results24, go_sem, hc5]
  · have e8 : decide ((8 : Int) < (L.length : Int)) = true := decide_eq_true (by omega)
    have R : Hid (arF e L = false) := Lib.hid (arF_long (by omega))
    refine callsIn_of_wp_marks Try.func24 rfl trivial ?_ rfl
    simp only [Try.ntmps24, List.size_toArray, List.length_cons, List.length_nil, Nat.reduceAdd, Nat.reduceSub, Array.replicate_succ, Array.replicate_zero, List.push_toArray, List.append_toArray, List.nil_append, List.cons_append]
    gi_wp2
    refine ⟨.bool false, ?_, by rw [R.out], balloc (brefl w) _⟩
    simp [results, Try.results24, go_sem]
end Go.Proofs.Ytmjbnbjkpimjmaa.Wi
