/-
  DiskPlays: A disk does what the document says, call by call. The law returns true for every input, and the input reads as it did.
  Conditions: none.
-/
import Derived.Test.YtpnphmfpandmkaaRows
import Derived.Test.YtpnphmfpandmkaaDkR
import Derived.SizedLaws
import Derived.Lib.SmallJoins
namespace Go.Proofs.Ytpnphmfpandmkaa.diskPlays
open Go.ChangeShapes Go.WideShapes Go.ChangeAt Go.RowKit Go.Joins By Ct Dk
set_option linter.unusedVariables false
set_option linter.unusedSimpArgs false

theorem own : ownKnob Try.prog.godebug = none := by kernel_rfl
theorem laidOut : laidOutB Try.prog = true := by kernel_rfl
set_option maxRecDepth 100000 in
set_option maxHeartbeats 16000000 in
theorem walk (v : Value) (L : List (Ac × Value)) (w : World) (F : Al w v L) : Calls Try.prog 3 #[v] w fun e w' => e = .returned (.bool true) ∧ Below w.heap.size w w' := by
  obtain ⟨va, vc, rfl⟩ := F.form
  have HF := Lib.hid F
  obtain ⟨n, hn⟩ : ∃ n, L.length = n := ⟨_, rfl⟩
  have LN := Lib.hid hn
  have nc : (n : Int) ≤ (vc : Int) := by obtain ⟨_, _, e, h1, _⟩ := F; cases e; omega
  have cm : (vc : Int) ≤ 9223372036854775807 := by obtain ⟨_, _, e, _, h1, _⟩ := F; cases e; omega
  have n0 : (0 : Int) ≤ (n : Int) := by omega
  rw [hn]
  clear F hn
  go_enter Try.func3, Try.ntmps3
  go_wp2_with fail
  refine (awake11_c w).mono ?_
  rintro e w1 ⟨rfl, hb⟩
  have B1 := Lib.hid hb
  clear hb
  go_wp2_with fail
  refine (New_c w1).mono ?_
  rintro e w2 ⟨rfl, hp, hb⟩
  have P2 := Lib.hid hp
  have B2 := Lib.hid (bstep B1.out hb)
  have D1 : Hid (w.heap.size ≤ w1.heap.size) := Lib.hid B1.out.size
  have D2 : Hid (w1.heap.size < w2.heap.size) := Lib.hid (hp.2.2.1 _ rfl)
  clear hp hb
  go_wp2_with fail
  refine (rNew_c w2).mono ?_
  rintro e w3 ⟨rfl, hp, hb⟩
  have P3 : Hid (Bo w3 w1.heap.size w2.heap.size new (Td w1.heap.size) (Td w2.heap.size)) := Lib.hid ⟨P2.out.below hb, hp, fun k hx hy => by have a : k = w1.heap.size := hx; have b : k = w2.heap.size := hy; have := D2.out; omega⟩
  have B3 := Lib.hid (bstep B2.out hb)
  have E1 := D1.out
  have E2 := D2.out
  clear hp hb P2
  generalize w1.heap.size = d at *
  generalize w2.heap.size = m at *
  go_upto_region 6 with fail
  go_loopw [5] (fun iv wr => ∃ (k : Nat) (s : Dk) (X Y : Nat → Prop), k ≤ n ∧ k ≤ 200 ∧ iv = .int .i64 (k : Nat) ∧ Bo wr d m s X Y ∧ s.fs.length ≤ k ∧ (∀ j, X j → w.heap.size ≤ j) ∧ (∀ j, Y j → w.heap.size ≤ j) ∧ Below w.heap.size w wr) (fun iv _ => n - (intOf iv).toNat)
  case atStart => exact ⟨0, new, Td d, Td m, Nat.zero_le _, Nat.zero_le _, rfl, P3.out, Nat.zero_le _, fun j q => by have z : j = d := q; omega, fun j q => by have z : j = m := q; omega, B3.out⟩
  case round =>
    obtain ⟨k, s, X, Y, hk, hk2, rfl, ho, hs, hx0, hy0, hb⟩ := hrel
    rename World => wr
    have HO := Lib.hid ho
    have HB := Lib.hid hb
    have XL := Lib.hid hx0
    have YL := Lib.hid hy0
    clear ho hb P3 B3 B2
    by_cases c : k < n
    · have e1 : decide ((k : Int) < (n : Int)) = true := decide_eq_true (by omega)
      by_cases c2 : k < 200
      · have e2 : decide ((k : Int) < 200) = true := decide_eq_true (by omega)
        have i1 : (k : Int) < (n : Int) := by omega
        have i0 : (0 : Int) ≤ (k : Int) := by omega
        obtain ⟨x, hx⟩ : ∃ x, L[k]? = some x := ⟨_, List.getElem?_eq_getElem (by rw [LN.out]; exact c)⟩
        have hS0 : Sl w x.2 x.1.dat := by obtain ⟨_, _, _, _, _, _, q⟩ := al_at HF.out hx; exact q
        obtain ⟨b, off, rfl, hbb, rg, hbd, hS⟩ := al_at (HF.out.below HB.out) hx
        obtain ⟨x, dv⟩ := x
        simp only at rg hS hS0 hbd
        obtain ⟨fa, fc, ef⟩ := hS.form
        subst ef
        have RG := Lib.hid rg
        have ST := Lib.hid (step_c HO.out (by omega) hbd hS (fun h0 g hg => ⟨fun q => by have := hx0 g q; have := sl_lt hS0 h0 g hg; omega, fun q => by have := hy0 g q; have := sl_lt hS0 h0 g hg; omega⟩))
        clear rg hS hS0 hbd hx
        go_upto_region 8 with fail
        go_wp2_with ((refine wpList_load_mid rfl 31 _ rfl _ _ rfl [.int .i64 x.k, .int .i64 x.n, .int .i64 x.p, .string x.a, .string x.b, .slice fa x.dat.length fc] _ RG.out Try.underlying31 rfl (by exact info_act) ?_))
        refine ST.out.mono ?_
        rintro e w4 ⟨rfl, s', hs', X', Y', ho', hx', hy', ht'⟩
        have HO' := Lib.hid ho'
        have WC := Lib.hid (whole_c ho' (by omega))
        have XL' : Hid (∀ j, X' j → w.heap.size ≤ j) := Lib.hid fun j q => (hx' j q).elim (hx0 j) (fun z => Nat.le_trans HB.out.size z)
        have YL' : Hid (∀ j, Y' j → w.heap.size ≤ j) := Lib.hid fun j q => (hy' j q).elim (hy0 j) (fun z => Nat.le_trans HB.out.size z)
        have T4 : Hid (Below w.heap.size w w4) := Lib.hid (HB.out.trans (ht'.below (fun i hi => hi.elim (hx0 i) (hy0 i)) HB.out.size))
        clear ho' hx' hy' ht' hx0 hy0 ST RG
        go_wp2_with fail
        refine WC.out.mono ?_
        rintro e w5 ⟨rfl, hb5⟩
        have B5 := Lib.hid hb5
        clear hb5 WC
        go_wp2_with fail
        exact ⟨⟨k + 1, s', X', Y', by omega, by omega, by go_num, HO'.out.below B5.out, by omega, XL'.out, YL'.out, T4.out.trans (B5.out.mono T4.out.size)⟩, by simp [intOf]; omega⟩
      · have e2 : decide ((k : Int) < 200) = false := decide_eq_false (by omega)
        clear hk hx0 hy0
        go_wp2_with fail
        refine (Restart_c HO.out.1).mono ?_
        rintro e w2 ⟨rfl, q2, q3⟩
        have PP := Lib.hid (pt_td q2 q3)
        have C2 := Lib.hid (rRestart_c (s := s) (X := Y) (by obtain ⟨_, _, _, ht⟩ := PP.out; exact HO.out.2.1.tu ht HO.out.2.2))
        clear q2 q3
        go_wp2_with fail
        refine C2.out.mono ?_
        rintro e w3 ⟨rfl, q2, q3⟩
        have QQ := Lib.hid (bt_of HO.out PP.out (fun _ => rt_td q2 q3))
        clear q2 q3 C2
        obtain ⟨X3, Y3, b3, _, _, t3⟩ := QQ.out
        have T3 : Hid (Below w.heap.size w w3) := Lib.hid (HB.out.trans (t3.below (fun i hi => hi.elim (XL.out i) (YL.out i)) HB.out.size))
        have WC := Lib.hid (whole_c b3 (by show s.fs.length ≤ 80000; omega))
        clear b3 t3
        go_wp2_with fail
        refine WC.out.mono ?_
        rintro e w4 ⟨rfl, hb4⟩
        have T4 : Hid (Below w.heap.size w w4) := Lib.hid (T3.out.trans (hb4.mono T3.out.size))
        clear hb4 WC
        go_wp2_with fail
        go_ret
        exact ⟨rfl, T4.out⟩
    · have e1 : decide ((k : Int) < (n : Int)) = false := decide_eq_false (by omega)
      clear hk hx0 hy0
      go_wp2_with fail
      refine (Restart_c HO.out.1).mono ?_
      rintro e w2 ⟨rfl, q2, q3⟩
      have PP := Lib.hid (pt_td q2 q3)
      have C2 := Lib.hid (rRestart_c (s := s) (X := Y) (by obtain ⟨_, _, _, ht⟩ := PP.out; exact HO.out.2.1.tu ht HO.out.2.2))
      clear q2 q3
      go_wp2_with fail
      refine C2.out.mono ?_
      rintro e w3 ⟨rfl, q2, q3⟩
      have QQ := Lib.hid (bt_of HO.out PP.out (fun _ => rt_td q2 q3))
      clear q2 q3 C2
      obtain ⟨X3, Y3, b3, _, _, t3⟩ := QQ.out
      have T3 : Hid (Below w.heap.size w w3) := Lib.hid (HB.out.trans (t3.below (fun i hi => hi.elim (XL.out i) (YL.out i)) HB.out.size))
      have WC := Lib.hid (whole_c b3 (by show s.fs.length ≤ 80000; omega))
      clear b3 t3
      go_wp2_with fail
      refine WC.out.mono ?_
      rintro e w4 ⟨rfl, hb4⟩
      have T4 : Hid (Below w.heap.size w w4) := Lib.hid (T3.out.trans (hb4.mono T3.out.size))
      clear hb4 WC
      go_wp2_with fail
      go_ret
      exact ⟨rfl, T4.out⟩
set_option maxRecDepth 100000 in
theorem lifted (os : Os) (started : os.Started) (H : Type) (enc : TypeId × Value → H) :
    ReturnsInHanded {} Try.checked os 3 .any (Rows.diskPlaysSpec.pre6 enc Try.prog Try.f3 Rows.diskPlaysRow.domain false) (Rows.diskPlaysSpec.post enc Try.prog Try.f3 false true false false) := by
  refine returnsInHanded_of_change_sized (C := Try.checked) own started (by kernel_rfl) Try.func3
    (ChangeSpec.witness6 (enc := enc) (C := Try.checked) false ⟨#[], #[.slice none 0 0], []⟩ 8 (by kernel_rfl) (by kernel_rfl) (by kernel_rfl) (by kernel_rfl)) ?_
  intro W base args ds gs before hval0 hW hcnd hsz0 _
  have hsz : (DataW.weightsEach Try.prog (Try.f3.params.toList ++ Rows.diskPlaysSpec.plain.varTypes Try.prog) (ds ++ gs)).all (· ≤ reachBytes) = true := hsz0
  have hval : ∀ (j : Nat) t v, Try.f3.params[j]? = some t → args[j]? = some v → Value.okWide Try.prog W .any base t v := hval0
  have hW' := hW
  obtain ⟨p, q, hA0, hV, rfl, hfz, hnd⟩ := hW
  have hA : DataW.TrodAll enc Try.prog W 0 (fun _ => true) true Try.f3.params.toList args.toList ds p := hA0
  rw [Try.params3] at hA hval hsz
  obtain ⟨v0, vs0, d0, ds0, p0, q0, hargs, rfl, rfl, h0, r0⟩ := trodAll_cons hA
  obtain ⟨rfl, rfl, rfl⟩ := trodAll_nil r0
  obtain rfl : args = #[v0] := by cases args; simp_all
  obtain ⟨rfl, rfl⟩ := trodVars_none hV
  have h0k := h0
  have hlt0 : ∀ x ∈ p0, x.block < W.heap.size := fun x hx => by have := hW'.lt x (by simp [hx]); simpa using this
  have hb0 : ∀ y ∈ DataW.weights Try.prog 22 d0, y ≤ reachBytes := fun y hy => by
    have := List.all_eq_true.1 hsz y (DataW.weights_mem_each (j := 0) rfl rfl y hy)
    simpa using this
  obtain ⟨L0, g0⟩ := open_acts (hval 0 22 v0 rfl rfl) h0 hb0
  clear hA0 hval0
  simp only [List.append_nil] at hW'
  refine (walk v0 L0 W g0).mono fun e W' ⟨he, hg⟩ => ?_
  subst he
  exact ⟨_, rfl, _, _, _, [], _, [], hW', trodAll_cons_mk (shut_bool Try.underlying4 _) trodAll_mk0,
    (trodAll_cons_mk (Below.trod laidOut (by kernel_rfl) (of_decide_eq_true (by kernel_rfl)) h0k hg hlt0) trodAll_mk0), rfl, hg.frame _, fun h => nomatch h⟩

theorem over : Rows.diskPlaysRow.holds Try.pinned (OpenSpec.ofChange Rows.diskPlaysSpec) :=
  OpenClaim.holds_of_wide 3 Try.f3 rfl rfl rfl rfl rfl rfl rfl ⟨rfl, rfl, rfl, rfl, rfl⟩ rfl rfl rfl rfl rfl (by kernel_rfl) Try.func3 (by kernel_rfl)
    (of_decide_eq_true (by kernel_rfl)) (by unfold Func.isWrapper; first | (rw [if_pos (by decide +kernel)]; kernel_rfl) | (rw [if_neg (by decide +kernel)]; exact ⟨rfl, rfl⟩))
    (fun os started H enc _ => lifted os started H enc)

theorem proved : Rows.DiskPlaysSaid :=
  over
end Go.Proofs.Ytpnphmfpandmkaa.diskPlays
