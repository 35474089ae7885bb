/-
  HintPlays: Saving and loading do what the document says, call by call. The law returns true for every input, and the input reads as it did.
  Conditions: the tables and the errors that the row lists read as the program's text lays them (the card ties them).
-/
import Derived.Test.YtkjolaoajbdomaaGreatDoorRows
import Derived.Test.YtkjolaoajbdomaaGreatDoorCards
import Derived.Test.YtkjolaoajbdomaaGreatDoorTie
import Derived.Test.YtkjolaoajbdomaaGreatDoorHiL
import Derived.Test.YtkjolaoajbdomaaGreatDoorHiM
import Derived.Test.YtkjolaoajbdomaaGreatDoorHiI
import Derived.SevenTiedAt
import Derived.Deep.RegionHeld3
import Derived.BigRegion
import Derived.BigQuiet
namespace Go.Proofs.YtkjolaoajbdomaaGreatDoor.hintPlays
open Go.ChangeShapes Go.WideShapes Go.ChangeAt Go.RowKit Go.Joins By Ct Dk Hi
set_option linter.unusedVariables false
set_option linter.unusedSimpArgs false

set_option maxRecDepth 100000 in
set_option maxHeartbeats 64000000 in
theorem walk (v : Value) (L : List (Ah × Value)) (w : World) (G : Gt w) (A : Lh w v L) : Calls Tryz.prog 3 #[v] w fun e w' => e = .returned (.bool true) ∧ Below w.heap.size w w' := by
  obtain ⟨va, vc, rfl⟩ := A.form
  have HF := Lib.hid A
  have HG := Lib.hid G
  obtain ⟨n, hn⟩ : ∃ n, L.length = n := ⟨_, rfl⟩
  have LN := Lib.hid hn
  have nc : (n : Int) ≤ (vc : Int) := by obtain ⟨_, _, e, h1, _⟩ := A; cases e; omega
  have cm : (vc : Int) ≤ 9223372036854775807 := by obtain ⟨_, _, e, _, h1, _⟩ := A; cases e; omega
  have n0 : (0 : Int) ≤ (n : Int) := by omega
  rw [hn]
  clear A hn G
  go_enter Tryz.func3, Tryz.ntmps3
  go_wp2_with fail
  refine (awake12_c w HG.out).mono ?_
  rintro e w1 ⟨rfl, hb⟩
  have B1 := Lib.hid hb
  clear hb
  go_wp2_with fail
  refine (New_c w1).mono ?_
  rintro e w2 ⟨rfl, hp, hb⟩
  have P2 := Lib.hid hp
  have B2 := Lib.hid (bstep B1.out hb)
  have D1 : Hid (w.heap.size ≤ w1.heap.size) := Lib.hid B1.out.size
  have D2 : Hid (w1.heap.size < w2.heap.size) := Lib.hid (hp.2.2.1 _ rfl)
  clear hp hb
  go_wp2_with fail
  refine (rNew_c w2).mono ?_
  rintro e w3 ⟨rfl, hp, hb⟩
  have P3 : Hid (Bo w3 w1.heap.size w2.heap.size new (Td w1.heap.size) (Td w2.heap.size)) := Lib.hid ⟨P2.out.below hb, hp, fun k hx hy => by have a : k = w1.heap.size := hx; have b : k = w2.heap.size := hy; have := D2.out; omega⟩
  have B3 := Lib.hid (bstep B2.out hb)
  have E1 := D1.out
  have E2 := D2.out
  clear hp hb P2
  generalize w1.heap.size = d at *
  generalize w2.heap.size = m at *
  go_upto_region 6 with fail
  go_loopw [5, 6, 7, 8, 9, 10] (fun iv _ _ _ _ _ wr => ∃ (k : Nat) (s : Dk) (X Y : Nat → Prop), k ≤ n ∧ k ≤ 500 ∧ iv = .int .i64 (k : Nat) ∧ Bo wr d m s X Y ∧ s.fs.length ≤ 3 * k ∧ (∀ j, X j → w.heap.size ≤ j) ∧ (∀ j, Y j → w.heap.size ≤ j) ∧ Below w.heap.size w wr) (fun iv _ _ _ _ _ _ => n - (intOf iv).toNat)
  case atStart => exact ⟨0, new, Td d, Td m, Nat.zero_le _, Nat.zero_le _, rfl, P3.out, Nat.zero_le _, fun j q => by have z : j = d := q; omega, fun j q => by have z : j = m := q; omega, B3.out⟩
  case round =>
    obtain ⟨k, s, X, Y, hk, hk2, rfl, ho, hs, hx0, hy0, hb⟩ := hrel
    rename World => wr
    have HO := Lib.hid ho
    have HB := Lib.hid hb
    have XL := Lib.hid hx0
    have YL := Lib.hid hy0
    clear ho hb P3 B3 B2
    by_cases c : k < n
    · have e1 : decide ((k : Int) < (n : Int)) = true := decide_eq_true (by omega)
      by_cases c2 : k < 500
      · have e2 : decide ((k : Int) < 500) = true := decide_eq_true (by omega)
        have i1 : (k : Int) < (n : Int) := by omega
        have i0 : (0 : Int) ≤ (k : Int) := by omega
        obtain ⟨x, hx⟩ : ∃ x, L[k]? = some x := ⟨_, List.getElem?_eq_getElem (by rw [LN.out]; exact c)⟩
        have hS0 : Sl w x.2 x.1.dat := by obtain ⟨_, _, _, _, _, _, q⟩ := lh_at HF.out hx; exact q
        obtain ⟨b, off, rfl, hbb, rg, hbd, hS⟩ := lh_at (HF.out.below HB.out) hx
        obtain ⟨x, dv⟩ := x
        simp only at rg hS hS0 hbd
        obtain ⟨fa, fc, ef⟩ := hS.form
        subst ef
        have RG := Lib.hid rg
        have HX := Lib.hid hbd
        have HV : Hid (0 < x.dat.length → ∀ g, (Value.slice fa x.dat.length fc).ownBlock = some g → ¬ X g ∧ ¬ Y g) := Lib.hid (fun h0 g hg => ⟨fun q => by have := hx0 g q; have := sl_lt hS0 h0 g hg; omega, fun q => by have := hy0 g q; have := sl_lt hS0 h0 g hg; omega⟩)
        have B8 := Lib.hid (balloc (brefl wr) (.cells #[.int .i64 x.k, .int .i64 x.f, .int .i64 x.n, .int .i64 x.p, .string x.a, .slice fa x.dat.length fc] 30))
        have N8 : Hid (Blk (wr.alloc (.cells #[.int .i64 x.k, .int .i64 x.f, .int .i64 x.n, .int .i64 x.p, .string x.a, .slice fa x.dat.length fc] 30)) wr.heap.size (ahs x (.slice fa x.dat.length fc))) := Lib.hid (Blk.new' wr #[.int .i64 x.k, .int .i64 x.f, .int .i64 x.n, .int .i64 x.p, .string x.a, .slice fa x.dat.length fc] 30)
        have NX : Hid (¬ X wr.heap.size) := Lib.hid (fun q => by have := HO.out.1.2.2.1 _ q; omega)
        have NY : Hid (¬ Y wr.heap.size) := Lib.hid (fun q => by have := HO.out.2.1.2.2.1 _ q; omega)
        have S8 := Lib.hid hS
        clear rg hS hS0 hbd hx hx0 hy0
        go_upto_region 8 with fail
        go_upto_region 9 with ((refine wpList_load_mid rfl 30 _ rfl _ _ rfl [.int .i64 x.k, .int .i64 x.f, .int .i64 x.n, .int .i64 x.p, .string x.a, .slice fa x.dat.length fc] _ RG.out Tryz.underlying30 rfl (by exact info_hact) ?_))
        generalize wr.alloc (.cells #[.int .i64 x.k, .int .i64 x.f, .int .i64 x.n, .int .i64 x.p, .string x.a, .slice fa x.dat.length fc] 30) = wa at *
        have HA := Lib.hid (HO.out.below B8.out)
        have BA := Lib.hid (bstep HB.out B8.out)
        have SD := Lib.hid (S8.out.below B8.out)
        have NA := N8
        generalize wr.heap.size = g0 at *
        clear N8 S8 B8 HO HB RG
        obtain ⟨r, hr, IN⟩ := into_f x.k 6 HX.out.1.1 HX.out.1.2 (by decide) (by decide)
        have c0 := (NA.out.2 0 _ rfl).1
        go_wp2_with fail
        refine (IN wa).mono ?_
        rintro e w' ⟨rfl, hw⟩
        subst hw
        rename World => wa
        clear c0 IN
        have r6 : r = 0 ∨ r = 1 ∨ r = 2 ∨ r = 3 ∨ r = 4 ∨ r = 5 := by omega
        clear hr
        rcases r6 with rfl | rfl | rfl | rfl | rfl | rfl
        · have C1 := Lib.hid (fun z (q : Below wa.heap.size wa z) => Save_c (n := x.f) (HG.out.below (bstep BA.out q)) (HA.out.1.below q) (by omega))
          have C2 := Lib.hid (fun z (p : Pt wa z d X (saveS s x.f)) => rSave_c (n := x.f) (X := Y) (d := m) (s := s) (w := z) (by obtain ⟨_, _, _, ht⟩ := p; exact HA.out.2.1.tu ht HA.out.2.2) (by omega))
          have L3 := Lib.hid (save_len s x.f)
          generalize saveE s x.f = es at *
          generalize saveS s x.f = ss at *
          go_upto_region 13 with fail
          refine wp_region_held_drew (S := fun w' => Blk w' g0 (ahs x (.slice fa x.dat.length fc))) (by kernel_rfl) (NA.out.below (brefl wa).drew) (fun hHeld => ?_)
          refine wpAnyH_take (i := 0) (v := ?_) rfl (by kernel_rfl) (by kernel_rfl) (by kernel_rfl) (fun _ _ _ h => h) (Or.inl ⟨by rfl, ?_⟩) hHeld ?_
          rotate_left
          · ((intro w _; go_simp); try with_reducible rfl)
          (try simp only [List.getElem_toArray, List.getElem_cons_succ, List.getElem_cons_zero, Act.put, List.setIfInBounds_toArray, List.set_cons_zero, List.set_cons_succ])
          refine wpAnyH_take (i := 1) (v := ?_) rfl (by kernel_rfl) (by kernel_rfl) (by kernel_rfl) (fun _ _ _ h => h) (Or.inl ⟨by rfl, ?_⟩) hHeld ?_
          rotate_left
          · ((intro w _; go_simp); try with_reducible rfl)
          (try simp only [List.getElem_toArray, List.getElem_cons_succ, List.getElem_cons_zero, Act.put, List.setIfInBounds_toArray, List.set_cons_zero, List.set_cons_succ])
          refine wpAnyH_take (i := 2) (v := ?_) rfl (by kernel_rfl) (by kernel_rfl) (by kernel_rfl) (fun _ _ _ h => h) (Or.inl ⟨by rfl, ?_⟩) hHeld ?_
          rotate_left
          · (intro w hSw; have c1 := (hSw.2 1 _ rfl).1; go_simp; try with_reducible rfl)
          (try simp only [List.getElem_toArray, List.getElem_cons_succ, List.getElem_cons_zero, Act.put, List.setIfInBounds_toArray, List.set_cons_zero, List.set_cons_succ])
          refine wpAnyH_take (i := 4) (v := ?_) rfl (by kernel_rfl) (by kernel_rfl) (by kernel_rfl) (fun _ _ _ h => h) (Or.inl ⟨by rfl, ?_⟩) hHeld ?_
          rotate_left
          · ((intro w _; go_simp); try with_reducible rfl)
          (try simp only [List.getElem_toArray, List.getElem_cons_succ, List.getElem_cons_zero, Act.put, List.setIfInBounds_toArray, List.set_cons_zero, List.set_cons_succ])
          refine wpAnyH_take (i := 5) (v := ?_) rfl (by kernel_rfl) (by kernel_rfl) (by kernel_rfl) (fun _ _ _ h => h) (Or.inl ⟨by rfl, ?_⟩) hHeld ?_
          rotate_left
          · ((intro w _; go_simp); try with_reducible rfl)
          (try simp only [List.getElem_toArray, List.getElem_cons_succ, List.getElem_cons_zero, Act.put, List.setIfInBounds_toArray, List.set_cons_zero, List.set_cons_succ])
          refine wpAnyH_take (i := 6) (v := ?_) rfl (by kernel_rfl) (by kernel_rfl) (by kernel_rfl) (fun _ _ _ h => h) (Or.inl ⟨by rfl, ?_⟩) hHeld ?_
          rotate_left
          · (intro w hSw; have c1 := (hSw.2 1 _ rfl).1; go_simp; try with_reducible rfl)
          (try simp only [List.getElem_toArray, List.getElem_cons_succ, List.getElem_cons_zero, Act.put, List.setIfInBounds_toArray, List.set_cons_zero, List.set_cons_succ])
          refine wpAnyH_ready (rs := [3]) (by kernel_rfl) (by simp) (AllReadyH.cons rfl (fun KQ hKQ => ?_) AllReadyH.nil)
          go_simp
          refine (C1.out _ (brefl wa).drew).mono ?_
          rintro e w' ⟨rfl, hp⟩
          have PP := Lib.hid (pt_ahead (brefl wa).drew hp)
          have hNext := blk_pt (NA.out.below (brefl wa).drew) hp NX.out
          clear hp
          go_wp2_with fail
          refine hKQ.out _ _ hNext (fun hH2 => ?_)
          clear hKQ KQ hHeld hNext
          have hHeld := hH2
          clear hH2
          (try simp only [List.getElem_toArray, List.getElem_cons_succ, List.getElem_cons_zero, Act.put, List.setIfInBounds_toArray, List.set_cons_zero, List.set_cons_succ])
          refine wpAnyH_ready (rs := [7]) (by kernel_rfl) (by simp) (AllReadyH.cons rfl (fun KQ hKQ => ?_) AllReadyH.nil)
          go_simp
          refine (C2.out _ PP.out).mono ?_
          rintro e w' ⟨rfl, hp⟩
          have QQ := Lib.hid (bt_of HA.out PP.out (fun _ => hp))
          have hNext := blk_rt hHeld hp NY.out
          clear hp
          go_wp2_with fail
          refine hKQ.out _ _ hNext (fun hH2 => ?_)
          clear hKQ KQ hHeld hNext
          have hHeld := hH2
          clear hH2
          (try simp only [List.getElem_toArray, List.getElem_cons_succ, List.getElem_cons_zero, Act.put, List.setIfInBounds_toArray, List.set_cons_zero, List.set_cons_succ])
          refine wpAnyH_take (i := 8) (v := ?_) rfl (by kernel_rfl) (by kernel_rfl) (by kernel_rfl) (fun _ _ _ h => h) (Or.inl ⟨by rfl, ?_⟩) hHeld ?_
          rotate_left
          · ((intro w _; go_simp); try with_reducible rfl)
          (try simp only [List.getElem_toArray, List.getElem_cons_succ, List.getElem_cons_zero, Act.put, List.setIfInBounds_toArray, List.set_cons_zero, List.set_cons_succ])
          refine wpAnyH_done (by kernel_rfl) ?_ _
          rename World => w5
          obtain ⟨X', Y', ho', hx', hy', ht'⟩ := QQ.out
          have HO' := Lib.hid ho'
          have LE : Hid ((ss).fs.length ≤ 3 * (k + 1)) := Lib.hid (by have := L3.out; omega)
          have XL' : Hid (∀ j, X' j → w.heap.size ≤ j) := Lib.hid fun j q => (hx' j q).elim (XL.out j) (fun z => Nat.le_trans BA.out.size z)
          have YL' : Hid (∀ j, Y' j → w.heap.size ≤ j) := Lib.hid fun j q => (hy' j q).elim (YL.out j) (fun z => Nat.le_trans BA.out.size z)
          have T4 : Hid (Below w.heap.size w w5) := Lib.hid (BA.out.trans (ht'.below (fun i hi => hi.elim (XL.out i) (YL.out i)) BA.out.size))
          clear ho' hx' hy' ht' QQ
          go_wp2_with fail
          exact ⟨⟨k + 1, _, X', Y', by omega, by omega, by go_num, HO'.out, LE.out, XL'.out, YL'.out, T4.out⟩, by simp [intOf]; omega⟩
        · have C1 := Lib.hid (Load_c (HG.out.below BA.out) HA.out.1)
          have C2 := Lib.hid (fun z (q : Below wa.heap.size wa z) => rLoad_c (HA.out.2.1.below q) (by omega))
          go_wp2_with fail
          refine C1.out.mono ?_
          rintro e w4 ⟨rfl, hb⟩
          have B4 := Lib.hid hb
          clear hb C1
          go_wp2_with fail
          refine (C2.out w4 B4.out).mono ?_
          rintro e w5 ⟨rfl, hb⟩
          have QQ := Lib.hid (Bt.same HA.out (bstep B4.out hb))
          clear hb C2
          obtain ⟨X', Y', ho', hx', hy', ht'⟩ := QQ.out
          have HO' := Lib.hid ho'
          have LE : Hid ((s).fs.length ≤ 3 * (k + 1)) := Lib.hid (by omega)
          have XL' : Hid (∀ j, X' j → w.heap.size ≤ j) := Lib.hid fun j q => (hx' j q).elim (XL.out j) (fun z => Nat.le_trans BA.out.size z)
          have YL' : Hid (∀ j, Y' j → w.heap.size ≤ j) := Lib.hid fun j q => (hy' j q).elim (YL.out j) (fun z => Nat.le_trans BA.out.size z)
          have T4 : Hid (Below w.heap.size w w5) := Lib.hid (BA.out.trans (ht'.below (fun i hi => hi.elim (XL.out i) (YL.out i)) BA.out.size))
          clear ho' hx' hy' ht' QQ
          go_wp2_with fail
          exact ⟨⟨k + 1, _, X', Y', by omega, by omega, by go_num, HO'.out, LE.out, XL'.out, YL'.out, T4.out⟩, by simp [intOf]; omega⟩
        · have c2 := (NA.out.2 2 _ rfl).1
          have c3 := (NA.out.2 3 _ rfl).1
          have C1 := Lib.hid (Cut_c HA.out.1 x.n x.p HX.out.2.2.1.2 HX.out.2.2.2.1.1 HX.out.2.2.2.1.2)
          go_wp2_with fail
          refine C1.out.mono ?_
          rintro e w4 ⟨rfl, q2, q3⟩
          have PP := Lib.hid (pt_td q2 q3)
          clear q2 q3 C1 c2 c3
          have NB := blk_pt NA.out PP.out NX.out
          have c2 := (NB.2 2 _ rfl).1
          have c3 := (NB.2 3 _ rfl).1
          have RM : Hid (Rm w4 m s Y) := Lib.hid (by obtain ⟨_, _, _, ht⟩ := PP.out; exact HA.out.2.1.tu ht HA.out.2.2)
          have C2 := Lib.hid (rCut_c RM.out x.n x.p HX.out.2.2.1.2 HX.out.2.2.2.1.1 HX.out.2.2.2.1.2)
          clear NB
          go_wp2_with fail
          refine C2.out.mono ?_
          rintro e w5 ⟨rfl, q2, q3⟩
          have QQ := Lib.hid (bt_of HA.out PP.out (fun _ => rt_td q2 q3))
          clear q2 q3 C2 RM
          obtain ⟨X', Y', ho', hx', hy', ht'⟩ := QQ.out
          have HO' := Lib.hid ho'
          have LE : Hid ((cutS s x.n x.p).fs.length ≤ 3 * (k + 1)) := Lib.hid (by rw [len_cut]; omega)
          have XL' : Hid (∀ j, X' j → w.heap.size ≤ j) := Lib.hid fun j q => (hx' j q).elim (XL.out j) (fun z => Nat.le_trans BA.out.size z)
          have YL' : Hid (∀ j, Y' j → w.heap.size ≤ j) := Lib.hid fun j q => (hy' j q).elim (YL.out j) (fun z => Nat.le_trans BA.out.size z)
          have T4 : Hid (Below w.heap.size w w5) := Lib.hid (BA.out.trans (ht'.below (fun i hi => hi.elim (XL.out i) (YL.out i)) BA.out.size))
          clear ho' hx' hy' ht' QQ
          go_wp2_with fail
          exact ⟨⟨k + 1, _, X', Y', by omega, by omega, by go_num, HO'.out, LE.out, XL'.out, YL'.out, T4.out⟩, by simp [intOf]; omega⟩
        · have C1 := Lib.hid (Restart_c HA.out.1)
          go_wp2_with fail
          refine C1.out.mono ?_
          rintro e w4 ⟨rfl, q2, q3⟩
          have PP := Lib.hid (pt_td q2 q3)
          clear q2 q3 C1
          have RM : Hid (Rm w4 m s Y) := Lib.hid (by obtain ⟨_, _, _, ht⟩ := PP.out; exact HA.out.2.1.tu ht HA.out.2.2)
          have C2 := Lib.hid (rRestart_c RM.out)
          go_wp2_with fail
          refine C2.out.mono ?_
          rintro e w5 ⟨rfl, q2, q3⟩
          have QQ := Lib.hid (bt_of HA.out PP.out (fun _ => rt_td q2 q3))
          clear q2 q3 C2 RM
          obtain ⟨X', Y', ho', hx', hy', ht'⟩ := QQ.out
          have HO' := Lib.hid ho'
          have LE : Hid ((restart s).fs.length ≤ 3 * (k + 1)) := Lib.hid (by show s.fs.length ≤ _; omega)
          have XL' : Hid (∀ j, X' j → w.heap.size ≤ j) := Lib.hid fun j q => (hx' j q).elim (XL.out j) (fun z => Nat.le_trans BA.out.size z)
          have YL' : Hid (∀ j, Y' j → w.heap.size ≤ j) := Lib.hid fun j q => (hy' j q).elim (YL.out j) (fun z => Nat.le_trans BA.out.size z)
          have T4 : Hid (Below w.heap.size w w5) := Lib.hid (BA.out.trans (ht'.below (fun i hi => hi.elim (XL.out i) (YL.out i)) BA.out.size))
          clear ho' hx' hy' ht' QQ
          go_wp2_with fail
          exact ⟨⟨k + 1, _, X', Y', by omega, by omega, by go_num, HO'.out, LE.out, XL'.out, YL'.out, T4.out⟩, by simp [intOf]; omega⟩
        · have c4 := (NA.out.2 4 _ rfl).1
          have c5 := (NA.out.2 5 _ rfl).1
          have C1 := Lib.hid (Write_c (nm := x.a) (v := .slice fa x.dat.length fc) (l := x.dat) HA.out.1 (by omega) SD.out (fun h0 q => (HV.out h0 d q).1 HA.out.1.2.1))
          go_wp2_with fail
          refine C1.out.mono ?_
          rintro e w4 ⟨rfl, hp⟩
          have PP := Lib.hid hp
          clear hp C1 c4 c5
          have NB := blk_pt NA.out PP.out NX.out
          have c4 := (NB.2 4 _ rfl).1
          have c5 := (NB.2 5 _ rfl).1
          have RM : Hid (Rm w4 m s Y) := Lib.hid (by obtain ⟨_, _, _, ht⟩ := PP.out; exact HA.out.2.1.tu ht HA.out.2.2)
          have C2 := Lib.hid (rWrite_c (nm := x.a) (v := .slice fa x.dat.length fc) (l := x.dat) RM.out (by omega) HX.out.2.2.2.2 (by obtain ⟨_, _, _, ht⟩ := PP.out; exact sl_keep SD.out (fun z hz hl h0 => ht.block z hl (fun q => (HV.out h0 z hz).1 q)) ht.size) (fun h0 q => (HV.out h0 m q).2 HA.out.2.1.2.1))
          clear NB
          go_wp2_with fail
          refine C2.out.mono ?_
          rintro e w5 ⟨rfl, hp⟩
          have QQ := Lib.hid (bt_of HA.out PP.out (fun _ => hp))
          clear hp C2 RM
          obtain ⟨X', Y', ho', hx', hy', ht'⟩ := QQ.out
          have HO' := Lib.hid ho'
          have LE : Hid ((writeS s x.a.data.toList x.dat).fs.length ≤ 3 * (k + 1)) := Lib.hid (by have := len_write s x.a.data.toList x.dat; omega)
          have XL' : Hid (∀ j, X' j → w.heap.size ≤ j) := Lib.hid fun j q => (hx' j q).elim (XL.out j) (fun z => Nat.le_trans BA.out.size z)
          have YL' : Hid (∀ j, Y' j → w.heap.size ≤ j) := Lib.hid fun j q => (hy' j q).elim (YL.out j) (fun z => Nat.le_trans BA.out.size z)
          have T4 : Hid (Below w.heap.size w w5) := Lib.hid (BA.out.trans (ht'.below (fun i hi => hi.elim (XL.out i) (YL.out i)) BA.out.size))
          clear ho' hx' hy' ht' QQ
          go_wp2_with fail
          exact ⟨⟨k + 1, _, X', Y', by omega, by omega, by go_num, HO'.out, LE.out, XL'.out, YL'.out, T4.out⟩, by simp [intOf]; omega⟩
        · have c4 := (NA.out.2 4 _ rfl).1
          have C1 := Lib.hid (Remove_c (nm := x.a) HA.out.1)
          go_wp2_with fail
          refine C1.out.mono ?_
          rintro e w4 ⟨rfl, hp⟩
          have PP := Lib.hid hp
          clear hp C1 c4
          have NB := blk_pt NA.out PP.out NX.out
          have c4 := (NB.2 4 _ rfl).1
          have RM : Hid (Rm w4 m s Y) := Lib.hid (by obtain ⟨_, _, _, ht⟩ := PP.out; exact HA.out.2.1.tu ht HA.out.2.2)
          have C2 := Lib.hid (rRemove_c (nm := x.a) RM.out (by omega) HX.out.2.2.2.2)
          clear NB
          go_wp2_with fail
          refine C2.out.mono ?_
          rintro e w5 ⟨rfl, hp⟩
          have QQ := Lib.hid (bt_of HA.out PP.out (fun _ => hp))
          clear hp C2 RM
          obtain ⟨X', Y', ho', hx', hy', ht'⟩ := QQ.out
          have HO' := Lib.hid ho'
          have LE : Hid ((removeS s x.a.data.toList).fs.length ≤ 3 * (k + 1)) := Lib.hid (by have := len_remove s x.a.data.toList; omega)
          have XL' : Hid (∀ j, X' j → w.heap.size ≤ j) := Lib.hid fun j q => (hx' j q).elim (XL.out j) (fun z => Nat.le_trans BA.out.size z)
          have YL' : Hid (∀ j, Y' j → w.heap.size ≤ j) := Lib.hid fun j q => (hy' j q).elim (YL.out j) (fun z => Nat.le_trans BA.out.size z)
          have T4 : Hid (Below w.heap.size w w5) := Lib.hid (BA.out.trans (ht'.below (fun i hi => hi.elim (XL.out i) (YL.out i)) BA.out.size))
          clear ho' hx' hy' ht' QQ
          go_wp2_with fail
          exact ⟨⟨k + 1, _, X', Y', by omega, by omega, by go_num, HO'.out, LE.out, XL'.out, YL'.out, T4.out⟩, by simp [intOf]; omega⟩
      · have e2 : decide ((k : Int) < 500) = false := decide_eq_false (by omega)
        clear hk hx0 hy0
        go_wp2_with fail
        refine (Restart_c HO.out.1).mono ?_
        rintro e w2 ⟨rfl, q2, q3⟩
        have PP := Lib.hid (pt_td q2 q3)
        have C2 := Lib.hid (rRestart_c (s := s) (X := Y) (by obtain ⟨_, _, _, ht⟩ := PP.out; exact HO.out.2.1.tu ht HO.out.2.2))
        clear q2 q3
        go_wp2_with fail
        refine C2.out.mono ?_
        rintro e w3 ⟨rfl, q2, q3⟩
        have QQ := Lib.hid (bt_of HO.out PP.out (fun _ => rt_td q2 q3))
        clear q2 q3 C2 PP
        obtain ⟨X3, Y3, b3, _, _, t3⟩ := QQ.out
        have T3 : Hid (Below w.heap.size w w3) := Lib.hid (HB.out.trans (t3.below (fun i hi => hi.elim (XL.out i) (YL.out i)) HB.out.size))
        have H3 := Lib.hid b3
        have HL : Hid ((restart s).fs.length ≤ 80000) := Lib.hid (by show s.fs.length ≤ 80000; omega)
        clear b3 t3 QQ hs
        generalize restart s = s3 at *
        have K1 := Lib.hid (Names_c H3.out.1 (by have := HL.out; omega))
        have WF := Lib.hid H3.out.1.1
        obtain ⟨p, hp⟩ : ∃ p, (names s3).length = p := ⟨_, rfl⟩
        have HN := Lib.hid hp
        have p1 : (p : Int) ≤ 80000 := by have := names_len s3; have := HL.out; omega
        have p0 : (0 : Int) ≤ (p : Int) := by omega
        clear hp
        go_wp2_with fail
        refine K1.out.mono ?_
        rintro e y1 ⟨v1, rfl, o1, hb1⟩
        have O1 := Lib.hid o1
        have B1 := Lib.hid hb1
        obtain ⟨a1, c1, rfl⟩ := ownS_form o1
        rw [HN.out] at O1 ⊢
        have K2 := Lib.hid (rNames_c (H3.out.2.1.below hb1) (by have := HL.out; omega))
        clear K1 o1 hb1
        go_wp2_with fail
        refine K2.out.mono ?_
        rintro e y2 ⟨v2, rfl, o2, hb2⟩
        have O2 := Lib.hid o2
        have P1 := Lib.hid (row_below O1.out hb2 : OwnS y2 w3.heap.size _ (names s3))
        have B2 := Lib.hid (bstep B1.out hb2)
        obtain ⟨a2, c2, rfl⟩ := ownS_form o2
        rw [HN.out] at O2 ⊢
        clear K2 o2 hb2 O1 B1
        go_upto_region 36 with fail
        go_loopw [13, 14, 15, 16, 17] (fun iv _ _ _ _ wr => ∃ i : Nat, i ≤ p ∧ iv = .int .i64 (i : Nat) ∧ Below y2.heap.size y2 wr) (fun iv _ _ _ _ _ => p - (intOf iv).toNat)
        case atStart => exact ⟨0, Nat.zero_le _, rfl, brefl y2⟩
        case round =>
          obtain ⟨i, hi, rfl, hb⟩ := hrel
          rename World => wr
          have HB3 := Lib.hid hb
          clear hb
          by_cases c : i < p
          · have e1 : decide ((i : Int) < (p : Int)) = true := decide_eq_true (by omega)
            have i1 : (i : Int) < (p : Int) := by omega
            have i0 : (0 : Int) ≤ (i : Int) := by omega
            obtain ⟨x, hx⟩ : ∃ x, (names s3)[i]? = some x := ⟨_, List.getElem?_eq_getElem (by rw [HN.out]; exact c)⟩
            have Q1 := row_below P1.out HB3.out
            have Q2 := row_below O2.out HB3.out
            rw [← HN.out] at Q1 Q2
            obtain ⟨g1, d1, q1, _, l1, r1, t1, k1⟩ := ownS_at (Q1 : OwnS wr w3.heap.size _ (names s3)) (by rw [HN.out]; omega)
            obtain ⟨g2, d2, q2, _, l2, r2, t2, k2⟩ := ownS_at (Q2 : OwnS wr y1.heap.size _ (names s3)) (by rw [HN.out]; omega)
            cases q1
            cases q2
            rw [HN.out] at r1 r2
            have z1 := (k1 i x hx).1
            have z2 := (k2 i x hx).1
            have s1 : (p : Int) ≤ (c1 : Int) := by omega
            have s2 : (c1 : Int) ≤ 9223372036854775807 := by unfold maxLen at t1; omega
            have s4 : (p : Int) ≤ (c2 : Int) := by omega
            have s5 : (c2 : Int) ≤ 9223372036854775807 := by unfold maxLen at t2; omega
            have L1 := Lib.hid l1
            have L2 := Lib.hid l2
            have BW := Lib.hid (bstep B2.out HB3.out)
            have HM := H3.out.below BW.out
            have R1 := Lib.hid (Read_c (nm := st x) HM.1)
            have OX : Hid (okN x = true) := Lib.hid (names_ok WF.out x (List.mem_of_getElem? hx)).1
            have SZ : Hid ((st x).size ≤ 9223372036854775807) := Lib.hid (by have := (okN_le OX.out).2; show x.toArray.size ≤ _; rw [List.size_toArray]; omega)
            have R2 : Hid (∀ z, Below wr.heap.size wr z → Calls Tryz.prog 23 #[.pointer (some ⟨m, 0, none⟩), .string (st x)] z fun e w' => e = .returned (.tuple #[.string (bs8 (readD s3 (st x).data.toList)), .int .i64 (readE s3 (st x).data.toList)]) ∧ w' = z) := Lib.hid (fun z q => rRead_c (HM.2.1.below q) (by have := HL.out; omega) SZ.out)
            have DB : Hid (∀ y ∈ readD s3 (st x).data.toList, y < 256) := Lib.hid (read_wf WF.out _).1
            generalize readD s3 (st x).data.toList = dt at *
            generalize readE s3 (st x).data.toList = er at *
            clear hx Q1 Q2 k1 k2 l1 l2 r1 r2 t1 t2 HM
            go_upto_region 38 with fail
            go_wp2_with fail
            refine R1.out.mono ?_
            rintro e y3 ⟨u, rfl, ou, hb3⟩
            have OU := Lib.hid ou
            have B3 := Lib.hid hb3
            have x1 := (hb3.cell (p := ⟨g1, i, none⟩) L1.out).trans z1
            have x2 := (hb3.cell (p := ⟨g2, i, none⟩) L2.out).trans z2
            obtain ⟨ua, uc, rfl⟩ := own_form ou
            clear R1 ou hb3 z1 z2
            go_wp2_with fail
            refine (R2.out _ B3.out).mono ?_
            rintro e y4 ⟨rfl, hw⟩
            subst hw
            have CV : ∀ j, (convert 28 9 (.slice ua dt.length uc)).run Tryz.prog (y4.drewN j) = .ok (.string (bs8 dt)) (y4.drewN j) := fun j => own_str8 OU.out DB.out (bdrew (brefl _) j)
            generalize bs8 dt = SB at *
            generalize dt.length = dl at *
            generalize st x = sx at *
            clear R2 OU
            go_upto_region 40 with fail
            go_quiet (fail)
            go_wp2_with fail
            exact ⟨⟨i + 1, by omega, by go_num, bdrew (bstep HB3.out B3.out) _⟩, by simp [intOf]; omega⟩
          · have e1 : decide ((i : Int) < (p : Int)) = false := decide_eq_false (by omega)
            go_wp2_with fail
            go_ret
            exact ⟨rfl, T3.out.trans ((bstep B2.out HB3.out).mono T3.out.size)⟩
    · have e1 : decide ((k : Int) < (n : Int)) = false := decide_eq_false (by omega)
      clear hk hx0 hy0
      go_wp2_with fail
      refine (Restart_c HO.out.1).mono ?_
      rintro e w2 ⟨rfl, q2, q3⟩
      have PP := Lib.hid (pt_td q2 q3)
      have C2 := Lib.hid (rRestart_c (s := s) (X := Y) (by obtain ⟨_, _, _, ht⟩ := PP.out; exact HO.out.2.1.tu ht HO.out.2.2))
      clear q2 q3
      go_wp2_with fail
      refine C2.out.mono ?_
      rintro e w3 ⟨rfl, q2, q3⟩
      have QQ := Lib.hid (bt_of HO.out PP.out (fun _ => rt_td q2 q3))
      clear q2 q3 C2 PP
      obtain ⟨X3, Y3, b3, _, _, t3⟩ := QQ.out
      have T3 : Hid (Below w.heap.size w w3) := Lib.hid (HB.out.trans (t3.below (fun i hi => hi.elim (XL.out i) (YL.out i)) HB.out.size))
      have H3 := Lib.hid b3
      have HL : Hid ((restart s).fs.length ≤ 80000) := Lib.hid (by show s.fs.length ≤ 80000; omega)
      clear b3 t3 QQ hs
      generalize restart s = s3 at *
      have K1 := Lib.hid (Names_c H3.out.1 (by have := HL.out; omega))
      have WF := Lib.hid H3.out.1.1
      obtain ⟨p, hp⟩ : ∃ p, (names s3).length = p := ⟨_, rfl⟩
      have HN := Lib.hid hp
      have p1 : (p : Int) ≤ 80000 := by have := names_len s3; have := HL.out; omega
      have p0 : (0 : Int) ≤ (p : Int) := by omega
      clear hp
      go_wp2_with fail
      refine K1.out.mono ?_
      rintro e y1 ⟨v1, rfl, o1, hb1⟩
      have O1 := Lib.hid o1
      have B1 := Lib.hid hb1
      obtain ⟨a1, c1, rfl⟩ := ownS_form o1
      rw [HN.out] at O1 ⊢
      have K2 := Lib.hid (rNames_c (H3.out.2.1.below hb1) (by have := HL.out; omega))
      clear K1 o1 hb1
      go_wp2_with fail
      refine K2.out.mono ?_
      rintro e y2 ⟨v2, rfl, o2, hb2⟩
      have O2 := Lib.hid o2
      have P1 := Lib.hid (row_below O1.out hb2 : OwnS y2 w3.heap.size _ (names s3))
      have B2 := Lib.hid (bstep B1.out hb2)
      obtain ⟨a2, c2, rfl⟩ := ownS_form o2
      rw [HN.out] at O2 ⊢
      clear K2 o2 hb2 O1 B1
      go_upto_region 36 with fail
      go_loopw [13, 14, 15, 16, 17] (fun iv _ _ _ _ wr => ∃ i : Nat, i ≤ p ∧ iv = .int .i64 (i : Nat) ∧ Below y2.heap.size y2 wr) (fun iv _ _ _ _ _ => p - (intOf iv).toNat)
      case atStart => exact ⟨0, Nat.zero_le _, rfl, brefl y2⟩
      case round =>
        obtain ⟨i, hi, rfl, hb⟩ := hrel
        rename World => wr
        have HB3 := Lib.hid hb
        clear hb
        by_cases c : i < p
        · have e1 : decide ((i : Int) < (p : Int)) = true := decide_eq_true (by omega)
          have i1 : (i : Int) < (p : Int) := by omega
          have i0 : (0 : Int) ≤ (i : Int) := by omega
          obtain ⟨x, hx⟩ : ∃ x, (names s3)[i]? = some x := ⟨_, List.getElem?_eq_getElem (by rw [HN.out]; exact c)⟩
          have Q1 := row_below P1.out HB3.out
          have Q2 := row_below O2.out HB3.out
          rw [← HN.out] at Q1 Q2
          obtain ⟨g1, d1, q1, _, l1, r1, t1, k1⟩ := ownS_at (Q1 : OwnS wr w3.heap.size _ (names s3)) (by rw [HN.out]; omega)
          obtain ⟨g2, d2, q2, _, l2, r2, t2, k2⟩ := ownS_at (Q2 : OwnS wr y1.heap.size _ (names s3)) (by rw [HN.out]; omega)
          cases q1
          cases q2
          rw [HN.out] at r1 r2
          have z1 := (k1 i x hx).1
          have z2 := (k2 i x hx).1
          have s1 : (p : Int) ≤ (c1 : Int) := by omega
          have s2 : (c1 : Int) ≤ 9223372036854775807 := by unfold maxLen at t1; omega
          have s4 : (p : Int) ≤ (c2 : Int) := by omega
          have s5 : (c2 : Int) ≤ 9223372036854775807 := by unfold maxLen at t2; omega
          have L1 := Lib.hid l1
          have L2 := Lib.hid l2
          have BW := Lib.hid (bstep B2.out HB3.out)
          have HM := H3.out.below BW.out
          have R1 := Lib.hid (Read_c (nm := st x) HM.1)
          have OX : Hid (okN x = true) := Lib.hid (names_ok WF.out x (List.mem_of_getElem? hx)).1
          have SZ : Hid ((st x).size ≤ 9223372036854775807) := Lib.hid (by have := (okN_le OX.out).2; show x.toArray.size ≤ _; rw [List.size_toArray]; omega)
          have R2 : Hid (∀ z, Below wr.heap.size wr z → Calls Tryz.prog 23 #[.pointer (some ⟨m, 0, none⟩), .string (st x)] z fun e w' => e = .returned (.tuple #[.string (bs8 (readD s3 (st x).data.toList)), .int .i64 (readE s3 (st x).data.toList)]) ∧ w' = z) := Lib.hid (fun z q => rRead_c (HM.2.1.below q) (by have := HL.out; omega) SZ.out)
          have DB : Hid (∀ y ∈ readD s3 (st x).data.toList, y < 256) := Lib.hid (read_wf WF.out _).1
          generalize readD s3 (st x).data.toList = dt at *
          generalize readE s3 (st x).data.toList = er at *
          clear hx Q1 Q2 k1 k2 l1 l2 r1 r2 t1 t2 HM
          go_upto_region 38 with fail
          go_wp2_with fail
          refine R1.out.mono ?_
          rintro e y3 ⟨u, rfl, ou, hb3⟩
          have OU := Lib.hid ou
          have B3 := Lib.hid hb3
          have x1 := (hb3.cell (p := ⟨g1, i, none⟩) L1.out).trans z1
          have x2 := (hb3.cell (p := ⟨g2, i, none⟩) L2.out).trans z2
          obtain ⟨ua, uc, rfl⟩ := own_form ou
          clear R1 ou hb3 z1 z2
          go_wp2_with fail
          refine (R2.out _ B3.out).mono ?_
          rintro e y4 ⟨rfl, hw⟩
          subst hw
          have CV : ∀ j, (convert 28 9 (.slice ua dt.length uc)).run Tryz.prog (y4.drewN j) = .ok (.string (bs8 dt)) (y4.drewN j) := fun j => own_str8 OU.out DB.out (bdrew (brefl _) j)
          generalize bs8 dt = SB at *
          generalize dt.length = dl at *
          generalize st x = sx at *
          clear R2 OU
          go_upto_region 40 with fail
          go_quiet (fail)
          go_wp2_with fail
          exact ⟨⟨i + 1, by omega, by go_num, bdrew (bstep HB3.out B3.out) _⟩, by simp [intOf]; omega⟩
        · have e1 : decide ((i : Int) < (p : Int)) = false := decide_eq_false (by omega)
          go_wp2_with fail
          go_ret
          exact ⟨rfl, T3.out.trans ((bstep B2.out HB3.out).mono T3.out.size)⟩
set_option maxRecDepth 100000 in
theorem lifted (os : Os) (started : os.Started) (H : Type) (enc : TypeId × Value → H) :
    ReturnsInHanded {} Tryz.checked os 3 .any (fun w args => (Rows.hintPlaysSpec.pre enc Tryz.prog Tryz.f3 [] false w args ∧ laidMetH Tryz.prog Rows.hintPlaysRow.laid w) ∧ sizedMet enc Tryz.prog Tryz.f3 (OpenSpec.ofChange Rows.hintPlaysSpec) false w args)
      (Rows.hintPlaysSpec.post enc Tryz.prog Tryz.f3 false true false false) := by
  refine returnsInHanded_of_change_and (C := Tryz.checked) (X := fun w _ => laidMetH Tryz.prog Rows.hintPlaysRow.laid w) (fun _ _ _ hh h => h.of_heap hh) Hs.own started (by kernel_rfl) Tryz.func3
    (ChangeSpec.witness_shaped (enc := enc) (C := Tryz.checked) (os := os) (X := fun w _ => laidMetH Tryz.prog Rows.hintPlaysRow.laid w) false (World.doorLaid Tryz.prog 76 os) #[.slice none 0 0] 8 rfl (World.shaped_of_RefB (by kernel_rfl) (by kernel_rfl)) (by kernel_rfl) (by kernel_rfl) (by kernel_rfl) (Hs.door_met os _)) ?_
  intro W base args ds gs before hval0 hW _ hsz0 hL _
  have hsz : (DataW.weightsEach Tryz.prog (Tryz.f3.params.toList ++ Rows.hintPlaysSpec.plain.varTypes Tryz.prog) (ds ++ gs)).all (· ≤ reachBytes) = true := hsz0
  have hval : ∀ (j : Nat) t v, Tryz.f3.params[j]? = some t → args[j]? = some v → Value.okWide Tryz.prog W .any base t v := hval0
  have hW' := hW
  obtain ⟨p, q, hA0, hV, rfl, hfz, hnd⟩ := hW
  have hA : DataW.TrodAll enc Tryz.prog W 0 (fun _ => true) true Tryz.f3.params.toList args.toList ds p := hA0
  rw [Tryz.params3] at hA hval hsz
  obtain ⟨v0, vs0, d0, ds0, p0, q0, hargs, rfl, rfl, h0, r0⟩ := trodAll_cons hA
  obtain ⟨rfl, rfl, rfl⟩ := trodAll_nil r0
  obtain rfl : args = #[v0] := by cases args; simp_all
  obtain ⟨rfl, rfl⟩ := trodVars_none hV
  have h0k := h0
  have hlt0 : ∀ x ∈ p0, x.block < W.heap.size := fun x hx => by have := hW'.lt x (by simp [hx]); simpa using this
  have hb0 : ∀ y ∈ DataW.weights Tryz.prog 22 d0, y ≤ reachBytes := fun y hy => by
    have := List.all_eq_true.1 hsz y (DataW.weights_mem_each (j := 0) rfl rfl y hy)
    simpa using this
  obtain ⟨L0, g0⟩ := open_hacts (hval 0 22 v0 rfl rfl) h0 hb0
  clear hA0 hval0
  simp only [List.append_nil] at hW'
  refine (walk v0 L0 W (gt_of_laid hL) g0).mono fun e W' ⟨he, hg⟩ => ?_
  subst he
  exact ⟨_, rfl, _, _, _, [], _, [], hW', trodAll_cons_mk (shut_bool Tryz.underlying4 _) trodAll_mk0,
    (trodAll_cons_mk (Below.trod Hs.laidOut (by kernel_rfl) (of_decide_eq_true (by kernel_rfl)) h0k hg hlt0) trodAll_mk0), rfl, hg.frame _, fun h => nomatch h⟩

theorem over : Rows.HintPlaysSaid :=
  OpenClaim.holds_of_wide 3 Tryz.f3 rfl rfl rfl rfl rfl rfl rfl ⟨rfl, rfl, rfl, rfl, rfl⟩ rfl rfl rfl rfl rfl (by kernel_rfl) Tryz.func3 (by kernel_rfl)
    (of_decide_eq_true (by kernel_rfl)) (by unfold Func.isWrapper; first | (rw [if_pos (by decide +kernel)]; kernel_rfl) | (rw [if_neg (by decide +kernel)]; exact ⟨rfl, rfl⟩))
    (fun os started H enc _ => lifted os started H enc)

theorem proved : Rows.HintPlaysCardSaid :=
  Claim7.holds_tied_plain_at .later [] [.data, .data, .data, .data, .data, .sentinel, .sentinel] true Rows.hintPlaysCard.stood.harness true
    over (fun _ h => by cases h) (by kernel_rfl) (fun _ h => by cases h) hintPlays_row_tie rfl ⟨rfl, rfl⟩ (by kernel_rfl) rfl
    (fun f fn hf hfn => by
      obtain rfl : f = 3 := Option.some.inj ((show Tryz.prog.funcNamed Rows.hintPlaysRow.func = some 3 by kernel_rfl).symm.trans hf) |>.symm
      obtain rfl : fn = Tryz.f3 := (Option.some.inj (Tryz.func3.symm.trans hfn)).symm
      exact ⟨by kernel_rfl, fun j t ht => by
        rw [Tryz.params3] at ht
        have hm : t ∈ [22] := by simpa using Array.mem_of_getElem? ht
        have hall : ([22].all fun u => !Tryz.prog.wantsStandIn u) = true := by kernel_rfl
        exact (show Tryz.prog.wantsStandIn t = false by simpa using List.all_eq_true.1 hall t hm)⟩)
    (by kernel_rfl)
end Go.Proofs.YtkjolaoajbdomaaGreatDoor.hintPlays
