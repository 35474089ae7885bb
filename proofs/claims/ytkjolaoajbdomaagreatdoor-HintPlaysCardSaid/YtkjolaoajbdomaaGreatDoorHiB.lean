/-
  The contracts of package hint's texts: sum, Text, Parse.
  Conditions: the tables and the errors that the calls read lie as the program's text lays them.
-/
import Derived.Test.YtkjolaoajbdomaaGreatDoorHiD
import Derived.Test.YtkjolaoajbdomaaGreatDoorShelfA
import Derived.Test.YtkjolaoajbdomaaGreatDoorShelfI
import Derived.Test.YtkjolaoajbdomaaGreatDoorHsX
import Derived.Test.YtkjolaoajbdomaaGreatDoorDkI
import Derived.Lib.ConvBytes
import Derived.Lib.AppendIntMem
namespace Go.Proofs.YtkjolaoajbdomaaGreatDoor.Hi
open Go.ChangeShapes Go.WideShapes Go.ChangeAt Go.RowKit Go.Joins By Ct Dk
set_option linter.unusedVariables false
set_option linter.unusedSimpArgs false

def Tab (w : World) : Prop := Lib.TabIs Tryz.prog w "internal/strconv.uint64pow10" .u64 Lib.pow10Tab
theorem Tab.below {w w' : World} (h : Tab w) (k : Below w.heap.size w w') : Tab w' := Lib.tabBelow_of_tabIs h w' k
theorem below_grow (w : World) (k : Nat) (os : Array Obj) : Below w.heap.size w (Sort.grow (w.drewN k) os) :=
  ⟨rfl, rfl, rfl, by show w.heap.size ≤ (w.heap ++ os).size; rw [Array.size_append]; omega, fun j hj => Lib.heap_grow_old w k os j (by omega)⟩
/-- a variable that holds an error. -/
def Er (w : World) (g : Nat) : Prop := ∃ ev, w.cell? ⟨g, 0, none⟩ = some ev ∧ (ev = .nilIface ∨ ∃ te pe, ev = .iface te pe)
theorem Er.below {w w' : World} {g : Nat} (h : Er w g) (k : Below w.heap.size w w') : Er w' g := by
  obtain ⟨ev, h1, h2⟩ := h
  exact ⟨ev, (k.cell (p := ⟨g, 0, none⟩) (World.block_lt_of_cell? w _ h1)).trans h1, h2⟩
/-- what the calls read of the program's variables. -/
def Gt (w : World) : Prop := Hs.Gl w ∧ Tab w ∧ Er w 4 ∧ Er w 5
theorem Gt.below {w w' : World} (h : Gt w) (k : Below w.heap.size w w') : Gt w' := ⟨h.1.below k, h.2.1.below k, h.2.2.1.below k, h.2.2.2.below k⟩

theorem conv_str (w : World) (s : ByteArray) : (convert 9 28 (.string s)).run Tryz.prog w = .ok (.slice (some ⟨w.heap.size, 0, none⟩) s.size (grownCap w s.size 0 5)) (Lib.bytesWorld w 5 s) :=
  Lib.run_convert_string_bytes w 9 28 5 s Tryz.underlying9 Tryz.underlying28 Tryz.underlying5
theorem conv_below (w : World) (s : ByteArray) : Below w.heap.size w (Lib.bytesWorld w 5 s) :=
  ⟨rfl, rfl, rfl, by rw [Lib.bytesWorld_size]; omega, fun j hj => Lib.bytesWorld_at_old w _ s j hj⟩
theorem conv_bytes (w : World) (s : ByteArray) : Hs.Bs (Lib.bytesWorld w 5 s) w.heap.size 0 s.size (gn s) :=
  ⟨by rw [Lib.bytesWorld_size]; omega, fun i => (s.data.toList.getD i 0).toNat_lt, fun i hi => by rw [Nat.zero_add]; exact Lib.bytesWorld_cell w _ s i hi⟩
theorem ls_size (l : List UInt8) : (⟨l.toArray⟩ : ByteArray).size = l.length := by show l.toArray.size = _; simp
theorem dl_len (s : ByteArray) : s.data.toList.length = s.size := by rw [Array.length_toList]; rfl
theorem ls_app (a b : List UInt8) : (⟨a.toArray⟩ : ByteArray) ++ ⟨b.toArray⟩ = ⟨(a ++ b).toArray⟩ := by
  apply ByteArray.ext
  rw [ByteArray.data_append]
  apply Array.toList_inj.1
  simp
theorem Itoa_c {n : Int} (w : World) (T : Tab w) (h : okT n = true) :
    Calls Tryz.prog 44 #[.int .i64 n] w fun e w' => e = .returned (.string ⟨(Lib.itoa n).toArray⟩) ∧ Below w.heap.size w w' := by
  have h' := okT_iff.1 h
  exact (Tryz.strconv_Itoa n (by omega) (by omega) w T).mono fun e w' ⟨he, k, os, hw⟩ => ⟨he, by rw [hw]; exact below_grow w k os⟩
theorem ext8 (L : List Nat) : (Hs.bs8 L).extract 0 8 = ⟨((L.map UInt8.ofNat).take 8).toArray⟩ := by
  apply ByteArray.ext
  rw [ByteArray.data_extract]
  apply Array.toList_inj.1
  unfold Hs.bs8
  simp
theorem sm_of (s : ByteArray) : sm s.data.toList = ((Hs.hxL (fun i => (Hs.md5 (gn s) s.size).getD i 0) 16).map UInt8.ofNat).take 8 := by
  unfold sm
  rw [dl_len]
  rfl
theorem sum_of (s : ByteArray) : (Hs.bs8 (Hs.hxL (fun i => (Hs.md5 (gn s) s.size).getD i 0) 16)).extract 0 8 = ⟨(sm s.data.toList).toArray⟩ ∧ (Hs.bs8 (Hs.hxL (fun i => (Hs.md5 (gn s) s.size).getD i 0) 16)).size = 32 := by
  refine ⟨by rw [sm_of, ext8], ?_⟩
  unfold Hs.bs8
  rw [ls_size, List.length_map, Hs.hxL_len]
set_option maxRecDepth 100000 in
set_option maxHeartbeats 8000000 in
theorem sum_c (s : ByteArray) (w : World) (E : Gt w) (hs : s.size ≤ 100) :
    Calls Tryz.prog 45 #[.string s] w fun e w' => e = .returned (.string ⟨(sm s.data.toList).toArray⟩) ∧ Below w.heap.size w w' := by
  have HE := Lib.hid E
  obtain ⟨S1, S2⟩ := sum_of s
  obtain ⟨H, hH⟩ : ∃ H, Hs.bs8 (Hs.hxL (fun i => (Hs.md5 (gn s) s.size).getD i 0) 16) = H := ⟨_, rfl⟩
  rw [hH] at S1 S2
  have HTE := Lib.hid hH
  have k8 : (8 : Int) ≤ (H.size : Int) := by omega
  generalize (⟨(sm s.data.toList).toArray⟩ : ByteArray) = R at *
  clear hH E
  go_enter Tryz.func45, Tryz.ntmps45
  have CV := conv_str w s
  have CB := Lib.hid (conv_below w s)
  have CY := Lib.hid (conv_bytes w s)
  have GC := grownCap_ge w s.size 0 5
  have GD := grownCap_le_maxLen w s.size 0 5 (by unfold maxLen; omega)
  unfold maxLen at GD
  generalize grownCap w s.size 0 5 = gc at *
  generalize Lib.bytesWorld w 5 s = w6 at *
  have MD := Lib.hid (Hs.MD5_c w.heap.size 0 s.size gc (gn s) w6 (HE.out.below CB.out).1 (by omega) GC (by omega) CY.out)
  clear CY GC GD
  go_wp2_with fail
  refine MD.out.mono ?_
  rintro x w7 ⟨⟨vv, rfl, own⟩, hb⟩
  have H1 := Hs.HexOwn_c own (by rw [Hs.md5_len]; omega) (Hs.ob_byte _ _ _) (by rw [Hs.md5_len]; omega)
  rw [Hs.md5_len, HTE.out] at H1
  have HX := Lib.hid H1
  have B7 := Lib.hid (bstep CB.out hb)
  clear hb own H1 MD CV
  go_wp2_with fail
  refine HX.out.mono ?_
  rintro x w8 ⟨rfl, hb⟩
  have B8 := Lib.hid (bstep B7.out hb)
  clear hb HX
  go_wp2_with fail
  go_ret
  exact ⟨rfl, B8.out⟩
theorem txt_of (n : Int) : (((⟨(hd n).toArray⟩ : ByteArray) ++ ⟨#[32]⟩) ++ ⟨(sm (hd n)).toArray⟩) ++ ⟨#[10]⟩ = ⟨(txt n).toArray⟩ := by
  rw [show (⟨#[32]⟩ : ByteArray) = ⟨[32].toArray⟩ from rfl, show (⟨#[10]⟩ : ByteArray) = ⟨[10].toArray⟩ from rfl, ls_app, ls_app, ls_app]
  unfold txt
  simp
theorem hd_of (n : Int) : (⟨#[100, 114, 105, 102, 116, 32]⟩ : ByteArray) ++ ⟨(Lib.itoa n).toArray⟩ = ⟨(hd n).toArray⟩ := by
  rw [show (⟨#[100, 114, 105, 102, 116, 32]⟩ : ByteArray) = ⟨drf.toArray⟩ from rfl, ls_app]
  rfl
set_option maxRecDepth 100000 in
theorem Text_no {n : Int} (w : World) (h : okT n = false) :
    Calls Tryz.prog 24 #[.int .i64 n] w fun e w' => e = .returned (.tuple #[.string ⟨#[]⟩, .int .i64 2]) ∧ w' = w := by
  by_cases c : n < -1000000000
  · have e1 : decide (n < -1000000000) = true := decide_eq_true c
    go_enter Tryz.func24, Tryz.ntmps24
    go_wp2_with fail
    exact bodyPost_ret (v := .tuple #[.string ⟨#[]⟩, .int .i64 2]) (by simp [results, Tryz.results24, go_sem]) rfl ⟨rfl, rfl⟩
  · have e1 : decide (n < -1000000000) = false := decide_eq_false c
    have e2 : decide (1000000000 < n) = true := decide_eq_true ((okT_not.1 h).resolve_left c)
    go_enter Tryz.func24, Tryz.ntmps24
    go_wp2_with fail
    exact bodyPost_ret (v := .tuple #[.string ⟨#[]⟩, .int .i64 2]) (by simp [results, Tryz.results24, go_sem]) rfl ⟨rfl, rfl⟩
set_option maxRecDepth 100000 in
set_option maxHeartbeats 8000000 in
theorem Text_c {n : Int} (w : World) (E : Gt w) (h : okT n = true) :
    Calls Tryz.prog 24 #[.int .i64 n] w fun e w' => e = .returned (.tuple #[.string ⟨(txt n).toArray⟩, .int .i64 0]) ∧ Below w.heap.size w w' := by
  have h' := okT_iff.1 h
  have e1 : decide (n < -1000000000) = false := decide_eq_false (by omega)
  have e2 : decide (1000000000 < n) = false := decide_eq_false (by omega)
  have IT := Lib.hid (Itoa_c w E.2.1 h)
  have HE := Lib.hid E
  have z1 : (⟨(Lib.itoa n).toArray⟩ : ByteArray).size ≤ 11 := by rw [ls_size]; exact (itoa_len h).1
  have D1 := hd_of n
  have z2 : (⟨(hd n).toArray⟩ : ByteArray).size ≤ 17 := by rw [ls_size, hd, List.length_append]; have := (itoa_len h).1; simp [drf]; omega
  have z3 : (⟨(sm (hd n)).toArray⟩ : ByteArray).size = 8 := by rw [ls_size, sm_len]
  have D2 := txt_of n
  have SM := Lib.hid (fun (w' : World) (q : Below w.heap.size w w') => sum_c ⟨(hd n).toArray⟩ w' (E.below q) (by omega))
  rw [show (⟨(hd n).toArray⟩ : ByteArray).data.toList = hd n from rfl] at SM
  generalize (⟨(txt n).toArray⟩ : ByteArray) = T at *
  generalize (⟨(sm (hd n)).toArray⟩ : ByteArray) = M at *
  generalize (⟨(hd n).toArray⟩ : ByteArray) = D at *
  generalize (⟨(Lib.itoa n).toArray⟩ : ByteArray) = I at *
  clear E h h'
  go_enter Tryz.func24, Tryz.ntmps24
  go_wp2_with fail
  refine IT.out.mono ?_
  rintro x w1 ⟨rfl, hb⟩
  have B1 := Lib.hid hb
  clear hb
  go_wp2_with fail
  refine (SM.out w1 B1.out).mono ?_
  rintro x w2 ⟨rfl, hb⟩
  have B2 := Lib.hid (bstep B1.out hb)
  clear hb
  go_wp2_with fail
  exact bodyPost_ret (v := .tuple #[.string T, .int .i64 0]) (by simp [results, Tryz.results24, go_sem]) rfl ⟨rfl, B2.out⟩
end Go.Proofs.YtkjolaoajbdomaaGreatDoor.Hi
